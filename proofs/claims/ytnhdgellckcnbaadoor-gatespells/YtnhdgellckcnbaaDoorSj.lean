/- Join, as it is walked. -/
import Derived.Test.YtnhdgellckcnbaaDoorSs
import Derived.Deep.QuietTactic
import Derived.BigQuiet
import Derived.Deep.DeepBigQuietO
namespace Go.Proofs.YtnhdgellckcnbaaDoor.Sca
open Go.RowKit Go.Lib Go.Shelf

theorem mixed_ok : Tryd.prog.follows .mixedOrders = true := by kernel_rfl
theorem wrapU (x : Int) : IntKind.u64.wrap x = x % 18446744073709551616 := by simp [IntKind.wrap, IntKind.bits, IntKind.signed]
theorem and_one (k : Nat) (h : k < 18446744073709551616) : bits .and .u64 (k : Int) 1 = ((k % 2 : Nat) : Int) := by
  rw [show (1 : Int) = ((1 : Nat) : Int) from rfl, u64_and_nat k 1 h (by decide), Nat.and_one_is_mod]
/-- What is shifted off, at the top of the word. -/
theorem rest_eq (m n : Nat) (hn : n ≤ 64) : IntKind.u64.wrap ((m : Int) * 2 ^ (64 - n)) = ((m % 2 ^ n * 2 ^ (64 - n) : Nat) : Int) := by
  rw [wrapU, show ((m : Int) * 2 ^ (64 - n)) = ((m * 2 ^ (64 - n) : Nat) : Int) from by rw [Int.natCast_mul, Int.natCast_pow]; rfl, ← Nat.mul_mod_mul_right, ← Nat.pow_add, show n + (64 - n) = 64 from by omega]
  rfl
theorem rhe_top (m n : Nat) (hn : n ≤ 64) : rhe m n = m / 2 ^ n + if 9223372036854775808 < m % 2 ^ n * 2 ^ (64 - n) ∨ 9223372036854775808 = m % 2 ^ n * 2 ^ (64 - n) ∧ m / 2 ^ n % 2 = 1 then 1 else 0 := by
  have hz : 0 < 2 ^ (64 - n) := Nat.two_pow_pos _
  have e : 2 ^ n * 2 ^ (64 - n) = 18446744073709551616 := by rw [← Nat.pow_add, show n + (64 - n) = 64 from by omega]
  have h1 : (2 ^ n < 2 * (m % 2 ^ n)) ↔ 9223372036854775808 < m % 2 ^ n * 2 ^ (64 - n) := by
    rw [← Nat.mul_lt_mul_right hz, e, Nat.mul_assoc]
    omega
  have h2 : (2 ^ n = 2 * (m % 2 ^ n)) ↔ 9223372036854775808 = m % 2 ^ n * 2 ^ (64 - n) := by
    rw [← Nat.mul_left_inj (a := 2 ^ (64 - n)) (by omega), e, Nat.mul_assoc]
    omega
  unfold rhe
  simp only [h1, h2]
theorem rhe_le {m n k : Nat} (h : m < 2 ^ (k + n)) : rhe m n ≤ 2 ^ k := by
  have h1 : m / 2 ^ n < 2 ^ k := by
    rw [Nat.div_lt_iff_lt_mul (Nat.two_pow_pos n), ← Nat.pow_add]
    exact h
  unfold rhe
  split <;> omega
theorem rung_clamp (m : Nat) (e : Int) (h0 : m ≠ 0) (hm : m < 18446744073709551616) : rung m (min (max e (-1200)) 1100) = rung m e := by
  by_cases c1 : e < -1200
  · rw [rung_small m e hm (by omega), rung_small m _ hm (by omega)]
  · by_cases c2 : 1100 < e
    · rw [rung_great m e h0 (by omega), rung_great m _ h0 (by omega)]
    · rw [show min (max e (-1200)) 1100 = e from by omega]
theorem or_sg (sg f : Nat) (hs : sg = 0 ∨ sg = 9223372036854775808) (hf : f < 9223372036854775808) : bits .or .u64 (sg : Int) (f : Int) = ((sg + f : Nat) : Int) := by
  rcases hs with rfl | rfl
  · rw [u64_or_nat 0 f (by decide) (by omega), Nat.zero_or, Nat.zero_add]
  · rw [u64_or_nat 9223372036854775808 f (by decide) (by omega), Nat.or_comm, or_top f hf, Nat.add_comm]
theorem bl_pos {m : Nat} (h : m ≠ 0) : bl m = m.log2 + 1 := by unfold bl; rw [if_neg h]

/-- What Join answers: the bits. -/
def joinB (m e : Int) : Nat := (if m < 0 then 9223372036854775808 else 0) + rung m.natAbs e
end Go.Proofs.YtnhdgellckcnbaaDoor.Sca
