/- Split, as it is walked. -/
import Derived.Test.YtnhdgellckcnbaaDoorSd
import Derived.Test.YtnhdgellckcnbaaDoorSShelf
namespace Go.Proofs.YtnhdgellckcnbaaDoor.Sca
open Go.RowKit Go.Lib Go.Shelf

theorem bitLenAux_eq : ∀ (f x : Nat), x < 2 ^ f → Lib.bitLenAux f x = bl x
  | 0, x, h => by
    rw [show x = 0 from by simp at h; exact h]
    rfl
  | f + 1, x, h => by
    unfold Lib.bitLenAux
    by_cases h0 : x = 0
    · rw [if_pos h0, h0]; rfl
    · rw [if_neg h0, bitLenAux_eq f (x / 2) (by rw [Nat.pow_succ] at h; omega), ← bl_half h0, Nat.add_comm]
theorem bitLen_eq (x : Nat) (h : x < 18446744073709551616) : Lib.bitLen x = bl x := bitLenAux_eq 64 x (show x < 2 ^ 64 from h)
/-- How often two goes into it; what is left. -/
def tz (m : Nat) : Nat := Lib.ctz 64 m
theorem tz_spec (m : Nat) (h0 : m ≠ 0) (h : m < 18446744073709551616) : (∃ k, m = 2 ^ tz m * (2 * k + 1)) ∧ tz m < 64 := by
  unfold tz Lib.ctz
  rw [if_neg h0]
  obtain ⟨k, h1, h2⟩ := ctzFrom_spec 64 m (by omega) (show m < 2 ^ 64 from h)
  exact ⟨⟨k, h1⟩, h2⟩
def odd (m : Nat) : Nat := m / 2 ^ tz m
theorem odd_mul (m : Nat) (h0 : m ≠ 0) (h : m < 18446744073709551616) : odd m * 2 ^ tz m = m ∧ odd m % 2 = 1 := by
  obtain ⟨⟨k, hk⟩, _⟩ := tz_spec m h0 h
  have hp := Nat.two_pow_pos (tz m)
  have e : odd m = 2 * k + 1 := by
    unfold odd
    generalize 2 ^ tz m = z at *
    rw [hk, Nat.mul_div_cancel_left _ hp]
  rw [e]
  exact ⟨by rw [Nat.mul_comm]; exact hk.symm, by omega⟩
theorem odd_le (m : Nat) : odd m ≤ m := Nat.div_le_self _ _

/-- What Split answers of a finite float. -/
def spM (b : Nat) : Int := if mg b = 0 then 0 else if sb b = 0 then (odd (mOf b) : Int) else -(odd (mOf b) : Int)
def spE (b : Nat) : Int := if mg b = 0 then 0 else pOf b + (tz (mOf b) : Int)
def spF (b : Nat) : Int := if mg b < 9218868437227405312 then 0 else 20

theorem and_frac (b : Nat) (h : b < 18446744073709551616) : bits .and .u64 (b : Int) 4503599627370495 = ((b % 4503599627370496 : Nat) : Int) := by
  rw [show (4503599627370495 : Int) = ((4503599627370495 : Nat) : Int) from rfl, u64_and_nat b 4503599627370495 h (by decide)]
  congr 1
  exact Nat.and_two_pow_sub_one_eq_mod b 52

theorem i64_or_nat (a b : Nat) (ha : a < 9223372036854775808) (hb : b < 9223372036854775808) : bits .or .i64 (a : Int) (b : Int) = ((a ||| b : Nat) : Int) := by
  have hx : a ||| b < 2 ^ 63 := Nat.or_lt_two_pow (by omega) (by omega)
  show IntKind.i64.wrap ((BitVec.ofInt 64 (a : Int) ||| BitVec.ofInt 64 (b : Int)).toNat : Int) = _
  rw [BitVec.toNat_or, BitVec.ofInt_natCast, BitVec.ofInt_natCast, BitVec.toNat_ofNat, BitVec.toNat_ofNat, Nat.mod_eq_of_lt (by omega), Nat.mod_eq_of_lt (by omega)]
  generalize a ||| b = z at *
  simp [IntKind.wrap, IntKind.bits, IntKind.signed]
  omega
theorem or_hidden (d : Nat) (h : d < 4503599627370496) : bits .or .i64 (d : Int) 4503599627370496 = ((d + 4503599627370496 : Nat) : Int) := by
  rw [show (4503599627370496 : Int) = ((4503599627370496 : Nat) : Int) from rfl, i64_or_nat d 4503599627370496 (by omega) (by decide)]
  congr 1
  have e := Nat.two_pow_add_eq_or_of_lt (i := 52) (b := d) h 1
  rw [Nat.mul_one] at e
  rw [Nat.or_comm, show (4503599627370496 : Nat) = 2 ^ 52 from rfl, ← e, Nat.add_comm]
end Go.Proofs.YtnhdgellckcnbaaDoor.Sca
