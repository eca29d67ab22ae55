/- Rounding a number by its first 64 bits and whether something lies behind: plain facts. -/
import Derived.Test.YtnpdfkcjjedamaaGreatDoorWe
namespace Go.Proofs.YtnpdfkcjjedamaaGreatDoor.Sca
open Go.RowKit Go.Lib Go.Shelf

theorem or_one (m : Nat) : m ||| 1 = 2 * (m / 2) + 1 := by
  have h := Nat.two_pow_add_eq_or_of_lt (i := 1) (b := 1) (by decide) (m / 2)
  have hm : m ||| 1 = 2 * (m / 2) ||| 1 := by
    apply Nat.eq_of_testBit_eq
    intro i
    rw [Nat.testBit_or, Nat.testBit_or]
    cases i with
    | zero => simp
    | succ i => rw [Nat.testBit_succ, Nat.testBit_succ, Nat.testBit_succ]; rw [show 2 * (m / 2) / 2 = m / 2 from by omega]
  rw [hm]
  exact h.symm
/-- A number with its last bit set, if something lies behind. -/
def stk (N s : Nat) : Nat := if N % 2 ^ s = 0 then N / 2 ^ s else N / 2 ^ s ||| 1
theorem rhe_sticky (N s d : Nat) (hd : 2 ≤ d) : rhe N (s + d) = rhe (stk N s) d := by
  obtain ⟨u, hu⟩ : ∃ u, 2 ^ d = 4 * u := ⟨2 ^ (d - 2), by rw [show (4 : Nat) = 2 ^ 2 from rfl, ← Nat.pow_add]; congr 1; omega⟩
  have hS : 0 < 2 ^ s := Nat.two_pow_pos s
  have hD : 0 < 2 ^ d := Nat.two_pow_pos d
  have h1 : N / 2 ^ (s + d) = N / 2 ^ s / 2 ^ d := by rw [Nat.pow_add, Nat.div_div_eq_div_mul]
  have h2 : N % 2 ^ (s + d) = N % 2 ^ s + 2 ^ s * (N / 2 ^ s % 2 ^ d) := by rw [Nat.pow_add, Nat.mod_mul]
  have hr : N % 2 ^ s < 2 ^ s := Nat.mod_lt _ hS
  unfold rhe stk
  rw [h1, h2, Nat.pow_add]
  generalize N / 2 ^ s = m at *
  generalize N % 2 ^ s = r at *
  generalize 2 ^ s = S at *
  rw [hu] at *
  have hq : m % (4 * u) < 4 * u := Nat.mod_lt _ hD
  by_cases h0 : r = 0
  · subst h0
    rw [if_pos rfl]
    generalize m / (4 * u) = A at *
    generalize m % (4 * u) = q at *
    congr 1
    have e1 : (S * (4 * u) < 2 * (0 + S * q)) ↔ 4 * u < 2 * q := by
      rw [Nat.zero_add, Nat.mul_left_comm 2 S q]
      exact Nat.mul_lt_mul_left hS
    have e2 : (S * (4 * u) = 2 * (0 + S * q)) ↔ 4 * u = 2 * q := by
      rw [Nat.zero_add, Nat.mul_left_comm 2 S q]
      exact Nat.mul_right_inj (by omega)
    simp only [e1, e2]
  · rw [if_neg h0, or_one]
    have hA : (2 * (m / 2) + 1) / (4 * u) = m / (4 * u) ∧ (2 * (m / 2) + 1) % (4 * u) = 2 * (m % (4 * u) / 2) + 1 := by
      have hm := Nat.div_add_mod m (4 * u)
      have hx : 2 * (m / 2) + 1 = 4 * u * (m / (4 * u)) + (2 * (m % (4 * u) / 2) + 1) := by
        have : 4 * u * (m / (4 * u)) = 2 * (2 * u * (m / (4 * u))) := by rw [← Nat.mul_assoc, ← Nat.mul_assoc]
        omega
      rw [hx]
      have hl : 2 * (m % (4 * u) / 2) + 1 < 4 * u := by omega
      exact ⟨by rw [Nat.mul_add_div hD, Nat.div_eq_of_lt hl, Nat.add_zero], by rw [Nat.mul_add_mod, Nat.mod_eq_of_lt hl]⟩
    rw [hA.1, hA.2]
    generalize m / (4 * u) = A at *
    generalize m % (4 * u) = q at *
    congr 1
    by_cases hc : 2 * u ≤ q
    · have : S * (2 * u) ≤ S * q := Nat.mul_le_mul_left _ hc
      rw [show S * (4 * u) = 2 * (S * (2 * u)) from by rw [Nat.mul_left_comm 2 S]; congr 1; omega]
      rw [if_pos (.inl (by omega)), if_pos (.inl (by omega))]
    · have : S * (q + 1) ≤ S * (2 * u) := Nat.mul_le_mul_left _ (by omega)
      rw [Nat.mul_add, Nat.mul_one] at this
      rw [show S * (4 * u) = 2 * (S * (2 * u)) from by rw [Nat.mul_left_comm 2 S]; congr 1; omega]
      rw [if_neg (by omega), if_neg (by omega)]
theorem log2_or {m : Nat} (h : 2 ≤ m) : (2 * (m / 2) + 1).log2 = m.log2 := by
  have h1 : 2 ^ m.log2 ≤ m := Nat.log2_self_le (by omega)
  have h2 : m < 2 ^ (m.log2 + 1) := Nat.lt_log2_self
  have h3 : m.log2 ≠ 0 := by
    intro e
    rw [e] at h2
    omega
  obtain ⟨t, ht⟩ : ∃ t, 2 ^ m.log2 = 2 * t := ⟨2 ^ (m.log2 - 1), by rw [← Nat.pow_succ']; congr 1; omega⟩
  rw [Nat.pow_succ] at h2
  refine (Nat.log2_eq_iff (by omega)).2 ⟨by omega, by rw [Nat.pow_succ]; omega⟩
theorem log2_div (N s : Nat) (h : 2 ^ s ≤ N) : (N / 2 ^ s).log2 + s = N.log2 := by
  have hS : 0 < 2 ^ s := Nat.two_pow_pos s
  have h0 : N / 2 ^ s ≠ 0 := by
    have := Nat.div_pos h hS
    omega
  have h1 : 2 ^ (N / 2 ^ s).log2 ≤ N / 2 ^ s := Nat.log2_self_le h0
  have h2 : N / 2 ^ s < 2 ^ ((N / 2 ^ s).log2 + 1) := Nat.lt_log2_self
  symm
  refine (Nat.log2_eq_iff (by omega)).2 ⟨?_, ?_⟩
  · rw [Nat.pow_add]; exact (Nat.le_div_iff_mul_le hS).1 h1
  · rw [show (N / 2 ^ s).log2 + s + 1 = (N / 2 ^ s).log2 + 1 + s from by omega, Nat.pow_add]; exact (Nat.div_lt_iff_lt_mul hS).1 h2
theorem rung_sticky (N s : Nat) (p : Int) (h : 9223372036854775808 ≤ N / 2 ^ s) : rung N p = rung (stk N s) (p + s) := by
  have hS : 0 < 2 ^ s := Nat.two_pow_pos s
  have hN : 2 ^ s ≤ N := by
    have := (Nat.le_div_iff_mul_le hS).1 h
    have : 1 * 2 ^ s ≤ 9223372036854775808 * 2 ^ s := Nat.mul_le_mul_right _ (by decide)
    omega
  have hl := log2_div N s hN
  have hs0 : stk N s ≠ 0 := by unfold stk; rw [or_one]; split <;> omega
  have hsl : (stk N s).log2 = (N / 2 ^ s).log2 := by
    unfold stk
    split
    · rfl
    · rw [or_one]; exact log2_or (by omega)
  have h63 : 63 ≤ (N / 2 ^ s).log2 := (Nat.le_log2 (by omega)).2 h
  unfold rung
  rw [if_neg (by omega), if_neg hs0]
  have hL : lastP N p = lastP (stk N s) (p + s) := by unfold lastP; rw [hsl, ← hl]; omega
  have hge : p + s + 11 ≤ lastP N p := by unfold lastP; omega
  rw [← hL]
  generalize lastP N p = L at *
  congr 2
  rw [show (p - L).toNat = 0 from by omega, show (p + s - L).toNat = 0 from by omega, Nat.pow_zero, Nat.mul_one, Nat.mul_one, show (L - p).toNat = s + (L - (p + s)).toNat from by omega]
  exact rhe_sticky N s _ (by omega)
end Go.Proofs.YtnpdfkcjjedamaaGreatDoor.Sca
