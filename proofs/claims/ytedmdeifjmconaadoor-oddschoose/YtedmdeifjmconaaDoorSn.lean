/- Rounding to the nearest, ties to even: plain facts on the model's own words for it. -/
import Derived.Laws.FloatArith
namespace Go.Proofs.YtedmdeifjmconaaDoor.Sca

/-- n over 2^d, to the nearest, a tie to the even one. -/
def rhe (n d : Nat) : Nat := n / 2 ^ d + if 2 ^ d < 2 * (n % 2 ^ d) ∨ 2 ^ d = 2 * (n % 2 ^ d) ∧ n / 2 ^ d % 2 = 1 then 1 else 0
theorem rhe_zero (n : Nat) : rhe n 0 = n := by
  unfold rhe
  rw [if_neg (by omega)]
  omega
theorem rhe_mul (n d k : Nat) : rhe (n * 2 ^ k) (d + k) = rhe n d := by
  have hk : 0 < 2 ^ k := Nat.two_pow_pos k
  have h1 : n * 2 ^ k / 2 ^ (d + k) = n / 2 ^ d := by rw [Nat.pow_add, Nat.mul_div_mul_right _ _ hk]
  have h2 : n * 2 ^ k % 2 ^ (d + k) = n % 2 ^ d * 2 ^ k := by rw [Nat.pow_add, Nat.mul_mod_mul_right]
  unfold rhe
  rw [h1, h2, Nat.pow_add, ← Nat.mul_assoc]
  congr 1
  have e1 : (2 ^ d * 2 ^ k < 2 * (n % 2 ^ d) * 2 ^ k) ↔ 2 ^ d < 2 * (n % 2 ^ d) := Nat.mul_lt_mul_right hk
  have e2 : (2 ^ d * 2 ^ k = 2 * (n % 2 ^ d) * 2 ^ k) ↔ 2 ^ d = 2 * (n % 2 ^ d) := Nat.mul_left_inj (by omega)
  simp only [e1, e2]
theorem rhe_exact (n d : Nat) : rhe (n * 2 ^ d) d = n := by
  have := rhe_mul n 0 d
  rw [Nat.zero_add] at this
  rw [this, rhe_zero]
theorem rhe_small {n d : Nat} (h : 2 * n < 2 ^ d) : rhe n d = 0 := by
  unfold rhe
  rw [Nat.div_eq_of_lt (by omega), Nat.mod_eq_of_lt (by omega), if_neg (by omega)]
theorem cut_even (neg : Bool) (n drop : Nat) : Ieee.Toward.even.cut neg n drop = rhe n drop := by
  unfold Ieee.Toward.cut
  dsimp only
  by_cases h : drop ≤ n.log2 + 2
  · rw [Nat.min_eq_left h, Nat.one_shiftLeft]
    unfold rhe
    congr 1
    by_cases h1 : 2 ^ drop < 2 * (n % 2 ^ drop)
    · simp [h1]
    · by_cases h2 : 2 ^ drop = 2 * (n % 2 ^ drop) ∧ n / 2 ^ drop % 2 = 1
      · rw [if_pos (Or.inr h2)]
        simp [← h2.1, h2.2]
      · rw [if_neg (fun h => h.elim h1 h2)]
        have : (decide (2 ^ drop < 2 * (n % 2 ^ drop)) || (2 ^ drop == 2 * (n % 2 ^ drop) && n / 2 ^ drop % 2 == 1)) = false := by
          rw [Bool.or_eq_false_iff]
          refine ⟨decide_eq_false h1, ?_⟩
          cases hb : (2 ^ drop == 2 * (n % 2 ^ drop) && n / 2 ^ drop % 2 == 1)
          · rfl
          · rw [Bool.and_eq_true, beq_iff_eq, beq_iff_eq] at hb
            exact absurd hb h2
        rw [this]
        rfl
  · have hlog : n < 2 ^ (n.log2 + 1) := Nat.lt_log2_self
    have hg : 2 ^ (n.log2 + 2) = 2 * 2 ^ (n.log2 + 1) := by rw [Nat.pow_succ, Nat.mul_comm]
    have hle : 2 ^ (n.log2 + 2) ≤ 2 ^ drop := Nat.pow_le_pow_right (by decide) (by omega)
    rw [Nat.min_eq_right (by omega), Nat.one_shiftLeft, rhe_small (by omega), Nat.div_eq_of_lt (by omega), Nat.mod_eq_of_lt (by omega)]
    have h1 : ¬ (2 ^ (n.log2 + 2) < 2 * n) := by omega
    simp [h1]
abbrev dbl : Ieee.Format := FloatKind.f64.format
theorem dbl_sw : dbl.signWeight = 9223372036854775808 := by decide +kernel
theorem dbl_ir : dbl.infRung = 9218868437227405312 := by decide +kernel
theorem dbl_bi : dbl.binade = 4503599627370496 := by decide +kernel
theorem dbl_lp : dbl.leastPlace = -1074 := by decide +kernel
theorem dbl_fb : dbl.fractionBits = 52 := by decide +kernel
/-- The place of the last digit that is kept. -/
def lastP (m : Nat) (p : Int) : Int := max (p + m.log2 - 52) (-1074)
/-- The rung of m times 2^p. -/
def rung (m : Nat) (p : Int) : Nat := if m = 0 then 0 else min ((lastP m p + 1074).toNat * 4503599627370496 + rhe (m * 2 ^ (p - lastP m p).toNat) (lastP m p - p).toNat) 9218868437227405312
theorem nearest_eq (neg : Bool) (m : Nat) (p : Int) : dbl.nearest neg m p = dbl.word neg (rung m p) := by
  unfold Ieee.Format.nearest rung
  by_cases h : m = 0
  · rw [if_pos h, if_pos h]
  · rw [if_neg h, if_neg h]
    simp only [cut_even, dbl_lp, dbl_fb, dbl_bi, dbl_ir, Nat.shiftLeft_eq]
    unfold lastP
    congr 3
theorem log2_scale {m : Nat} (h : m ≠ 0) (k : Nat) : (m * 2 ^ k).log2 = m.log2 + k := by
  have h1 : 2 ^ m.log2 ≤ m := Nat.log2_self_le h
  have h2 : m < 2 ^ (m.log2 + 1) := Nat.lt_log2_self
  have hk : 0 < 2 ^ k := Nat.two_pow_pos k
  have hn : m * 2 ^ k ≠ 0 := by have := Nat.mul_pos (Nat.pos_of_ne_zero h) hk; omega
  refine (Nat.log2_eq_iff hn).2 ⟨?_, ?_⟩
  · rw [Nat.pow_add]; exact Nat.mul_le_mul_right _ h1
  · rw [show m.log2 + k + 1 = m.log2 + 1 + k from by omega, Nat.pow_add]; exact Nat.mul_lt_mul_of_pos_right h2 hk
theorem rung_scale (m k : Nat) (p : Int) : rung (m * 2 ^ k) (p - k) = rung m p := by
  have hk : 0 < 2 ^ k := Nat.two_pow_pos k
  unfold rung
  by_cases h : m = 0
  · rw [if_pos h, if_pos (by rw [h, Nat.zero_mul])]
  · have hn : m * 2 ^ k ≠ 0 := by have := Nat.mul_pos (Nat.pos_of_ne_zero h) hk; omega
    rw [if_neg h, if_neg hn]
    have hl : lastP (m * 2 ^ k) (p - k) = lastP m p := by unfold lastP; rw [log2_scale h]; omega
    rw [hl]
    generalize lastP m p = L
    congr 2
    by_cases c1 : L ≤ p - k
    · rw [show (L - (p - k)).toNat = 0 from by omega, show (L - p).toNat = 0 from by omega, rhe_zero, rhe_zero, show (p - L).toNat = k + (p - k - L).toNat from by omega, Nat.pow_add, ← Nat.mul_assoc]
    · by_cases c2 : L ≤ p
      · rw [show (p - k - L).toNat = 0 from by omega, show (L - p).toNat = 0 from by omega, rhe_zero, Nat.pow_zero, Nat.mul_one, show k = (p - L).toNat + (L - (p - k)).toNat from by omega, Nat.pow_add, ← Nat.mul_assoc]
        rw [show (L - (p - ((p - L).toNat + (L - (p - k)).toNat : Nat))).toNat = (L - (p - k)).toNat from by omega]
        exact rhe_exact _ _
      · rw [show (p - k - L).toNat = 0 from by omega, show (p - L).toNat = 0 from by omega, Nat.pow_zero, Nat.mul_one, Nat.mul_one, show (L - (p - k)).toNat = (L - p).toNat + k from by omega]
        exact rhe_mul _ _ _
end Go.Proofs.YtedmdeifjmconaaDoor.Sca
