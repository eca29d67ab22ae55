/- Plus a nought; a rounded number, put together step by step: plain facts. -/
import Derived.Test.YtedmdeifjmconaaDoorSh
namespace Go.Proofs.YtedmdeifjmconaaDoor.Sca

theorem read_zero : dbl.read 0 = .number false 0 (-1074) := by decide +kernel
theorem word_of (s : Bool) (r : Nat) : dbl.word s r = (if s then 9223372036854775808 else 0) + r := by
  unfold Ieee.Format.word
  rw [dbl_sw]
  cases s <;> simp
theorem neg_sb (b : Nat) (h : b < 18446744073709551616) : (if neg b then 9223372036854775808 else 0) = sb b := by
  have := word_neg b 0 h
  rw [word_of] at this
  omega
theorem pOf_ge (b : Nat) : -1074 ≤ pOf b := by unfold pOf; omega
theorem mOf_zero (b : Nat) : mOf b = 0 ↔ mg b = 0 := by unfold mOf; split <;> omega
theorem add_zero_fin (b : Nat) (hb : b < 18446744073709551616) (h : mg b < 9218868437227405312) : floatBits .add .f64 b 0 = some (if mg b = 0 then 0 else b) := by
  show Ieee.Format.add dbl b 0 = _
  unfold Ieee.Format.add
  rw [read_num b h, read_zero]
  unfold Ieee.Datum.sum
  have hp := pOf_ge b
  have hmin : min (pOf b) (-1074) = -1074 := by omega
  simp only [hmin, Option.map_some]
  have e0 : ∀ s, Ieee.signed s 0 (-1074 - -1074 : Int).toNat = 0 := by intro s; cases s <;> rfl
  rw [e0, Int.add_zero]
  have hm0 := mOf_zero b
  by_cases c : mg b = 0
  · have c' : mOf b = 0 := hm0.2 c
    rw [if_pos c, c']
    have e1 : ∀ s k, Ieee.signed s 0 k = 0 := by intro s k; cases s <;> simp [Ieee.signed]
    simp only [e1, if_true, Bool.and_false]
    rfl
  · have c' : mOf b ≠ 0 := fun h => c (hm0.1 h)
    rw [if_neg c]
    have hpos : 0 < mOf b <<< (pOf b - -1074).toNat := by rw [Nat.shiftLeft_eq]; exact Nat.mul_pos (by omega) (Nat.two_pow_pos _)
    have hs : ∀ s, Ieee.signed s (mOf b) (pOf b - -1074).toNat ≠ 0 ∧ (Ieee.signed s (mOf b) (pOf b - -1074).toNat).natAbs = mOf b <<< (pOf b - -1074).toNat ∧ decide (Ieee.signed s (mOf b) (pOf b - -1074).toNat < 0) = s := by
      intro s
      unfold Ieee.signed
      generalize mOf b <<< (pOf b - -1074).toNat = z at *
      cases s
      · exact ⟨by simp; omega, by simp, by simp⟩
      · exact ⟨by simp; omega, by simp, by simp; omega⟩
    obtain ⟨h1, h2, h3⟩ := hs (neg b)
    rw [if_neg h1, h2, h3]
    unfold Ieee.Format.write
    show some (dbl.nearest (neg b) (mOf b <<< (pOf b - -1074).toNat) (-1074)) = _
    rw [nearest_eq, word_neg b _ hb, Nat.shiftLeft_eq]
    have := rung_scale (mOf b) (pOf b - -1074).toNat (pOf b)
    rw [show pOf b - ((pOf b - -1074).toNat : Int) = -1074 from by omega] at this
    rw [this, rung_read b h, ← mg_sb]
theorem add_zero_inf (b : Nat) (hb : b < 18446744073709551616) (h : mg b = 9218868437227405312) : floatBits .add .f64 b 0 = some b := by
  show Ieee.Format.add dbl b 0 = _
  unfold Ieee.Format.add
  rw [read_inf b h, read_zero]
  simp only [Ieee.Datum.sum, Option.map_some, Ieee.Format.write]
  rw [word_neg b _ hb, dbl_ir, ← h, ← mg_sb]

/-- How many bits a number has. -/
def bl (m : Nat) : Nat := if m = 0 then 0 else m.log2 + 1
theorem bl_lt {m k : Nat} (h : m < 2 ^ k) : bl m ≤ k := by
  unfold bl
  split
  · omega
  · rename_i h0
    have := (Nat.log2_lt h0).2 h
    omega
theorem bl_half {m : Nat} (h : m ≠ 0) : bl (m / 2) + 1 = bl m := by
  unfold bl
  rw [if_neg h, Nat.log2_def m]
  by_cases c : m / 2 = 0
  · rw [if_pos c, if_neg (by omega)]
  · rw [if_neg c, if_pos (by omega)]

/-- Too small. -/
theorem rung_small (m : Nat) (p : Int) (hm : m < 18446744073709551616) (hp : p < -1139) : rung m p = 0 := by
  have hl : m.log2 ≤ 63 := log2_le hm
  have hL : lastP m p = -1074 := by unfold lastP; omega
  unfold rung
  by_cases h0 : m = 0
  · rw [if_pos h0]
  · rw [if_neg h0, hL, show (p - -1074).toNat = 0 from by omega, Nat.pow_zero, Nat.mul_one]
    have : 2 ^ 65 ≤ 2 ^ (-1074 - p).toNat := Nat.pow_le_pow_right (by decide) (by omega)
    rw [rhe_small (by omega), show (-1074 + 1074 : Int).toNat = 0 from rfl]
    rfl
/-- Too great. -/
theorem rung_great (m : Nat) (p : Int) (h0 : m ≠ 0) (hp : 1024 ≤ p) : rung m p = 9218868437227405312 := by
  unfold rung
  rw [if_neg h0]
  have hL : p - 52 ≤ lastP m p := by unfold lastP; omega
  have : 2046 ≤ (lastP m p + 1074).toNat := by omega
  generalize hk : (lastP m p + 1074).toNat = k at *
  by_cases c : k = 2046
  · have hz : m.log2 = 0 := by unfold lastP at hk hL; omega
    have hL' : lastP m p = p - 52 := by unfold lastP at hk ⊢; omega
    have hm1 : m = 1 := by
      have := (Nat.log2_eq_iff h0).1 hz
      omega
    rw [hL', hm1, show (p - (p - 52)).toNat = 52 from by omega, show (p - 52 - p).toNat = 0 from by omega, rhe_zero, c]
    rfl
  · have : 2047 * 4503599627370496 ≤ k * 4503599627370496 := Nat.mul_le_mul_right _ (by omega)
    omega
end Go.Proofs.YtedmdeifjmconaaDoor.Sca
