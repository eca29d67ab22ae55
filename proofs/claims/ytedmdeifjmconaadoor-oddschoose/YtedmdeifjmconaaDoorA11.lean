/- Floats that weigh: plain facts. -/
import Derived.Test.YtedmdeifjmconaaDoorSp
import Derived.Test.YtedmdeifjmconaaDoorSb
namespace Go.Proofs.YtedmdeifjmconaaDoor.Odd
open Go.RowKit Go.Proofs.YtedmdeifjmconaaDoor.Sca

def I : Nat := 9218868437227405312
theorem zero_read (z : Nat) (hz : z = 0 ∨ z = 9223372036854775808) : ∃ s, dbl.read z = .number s 0 (-1074) := by
  rcases hz with rfl | rfl
  · exact ⟨false, by decide +kernel⟩
  · exact ⟨true, by decide +kernel⟩
theorem cmp_lt {a b : Int} (h : a < b) : compare a b = .lt := by
  show compareOfLessAndEq a b = _
  unfold compareOfLessAndEq
  rw [if_pos h]
theorem cmp_gt {a b : Int} (h : b < a) : compare a b = .gt := by
  show compareOfLessAndEq a b = _
  unfold compareOfLessAndEq
  rw [if_neg (by omega), if_neg (by omega)]
theorem cmp_eq {a b : Int} (h : a = b) : compare a b = .eq := by
  show compareOfLessAndEq a b = _
  unfold compareOfLessAndEq
  rw [if_neg (by omega), if_pos h]
theorem sgn_zero (s : Bool) (k : Nat) : Ieee.signed s 0 k = 0 := by
  unfold Ieee.signed
  cases s <;> simp
/-- How a float stands to a nought. -/
theorem ord0 (b z : Nat) (hz : z = 0 ∨ z = 9223372036854775808) : dbl.order b z = if 9218868437227405312 < mg b then none else some (if mg b = 0 then .eq else if neg b then .lt else .gt) := by
  obtain ⟨s, hs⟩ := zero_read z hz
  unfold Ieee.Format.order
  rw [hs]
  by_cases h1 : 9218868437227405312 < mg b
  · obtain ⟨t, e⟩ := read_nan b h1
    rw [e, if_pos h1]
    rfl
  · rw [if_neg h1]
    by_cases h2 : mg b = 9218868437227405312
    · rw [read_inf b h2, if_neg (by omega)]
      rfl
    · rw [read_num b (by omega)]
      unfold Ieee.Datum.order
      simp only [sgn_zero]
      congr 1
      by_cases h3 : mg b = 0
      · rw [(mOf_zero b).2 h3, sgn_zero, if_pos h3]
        rfl
      · have hm : mOf b ≠ 0 := fun e => h3 ((mOf_zero b).1 e)
        rw [if_neg h3]
        generalize (pOf b - min (pOf b) (-1074)).toNat = k
        have hp : 0 < mOf b <<< k := by
          rw [Nat.shiftLeft_eq]
          exact Nat.mul_pos (by omega) (Nat.two_pow_pos k)
        unfold Ieee.signed
        cases neg b with
        | true => simp only [if_true]; exact cmp_lt (by omega)
        | false => simp only [Bool.false_eq_true, if_false]; exact cmp_gt (by omega)
/-- Not below 0. -/
def ge0 (b : Nat) : Bool := FloatKind.f64.format.order b 0 == some .gt || FloatKind.f64.format.order b 0 == some .eq
theorem ge0_iff (b : Nat) : ge0 b = true ↔ ¬ 9218868437227405312 < mg b ∧ (mg b = 0 ∨ neg b = false) := by
  unfold ge0
  rw [ord0 b 0 (.inl rfl)]
  by_cases h1 : 9218868437227405312 < mg b
  · simp [h1]
  · rw [if_neg h1]
    by_cases h3 : mg b = 0
    · simp [h3]
    · cases neg b <;> simp [h3, h1]
/-- From 0 to below 1. -/
def frc (b : Nat) : Bool := ge0 b && FloatKind.f64.format.order b 4607182418800017408 == some .lt
/-- Finite and not below 0. -/
def wgt (b : Nat) : Bool := decide (mg b < 9218868437227405312) && ge0 b
theorem wgt_cls (b : Nat) : wgt b = (decide (clsOf b ≠ 1) && decide (clsOf b ≠ 2) && ge0 b) := by
  unfold wgt clsOf
  by_cases h1 : 9218868437227405312 < mg b
  · have : ¬ mg b < 9218868437227405312 := by omega
    simp [h1, this]
  · by_cases h2 : mg b = 9218868437227405312
    · simp [h2]
    · have : mg b < 9218868437227405312 := by omega
      rw [if_neg h1, if_neg h2]
      split
      · simp [this]
      · split <;> simp [this]
theorem frc_fin (b : Nat) (h : frc b = true) : mg b < 9218868437227405312 ∧ (mg b = 0 ∨ neg b = false) := by
  unfold frc at h
  rw [Bool.and_eq_true] at h
  have h1 := (ge0_iff b).1 h.1
  refine ⟨?_, h1.2⟩
  by_cases h2 : mg b = 9218868437227405312
  · have h3 := h.2
    have hn : neg b = false := by
      rcases h1.2 with e | e
      · omega
      · exact e
    rw [show FloatKind.f64.format.order b 4607182418800017408 = (dbl.read b).order (dbl.read 4607182418800017408) from rfl, read_inf b h2, hn, show dbl.read 4607182418800017408 = .number false 4503599627370496 (-52) by decide +kernel] at h3
    simp [Ieee.Datum.order] at h3
  · omega
theorem wgt_fin (b : Nat) (h : wgt b = true) : mg b < 9218868437227405312 ∧ (mg b = 0 ∨ neg b = false) := by
  unfold wgt at h
  rw [Bool.and_eq_true] at h
  exact ⟨by simpa using h.1, ((ge0_iff b).1 h.2).2⟩
theorem nan_wgt (b : Nat) (h : 9218868437227405312 < mg b) : wgt b = false := by
  unfold wgt
  rw [decide_eq_false (by omega)]
  rfl
theorem sub_fin (b : Nat) (h : mg b < 9218868437227405312) : floatBits .sub .f64 b b = some 0 := by
  show Ieee.Format.sub dbl b b = _
  unfold Ieee.Format.sub
  rw [read_num b h]
  have hz : Ieee.signed (neg b) (mOf b) 0 + Ieee.signed (!neg b) (mOf b) 0 = 0 := by
    unfold Ieee.signed
    cases neg b <;> simp <;> omega
  have hw : dbl.write (.number false 0 (pOf b)) = 0 := by
    show dbl.nearest false 0 (pOf b) = 0
    rw [nearest_eq, word_of]
    simp [rung]
  simp only [Ieee.Datum.opposite, Ieee.Datum.sum, Int.min_self, Int.sub_self, Int.toNat_zero, hz, if_true, Option.map_some, Int.natAbs_zero]
  rw [show (neg b && !neg b) = false by cases neg b <;> rfl, hw]
theorem sub_inf (b : Nat) (h : mg b = 9218868437227405312) : floatBits .sub .f64 b b = none := by
  show Ieee.Format.sub dbl b b = _
  unfold Ieee.Format.sub
  rw [read_inf b h]
  simp only [Ieee.Datum.opposite, Ieee.Datum.sum]
  rw [if_neg (by cases neg b <;> simp)]
  rfl
/-- A product of finite floats. -/
def mulB (u s : Nat) : Nat := dbl.word (neg u ^^ neg s) (rung (mOf u * mOf s) (pOf u + pOf s))
theorem mul_fin (u s : Nat) (hu : mg u < 9218868437227405312) (hs : mg s < 9218868437227405312) : floatBits .mul .f64 u s = some (mulB u s) := by
  show Ieee.Format.mul dbl u s = _
  unfold Ieee.Format.mul
  rw [read_num u hu, read_num s hs]
  simp only [Ieee.Datum.product, Option.map_some]
  show some (dbl.nearest _ _ _) = _
  rw [nearest_eq]
  rfl
theorem mul_not_lt (u s z : Nat) (hu : mg u = 0 ∨ neg u = false) (hs : mg s = 0 ∨ neg s = false) (hz : z = 0 ∨ z = 9223372036854775808) : (FloatKind.f64.format.order (mulB u s) z == some .lt) = false := by
  rw [ord0 _ z hz]
  unfold mulB
  rw [word_of]
  have hr := rung_le (mOf u * mOf s) (pOf u + pOf s)
  have h0 : rung (mOf u * mOf s) (pOf u + pOf s) ≠ 0 → (neg u ^^ neg s) = false := fun h => by
    have h1 : mOf u * mOf s ≠ 0 := fun e => h (by rw [e]; simp [rung])
    have h2 : mOf u ≠ 0 := fun e => h1 (by rw [e, Nat.zero_mul])
    have h3 : mOf s ≠ 0 := fun e => h1 (by rw [e, Nat.mul_zero])
    rw [hu.resolve_left (fun e => h2 ((mOf_zero u).2 e)), hs.resolve_left (fun e => h3 ((mOf_zero s).2 e))]
    rfl
  generalize rung (mOf u * mOf s) (pOf u + pOf s) = r at *
  generalize (neg u ^^ neg s) = x at *
  have e1 : mg ((if x then 9223372036854775808 else 0) + r) = r := by
    unfold mg
    cases x <;> simp <;> omega
  have e2 : neg ((if x then 9223372036854775808 else 0) + r) = x := by
    unfold neg
    cases x <;> simp <;> omega
  rw [e1, e2, if_neg (by omega)]
  by_cases h : r = 0
  · simp [h]
  · simp [h, h0 h]
theorem zero_of (b : Nat) (hb : b < 18446744073709551616) (h : FloatKind.f64.format.order b 0 = some .eq) : b = 0 ∨ b = 9223372036854775808 := by
  have h1 := ord0 b 0 (.inl rfl)
  rw [show dbl.order b 0 = some .eq from h] at h1
  have h2 : mg b = 0 := by
    by_cases h3 : 9218868437227405312 < mg b
    · rw [if_pos h3] at h1; cases h1
    · rw [if_neg h3] at h1
      by_cases h4 : mg b = 0
      · exact h4
      · rw [if_neg h4] at h1
        cases hn : neg b <;> simp [hn] at h1
  unfold mg at h2
  omega
theorem add_zeros (x y : Nat) (hx : x = 0 ∨ x = 9223372036854775808) (hy : y = 0 ∨ y = 9223372036854775808) : ∃ r, floatBits .add .f64 x y = some r ∧ FloatKind.f64.format.order r 0 = some .eq := by
  rcases hx with rfl | rfl <;> rcases hy with rfl | rfl
  · exact ⟨0, by decide +kernel, by decide +kernel⟩
  · exact ⟨0, by decide +kernel, by decide +kernel⟩
  · exact ⟨0, by decide +kernel, by decide +kernel⟩
  · exact ⟨9223372036854775808, by decide +kernel, by decide +kernel⟩
end Go.Proofs.YtedmdeifjmconaaDoor.Odd
