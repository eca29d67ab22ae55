/- Next, as it is walked. -/
import Derived.Test.YtnhdgellckcnbaaDoorSc
import Derived.Test.YtnhdgellckcnbaaDoorSp
namespace Go.Proofs.YtnhdgellckcnbaaDoor.Sca
open Go.RowKit

theorem read_max : dbl.read 9218868437227405311 = .number false 9007199254740991 971 := by decide +kernel
theorem gt_max (b : Nat) (h : b < 18446744073709551616) : (dbl.order b 9218868437227405311 == some .gt) = decide (b = 9218868437227405312) := by
  unfold Ieee.Format.order
  rw [read_max]
  by_cases c1 : 9218868437227405312 < mg b
  · obtain ⟨t, e⟩ := read_nan b c1
    rw [e, decide_eq_false (by intro hb; rw [hb] at c1; exact absurd c1 (by decide +kernel))]
    rfl
  by_cases c2 : mg b = 9218868437227405312
  · rw [read_inf b c2]
    have hsb := mg_sb b
    have hneg := neg_sb b h
    cases hn : neg b
    · rw [hn] at hneg
      have hneg' : 0 = sb b := hneg
      rw [decide_eq_true (by omega)]
      rfl
    · rw [hn] at hneg
      have hneg' : 9223372036854775808 = sb b := hneg
      rw [decide_eq_false (by omega)]
      rfl
  · rw [read_num b (by omega), decide_eq_false (by intro hb; rw [hb] at c2; exact absurd rfl c2)]
    have hm := mOf_lt b
    have hp : pOf b ≤ 971 := by unfold pOf; have := mg_lt b; omega
    have hmin : min (pOf b) 971 = pOf b := by omega
    simp only [Ieee.Datum.order, hmin, Int.sub_self, Int.toNat_zero]
    have h1 : Ieee.signed (neg b) (mOf b) 0 ≤ (mOf b : Int) := by
      unfold Ieee.signed
      rw [Nat.shiftLeft_zero]
      split <;> omega
    have h2 : (9007199254740991 : Int) ≤ Ieee.signed false 9007199254740991 (971 - pOf b).toNat := by
      unfold Ieee.signed
      rw [Nat.shiftLeft_eq]
      have := Nat.two_pow_pos (971 - pOf b).toNat
      generalize 2 ^ (971 - pOf b).toNat = z at *
      simp only [Bool.false_eq_true, if_false]
      omega
    generalize Ieee.signed (neg b) (mOf b) 0 = x at *
    generalize Ieee.signed false 9007199254740991 (971 - pOf b).toNat = y at *
    have hle : x ≤ y := by omega
    have : compare x y ≠ .gt := by
      rw [Int.compare_eq_ite_lt]
      split
      · decide
      · split
        · omega
        · decide
    cases hc : compare x y
    · rfl
    · rfl
    · exact absurd hc this
theorem neg_float (b : Nat) (h : b < 18446744073709551616) : Op.negFloat .f64 b = if b < 9223372036854775808 then b + 9223372036854775808 else b - 9223372036854775808 := by
  show b ^^^ 2 ^ 63 = _
  by_cases c : b < 9223372036854775808
  · rw [if_pos c]
    have e : b ^^^ 2 ^ 63 = b ||| 2 ^ 63 := by
      apply Nat.eq_of_testBit_eq
      intro i
      rw [Nat.testBit_xor, Nat.testBit_or, Nat.testBit_two_pow]
      by_cases e : 63 = i
      · subst e
        rw [Nat.testBit_lt_two_pow c]
        rfl
      · simp [e]
    rw [e]
    exact or_top b c
  · rw [if_neg c]
    obtain ⟨d, rfl⟩ : ∃ d, b = d + 9223372036854775808 := ⟨b - 9223372036854775808, by omega⟩
    have hd : d < 9223372036854775808 := by omega
    rw [← or_top d hd]
    have e : (d ||| 9223372036854775808) ^^^ 2 ^ 63 = d := by
      apply Nat.eq_of_testBit_eq
      intro i
      rw [Nat.testBit_xor, Nat.testBit_or, show (9223372036854775808 : Nat) = 2 ^ 63 from rfl, Nat.testBit_two_pow]
      by_cases e : 63 = i
      · subst e
        rw [Nat.testBit_lt_two_pow hd]
        rfl
      · simp [e]
    rw [e, or_top d hd]
    omega
theorem run_neg_float (b : Nat) (w : World) : (Op.unary .neg (.float .f64 b)).run Tryd.prog w = .ok (.float .f64 (Op.negFloat .f64 b)) w := rfl
/-- The neighbour upwards, downwards. -/
def nxU (b : Nat) : Nat := if 9218868437227405312 < mg b ∨ b = 9218868437227405312 then b else unrk (rk b + 1)
def nxD (b : Nat) : Nat := if 9218868437227405312 < mg b ∨ b = 18442240474082181120 then b else unrk (rk b - 1)
theorem order_nan (b : Nat) (h : 9218868437227405312 < mg b) : (FloatKind.f64.format.order b b != some .eq) = true := by rw [order_self, if_pos h]; rfl
theorem order_num (b : Nat) (h : ¬ 9218868437227405312 < mg b) : (FloatKind.f64.format.order b b != some .eq) = false := by rw [order_self, if_neg h]; rfl
theorem rk_up (b : Nat) (h : b < 18446744073709551616) (h1 : ¬ 9218868437227405312 < mg b) : rk b + 1 < 18446744073709551616 := by
  unfold mg at h1
  unfold rk
  split <;> omega
theorem rk_dn (b : Nat) (h : b < 18446744073709551616) (h1 : ¬ 9218868437227405312 < mg b) : 1 ≤ rk b := by
  unfold mg at h1
  unfold rk
  split <;> omega
end Go.Proofs.YtnhdgellckcnbaaDoor.Sca
