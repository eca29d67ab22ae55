/- Next, as it is walked. -/
import Derived.Test.YtnpdfkcjjedamaaGreatDoorSc
import Derived.Test.YtnpdfkcjjedamaaGreatDoorSp
namespace Go.Proofs.YtnpdfkcjjedamaaGreatDoor.Sca
open Go.RowKit

theorem read_max : dbl.read 9218868437227405311 = .number false 9007199254740991 971 := by decide +kernel
theorem gt_max (b : Nat) (h : b < 18446744073709551616) : (dbl.order b 9218868437227405311 == some .gt) = decide (b = 9218868437227405312) := by
  unfold Ieee.Format.order
  rw [read_max]
  by_cases c1 : 9218868437227405312 < mg b
  · obtain ⟨t, e⟩ := read_nan b c1
    rw [e, decide_eq_false (by intro hb; rw [hb] at c1; exact absurd c1 (by decide +kernel))]
    rfl
  by_cases c2 : mg b = 9218868437227405312
  · rw [read_inf b c2]
    have hsb := mg_sb b
    have hneg := neg_sb b h
    cases hn : neg b
    · rw [hn] at hneg
      have hneg' : 0 = sb b := hneg
      rw [decide_eq_true (by omega)]
      rfl
    · rw [hn] at hneg
      have hneg' : 9223372036854775808 = sb b := hneg
      rw [decide_eq_false (by omega)]
      rfl
  · rw [read_num b (by omega), decide_eq_false (by intro hb; rw [hb] at c2; exact absurd rfl c2)]
    have hm := mOf_lt b
    have hp : pOf b ≤ 971 := by unfold pOf; have := mg_lt b; omega
    have hmin : min (pOf b) 971 = pOf b := by omega
    simp only [Ieee.Datum.order, hmin, Int.sub_self, Int.toNat_zero]
    have h1 : Ieee.signed (neg b) (mOf b) 0 ≤ (mOf b : Int) := by
      unfold Ieee.signed
      rw [Nat.shiftLeft_zero]
      split <;> omega
    have h2 : (9007199254740991 : Int) ≤ Ieee.signed false 9007199254740991 (971 - pOf b).toNat := by
      unfold Ieee.signed
      rw [Nat.shiftLeft_eq]
      have := Nat.two_pow_pos (971 - pOf b).toNat
      generalize 2 ^ (971 - pOf b).toNat = z at *
      simp only [Bool.false_eq_true, if_false]
      omega
    generalize Ieee.signed (neg b) (mOf b) 0 = x at *
    generalize Ieee.signed false 9007199254740991 (971 - pOf b).toNat = y at *
    have hle : x ≤ y := by omega
    have : compare x y ≠ .gt := by
      rw [Int.compare_eq_ite_lt]
      split
      · decide
      · split
        · omega
        · decide
    cases hc : compare x y
    · rfl
    · rfl
    · exact absurd hc this
theorem neg_float (b : Nat) (h : b < 18446744073709551616) : Op.negFloat .f64 b = if b < 9223372036854775808 then b + 9223372036854775808 else b - 9223372036854775808 := by
  show b ^^^ 2 ^ 63 = _
  by_cases c : b < 9223372036854775808
  · rw [if_pos c]
    have e : b ^^^ 2 ^ 63 = b ||| 2 ^ 63 := by
      apply Nat.eq_of_testBit_eq
      intro i
      rw [Nat.testBit_xor, Nat.testBit_or, Nat.testBit_two_pow]
      by_cases e : 63 = i
      · subst e
        rw [Nat.testBit_lt_two_pow c]
        rfl
      · simp [e]
    rw [e]
    exact or_top b c
  · rw [if_neg c]
    obtain ⟨d, rfl⟩ : ∃ d, b = d + 9223372036854775808 := ⟨b - 9223372036854775808, by omega⟩
    have hd : d < 9223372036854775808 := by omega
    rw [← or_top d hd]
    have e : (d ||| 9223372036854775808) ^^^ 2 ^ 63 = d := by
      apply Nat.eq_of_testBit_eq
      intro i
      rw [Nat.testBit_xor, Nat.testBit_or, show (9223372036854775808 : Nat) = 2 ^ 63 from rfl, Nat.testBit_two_pow]
      by_cases e : 63 = i
      · subst e
        rw [Nat.testBit_lt_two_pow hd]
        rfl
      · simp [e]
    rw [e, or_top d hd]
    omega
theorem run_neg_float (b : Nat) (w : World) : (Op.unary .neg (.float .f64 b)).run Tryz.prog w = .ok (.float .f64 (Op.negFloat .f64 b)) w := rfl
/-- IsInf, asked for the one with, or without, a sign. -/
theorem isInf_up (b : Nat) (h : b < 18446744073709551616) (w : World) : Calls Tryz.prog 56 #[.float .f64 b, .int .i64 1] w fun e w' => e = .returned (.bool (decide (b = 9218868437227405312))) ∧ w' = w := by
  rw [← gt_max b h]
  go_enter Tryz.func56, Tryz.ntmps56
  go_wp2
  go_ret
  exact ⟨rfl, rfl⟩
theorem isInf_dn (b : Nat) (h : b < 18446744073709551616) (w : World) : Calls Tryz.prog 56 #[.float .f64 b, .int .i64 (-1)] w fun e w' => e = .returned (.bool (decide (b = 18442240474082181120))) ∧ w' = w := by
  have e : decide (b = 18442240474082181120) = decide (Op.negFloat .f64 b = 9218868437227405312) := by
    rw [neg_float b h]
    split
    · rw [decide_eq_false (by omega), decide_eq_false (by omega)]
    · by_cases c : b = 18442240474082181120
      · rw [decide_eq_true c, decide_eq_true (by omega)]
      · rw [decide_eq_false c, decide_eq_false (by omega)]
  have hl : Op.negFloat .f64 b < 18446744073709551616 := by rw [neg_float b h]; split <;> omega
  rw [e, ← gt_max _ hl]
  clear e hl
  have hng := run_neg_float b
  go_enter Tryz.func56, Tryz.ntmps56
  go_wp2
  go_ret
  exact ⟨rfl, rfl⟩

/-- The neighbour upwards, downwards. -/
def nxU (b : Nat) : Nat := if 9218868437227405312 < mg b ∨ b = 9218868437227405312 then b else unrk (rk b + 1)
def nxD (b : Nat) : Nat := if 9218868437227405312 < mg b ∨ b = 18442240474082181120 then b else unrk (rk b - 1)
theorem order_nan (b : Nat) (h : 9218868437227405312 < mg b) : (FloatKind.f64.format.order b b != some .eq) = true := by rw [order_self, if_pos h]; rfl
theorem order_num (b : Nat) (h : ¬ 9218868437227405312 < mg b) : (FloatKind.f64.format.order b b != some .eq) = false := by rw [order_self, if_neg h]; rfl
theorem rk_up (b : Nat) (h : b < 18446744073709551616) (h1 : ¬ 9218868437227405312 < mg b) : rk b + 1 < 18446744073709551616 := by
  unfold mg at h1
  unfold rk
  split <;> omega
theorem rk_dn (b : Nat) (h : b < 18446744073709551616) (h1 : ¬ 9218868437227405312 < mg b) : 1 ≤ rk b := by
  unfold mg at h1
  unfold rk
  split <;> omega
theorem sNextU (b : Nat) (hb : b < 18446744073709551616) (w : World) : Calls Tryz.prog 39 #[.float .f64 b, .bool true] w fun e w' => e = .returned (.float .f64 (nxU b)) ∧ w' = w := by
  unfold nxU
  by_cases h1 : 9218868437227405312 < mg b
  · rw [if_pos (Or.inl h1)]
    have hn := order_nan b h1
    clear h1
    go_enter Tryz.func39, Tryz.ntmps39
    go_wp2
    go_ret
    exact ⟨rfl, rfl⟩
  have hn := order_num b h1
  have cI := fun w => isInf_up b hb w
  by_cases h2 : b = 9218868437227405312
  · rw [if_pos (Or.inr h2)]
    rw [decide_eq_true h2] at cI
    clear h1 h2
    go_enter Tryz.func39, Tryz.ntmps39
    go_wp2_with (go_at_call 56; refine (cI _).mono ?_; rintro e w' ⟨rfl, rfl⟩)
    go_ret
    exact ⟨rfl, rfl⟩
  · rw [if_neg (fun h => h.elim h1 h2)]
    rw [decide_eq_false h2] at cI
    have cR := fun w => sRank b hb w
    rw [can_num b h1] at cR
    have hu := rk_up b hb h1
    have cU := fun w => sRanked (rk b + 1) hu w
    clear h1 h2
    generalize rk b = r at *
    have hm : ((r : Int) + 1) % 18446744073709551616 = (r : Int) + 1 := by omega
    have ec : ((r + 1 : Nat) : Int) = (r : Int) + 1 := by omega
    rw [ec] at cU
    clear ec
    go_enter Tryz.func39, Tryz.ntmps39
    go_wp2_with (first | (go_at_call 56; refine (cI _).mono ?_; rintro e w' ⟨rfl, rfl⟩) | (go_at_call 58; refine (cR _).mono ?_; rintro e w' ⟨rfl, rfl⟩) | (go_at_call 57; refine (cU _).mono ?_; rintro e w' ⟨rfl, rfl⟩))
    go_ret
    exact ⟨rfl, rfl⟩
theorem sNextD (b : Nat) (hb : b < 18446744073709551616) (w : World) : Calls Tryz.prog 39 #[.float .f64 b, .bool false] w fun e w' => e = .returned (.float .f64 (nxD b)) ∧ w' = w := by
  unfold nxD
  by_cases h1 : 9218868437227405312 < mg b
  · rw [if_pos (Or.inl h1)]
    have hn := order_nan b h1
    clear h1
    go_enter Tryz.func39, Tryz.ntmps39
    go_wp2
    go_ret
    exact ⟨rfl, rfl⟩
  have hn := order_num b h1
  have cI := fun w => isInf_dn b hb w
  by_cases h2 : b = 18442240474082181120
  · rw [if_pos (Or.inr h2)]
    rw [decide_eq_true h2] at cI
    clear h1 h2
    go_enter Tryz.func39, Tryz.ntmps39
    go_wp2_with (go_at_call 56; refine (cI _).mono ?_; rintro e w' ⟨rfl, rfl⟩)
    go_ret
    exact ⟨rfl, rfl⟩
  · rw [if_neg (fun h => h.elim h1 h2)]
    rw [decide_eq_false h2] at cI
    have cR := fun w => sRank b hb w
    rw [can_num b h1] at cR
    have hu := rk_dn b hb h1
    have hr := rk_lt hb
    clear h1 h2
    generalize rk b = r at *
    have cU := fun w => sRanked (r - 1) (by omega) w
    have hm : ((r : Int) - 1) % 18446744073709551616 = (r : Int) - 1 := by omega
    have ec : ((r - 1 : Nat) : Int) = (r : Int) - 1 := by omega
    rw [ec] at cU
    clear ec
    go_enter Tryz.func39, Tryz.ntmps39
    go_wp2_with (first | (go_at_call 56; refine (cI _).mono ?_; rintro e w' ⟨rfl, rfl⟩) | (go_at_call 58; refine (cR _).mono ?_; rintro e w' ⟨rfl, rfl⟩) | (go_at_call 57; refine (cU _).mono ?_; rintro e w' ⟨rfl, rfl⟩))
    go_ret
    exact ⟨rfl, rfl⟩
end Go.Proofs.YtnpdfkcjjedamaaGreatDoor.Sca
