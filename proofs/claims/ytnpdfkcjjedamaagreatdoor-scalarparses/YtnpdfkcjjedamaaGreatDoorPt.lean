/- The document's Print, whole, beside the program's. -/
import Derived.Test.YtnpdfkcjjedamaaGreatDoorPr
import Derived.Test.YtnpdfkcjjedamaaGreatDoorBb
namespace Go.Proofs.YtnpdfkcjjedamaaGreatDoor.Sca
open Go.RowKit Go.Lib Go.Shelf Go.Proofs.YtnpdfkcjjedamaaGreatDoor.Oct

theorem bl_scale (m k : Nat) (h : m ≠ 0) : bl (m * 2 ^ k) = bl m + k := by
  have hk : 0 < 2 ^ k := Nat.two_pow_pos k
  have hn : m * 2 ^ k ≠ 0 := by have := Nat.mul_pos (Nat.pos_of_ne_zero h) hk; omega
  rw [bl_pos h, bl_pos hn, log2_scale h]
  omega
/-- The number's parts, as the document makes them: they are the program's. -/
theorem pr_parts (b : Nat) (h0 : mg b ≠ 0) : ∃ K F : Nat, K ≤ 53 ∧ mOf b * 2 ^ K = 4503599627370496 + F ∧ F < 4503599627370496 ∧ frB b = F * 4096 ∧ pwB b = pOf b - (K : Int) + 52 := by
  have hm0 : mOf b ≠ 0 := fun e => h0 ((mOf_zero b).1 e)
  have hm := mOf_lt b
  obtain ⟨ho1, ho2⟩ := odd_mul (mOf b) hm0 (by omega)
  have hol := odd_le (mOf b)
  have hM0 : odd (mOf b) ≠ 0 := by omega
  obtain ⟨fr, hfr, hf1, hf2, _⟩ := fr_spec (odd (mOf b)) hM0 (by omega)
  have hbs := bl_scale (odd (mOf b)) (tz (mOf b)) hM0
  rw [ho1] at hbs
  have hbl : bl (mOf b) ≤ 53 := bl_lt (show mOf b < 2 ^ 53 from hm)
  obtain ⟨hb1, hb2, hb3⟩ := bl_bounds (mOf b) hm0
  have hsE : spE b = pOf b + (tz (mOf b) : Int) := by unfold spE; rw [if_neg h0]
  have hpw : pwB b = spE b + (bl (odd (mOf b)) : Int) - 1 := rfl
  have hlo : 4503599627370496 ≤ mOf b * 2 ^ (53 - bl (mOf b)) := by
    have : 2 ^ (bl (mOf b) - 1) * 2 ^ (53 - bl (mOf b)) ≤ mOf b * 2 ^ (53 - bl (mOf b)) := Nat.mul_le_mul_right _ hb1
    rw [← Nat.pow_add, show bl (mOf b) - 1 + (53 - bl (mOf b)) = 52 from by omega] at this
    exact this
  have hhi : mOf b * 2 ^ (53 - bl (mOf b)) < 9007199254740992 := by
    have : mOf b * 2 ^ (53 - bl (mOf b)) < 2 ^ bl (mOf b) * 2 ^ (53 - bl (mOf b)) := Nat.mul_lt_mul_of_pos_right hb2 (Nat.two_pow_pos _)
    rw [← Nat.pow_add, show bl (mOf b) + (53 - bl (mOf b)) = 53 from by omega] at this
    exact this
  have hfr2 : fr + 18446744073709551616 = mOf b * 2 ^ (53 - bl (mOf b)) * 4096 := by
    rw [hf2, show (4096 : Nat) = 2 ^ 12 from rfl, Nat.mul_assoc, ← Nat.pow_add]
    have e : odd (mOf b) * 2 ^ (65 - bl (odd (mOf b))) = odd (mOf b) * 2 ^ tz (mOf b) * 2 ^ (53 - bl (mOf b) + 12) := by
      rw [Nat.mul_assoc, ← Nat.pow_add, show tz (mOf b) + (53 - bl (mOf b) + 12) = 65 - bl (odd (mOf b)) from by omega]
    rw [e, ho1]
  refine ⟨53 - bl (mOf b), mOf b * 2 ^ (53 - bl (mOf b)) - 4503599627370496, by omega, ?_, ?_, ?_, ?_⟩
  · omega
  · omega
  · rw [show frB b = fr from hfr]
    omega
  · omega
theorem qPrint_num (b : Nat) (hb : b < 18446744073709551616) (h : mg b < 9218868437227405312) (h0 : mg b ≠ 0) (w : World) :
    Calls Tryz.prog 46 #[.float .f64 b] w fun e w' => e = .returned (.string ⟨(numB b).toArray⟩) ∧ ∃ q, w' = w.drewN q := by
  obtain ⟨K, F, hK, hY, hF, hfr, hpw⟩ := pr_parts b h0
  have hcls : clsOf b = 4 ∨ clsOf b = 5 := by unfold clsOf; rw [if_neg (by omega), if_neg (by omega), if_neg h0]; split <;> simp
  have hpr : -1074 ≤ pOf b ∧ pOf b ≤ 971 := ⟨pOf_ge b, by unfold pOf; omega⟩
  have cS := fun w => qSigned b hb w
  rw [can_fin b h] at cS
  have cP := fun w => qParts b hb h w
  have cC := fun w => qClass b hb w
  have k1 : ((clsOf b : Int) == 1) = false := by rcases hcls with e | e <;> rw [e] <;> rfl
  have k2 : ((clsOf b : Int) == 2) = false := by rcases hcls with e | e <;> rw [e] <;> rfl
  have k3 : ((clsOf b : Int) == 3) = false := by rcases hcls with e | e <;> rw [e] <;> rfl
  unfold numB mnsB
  rw [can_fin b h, hfr, hpw]
  by_cases c : sb b = 0
  · rw [decide_eq_false (fun e => e c)] at cS
    rw [if_neg (fun e => e c)]
    by_cases hz : F = 0
    · exact pr_01 b _ _ K _ F _ w hpr.1 hpr.2 hK rfl hY hF hz k1 k2 k3 cS cC cP
    · exact pr_00 b _ _ K _ F _ w hpr.1 hpr.2 hK rfl hY hF hz k1 k2 k3 cS cC cP
  · rw [decide_eq_true c] at cS
    rw [if_pos c]
    by_cases hz : F = 0
    · exact pr_11 b _ _ K _ F _ w hpr.1 hpr.2 hK rfl hY hF hz k1 k2 k3 cS cC cP
    · exact pr_10 b _ _ K _ F _ w hpr.1 hpr.2 hK rfl hY hF hz k1 k2 k3 cS cC cP
theorem qPrint_nan (b : Nat) (hb : b < 18446744073709551616) (h : 9218868437227405312 < mg b) (w : World) :
    Calls Tryz.prog 46 #[.float .f64 b] w fun e w' => e = .returned (.string ⟨([110, 97, 110] : List UInt8).toArray⟩) ∧ w' = w := by
  have cC := fun w => qClass b hb w
  rw [show clsOf b = 1 from by unfold clsOf; rw [if_pos h]] at cC
  have cS := fun w => qSigned b hb w
  rw [can_nan b h, show decide (sb 9221120237041090561 ≠ 0) = false from by decide +kernel] at cS
  clear h
  go_enter Tryz.func46, Tryz.ntmps46
  go_wp2_with (first | (go_at_call 32; refine (cS _).mono ?_; rintro e w' ⟨rfl, rfl⟩) | (go_at_call 70; refine (cC _).mono ?_; rintro e w' ⟨rfl, rfl⟩))
  go_ret
  exact ⟨rfl, rfl⟩
theorem qPrint_inf (b : Nat) (hb : b < 18446744073709551616) (h : mg b = 9218868437227405312) (w : World) :
    Calls Tryz.prog 46 #[.float .f64 b] w fun e w' => e = .returned (.string ⟨(mnsB b ++ [105, 110, 102]).toArray⟩) ∧ w' = w := by
  have cC := fun w => qClass b hb w
  have cS := fun w => qSigned b hb w
  rw [show clsOf b = 2 from by unfold clsOf; rw [if_neg (by omega), if_pos h]] at cC
  clear h
  unfold mnsB
  by_cases c : sb (can b) ≠ 0
  · rw [decide_eq_true c] at cS
    rw [if_pos c]
    have a1 := fun w => add_list ([45] : List UInt8) [105, 110, 102] (by decide) w
    clear c
    generalize ([45] : List UInt8) ++ [105, 110, 102] = R at *
    go_enter Tryz.func46, Tryz.ntmps46
    go_wp2_with (first | (go_at_call 32; refine (cS _).mono ?_; rintro e w' ⟨rfl, rfl⟩) | (go_at_call 70; refine (cC _).mono ?_; rintro e w' ⟨rfl, rfl⟩))
    go_ret
    exact ⟨rfl, rfl⟩
  · rw [decide_eq_false c] at cS
    rw [if_neg c]
    have a1 := fun w => add_list ([] : List UInt8) [105, 110, 102] (by decide) w
    clear c
    generalize ([] : List UInt8) ++ [105, 110, 102] = R at *
    go_enter Tryz.func46, Tryz.ntmps46
    go_wp2_with (first | (go_at_call 32; refine (cS _).mono ?_; rintro e w' ⟨rfl, rfl⟩) | (go_at_call 70; refine (cC _).mono ?_; rintro e w' ⟨rfl, rfl⟩))
    go_ret
    exact ⟨rfl, rfl⟩
theorem qPrint_zero (b : Nat) (hb : b < 18446744073709551616) (h : mg b = 0) (w : World) :
    Calls Tryz.prog 46 #[.float .f64 b] w fun e w' => e = .returned (.string ⟨(mnsB b ++ [48]).toArray⟩) ∧ w' = w := by
  have cC := fun w => qClass b hb w
  have cS := fun w => qSigned b hb w
  rw [show clsOf b = 3 from by unfold clsOf; rw [if_neg (by omega), if_neg (by omega), if_pos h]] at cC
  clear h
  unfold mnsB
  by_cases c : sb (can b) ≠ 0
  · rw [decide_eq_true c] at cS
    rw [if_pos c]
    have a1 := fun w => add_list ([45] : List UInt8) [48] (by decide) w
    clear c
    generalize ([45] : List UInt8) ++ [48] = R at *
    go_enter Tryz.func46, Tryz.ntmps46
    go_wp2_with (first | (go_at_call 32; refine (cS _).mono ?_; rintro e w' ⟨rfl, rfl⟩) | (go_at_call 70; refine (cC _).mono ?_; rintro e w' ⟨rfl, rfl⟩))
    go_ret
    exact ⟨rfl, rfl⟩
  · rw [decide_eq_false c] at cS
    rw [if_neg c]
    have a1 := fun w => add_list ([] : List UInt8) [48] (by decide) w
    clear c
    generalize ([] : List UInt8) ++ [48] = R at *
    go_enter Tryz.func46, Tryz.ntmps46
    go_wp2_with (first | (go_at_call 32; refine (cS _).mono ?_; rintro e w' ⟨rfl, rfl⟩) | (go_at_call 70; refine (cC _).mono ?_; rintro e w' ⟨rfl, rfl⟩))
    go_ret
    exact ⟨rfl, rfl⟩
/-- The document's text of a float is the program's. -/
theorem qPrint (b : Nat) (hb : b < 18446744073709551616) (w : World) :
    Calls Tryz.prog 46 #[.float .f64 b] w fun e w' => e = .returned (.string ⟨(prB b).toArray⟩) ∧ ∃ q, w' = w.drewN q := by
  unfold prB
  by_cases h1 : 9218868437227405312 < mg b
  · rw [if_pos h1]
    exact (qPrint_nan b hb h1 w).mono fun _ _ ⟨he, hw⟩ => ⟨he, 0, hw⟩
  · rw [if_neg h1]
    by_cases h2 : mg b = 9218868437227405312
    · rw [if_pos h2]
      exact (qPrint_inf b hb h2 w).mono fun _ _ ⟨he, hw⟩ => ⟨he, 0, hw⟩
    · rw [if_neg h2]
      by_cases h3 : mg b = 0
      · rw [if_pos h3]
        exact (qPrint_zero b hb h3 w).mono fun _ _ ⟨he, hw⟩ => ⟨he, 0, hw⟩
      · rw [if_neg h3]
        exact qPrint_num b hb (by omega) h3 w
end Go.Proofs.YtnpdfkcjjedamaaGreatDoor.Sca
