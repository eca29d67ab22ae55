/- The document's Next, as it is walked. -/
import Derived.Test.YtbnclgndgjmmkaaGreatDoorSd
namespace Go.Proofs.YtbnclgndgjmmkaaGreatDoor.Sca
open Go.RowKit

theorem qNextU (b : Nat) (hb : b < 18446744073709551616) (w : World) : Calls Tryz.prog 28 #[.float .f64 b, .bool true] w fun e w' => e = .returned (.float .f64 (nxU b)) ∧ w' = w := by
  unfold nxU
  have cB := fun w => qBits b hb w
  by_cases h1 : 9218868437227405312 < mg b
  · rw [if_pos (Or.inl h1)]
    rw [show can b = 9221120237041090561 from by unfold can; rw [if_pos h1]] at cB
    clear h1
    go_enter Tryz.func28, Tryz.ntmps28
    go_wp2_with (go_at_call 17; refine (cB _).mono ?_; rintro e w' ⟨rfl, rfl⟩)
    go_ret
    exact ⟨rfl, rfl⟩
  have hcan := can_num b h1
  rw [hcan] at cB
  have hnz : ((b : Int) == 9221120237041090561) = false := by
    rw [beq_eq_false_iff_ne]
    intro e
    have e' : b = 9221120237041090561 := by omega
    rw [e'] at h1
    exact absurd (by decide +kernel) h1
  by_cases h2 : b = 9218868437227405312
  · rw [if_pos (Or.inr h2)]
    clear h1 hcan hnz
    subst h2
    go_enter Tryz.func28, Tryz.ntmps28
    go_wp2_with (go_at_call 17; refine (cB _).mono ?_; rintro e w' ⟨rfl, rfl⟩)
    go_ret
    exact ⟨rfl, rfl⟩
  · rw [if_neg (fun h => h.elim h1 h2)]
    have h2z : ((b : Int) == 9218868437227405312) = false := by rw [beq_eq_false_iff_ne]; omega
    have cR := fun w => qPlace b hb w
    rw [hcan, show plc b = rk b from by unfold plc; rw [if_neg (by intro e; rw [e] at hnz; exact absurd hnz (by decide))]] at cR
    have hr := rk_lt hb
    have hu := rk_up b hb h1
    clear h1 h2 hcan
    generalize rk b = r at *
    obtain ⟨r1, hr1⟩ : ∃ r1, r + 1 = r1 := ⟨_, rfl⟩
    have hr1l : r1 < 18446744073709551616 := by omega
    have hm : IntKind.u64.wrap ((r : Int) + 1) = (r1 : Int) := by rw [show IntKind.u64.wrap ((r : Int) + 1) = ((r : Int) + 1) % 18446744073709551616 from by simp [IntKind.wrap, IntKind.bits, IntKind.signed]]; omega
    have hs := and_sign r1 hr1l
    have hsg : IntKind.u64.signed = false := rfl
    rw [hr1]
    unfold unrk
    clear hr1 hu
    by_cases c : r1 < 9223372036854775808
    · rw [if_pos c]
      rw [show sb r1 = 0 from by unfold sb; omega] at hs
      have ho := not_run r1 hr1l
      clear c
      generalize 18446744073709551615 - r1 = z at *
      cases h3 : ((b : Int) == 18442240474082181120)
      · go_enter Tryz.func28, Tryz.ntmps28
        go_wp2_with (first | (go_at_call 17; refine (cB _).mono ?_; rintro e w' ⟨rfl, rfl⟩) | (go_at_call 47; refine (cR _).mono ?_; rintro e w' ⟨rfl, rfl⟩) | (go_at_call 9; refine (qOf z _).mono ?_; rintro e w' ⟨rfl, rfl⟩))
        go_ret
        exact ⟨rfl, rfl⟩
      · go_enter Tryz.func28, Tryz.ntmps28
        go_wp2_with (first | (go_at_call 17; refine (cB _).mono ?_; rintro e w' ⟨rfl, rfl⟩) | (go_at_call 47; refine (cR _).mono ?_; rintro e w' ⟨rfl, rfl⟩) | (go_at_call 9; refine (qOf z _).mono ?_; rintro e w' ⟨rfl, rfl⟩))
        go_ret
        exact ⟨rfl, rfl⟩
    · rw [if_neg c]
      rw [show sb r1 = 9223372036854775808 from by unfold sb; omega] at hs
      have ho := andNot_sign r1 hr1l
      rw [show mg r1 = r1 - 9223372036854775808 from by unfold mg; omega] at ho
      clear c
      generalize r1 - 9223372036854775808 = z at *
      cases h3 : ((b : Int) == 18442240474082181120)
      · go_enter Tryz.func28, Tryz.ntmps28
        go_wp2_with (first | (go_at_call 17; refine (cB _).mono ?_; rintro e w' ⟨rfl, rfl⟩) | (go_at_call 47; refine (cR _).mono ?_; rintro e w' ⟨rfl, rfl⟩) | (go_at_call 9; refine (qOf z _).mono ?_; rintro e w' ⟨rfl, rfl⟩))
        go_ret
        exact ⟨rfl, rfl⟩
      · go_enter Tryz.func28, Tryz.ntmps28
        go_wp2_with (first | (go_at_call 17; refine (cB _).mono ?_; rintro e w' ⟨rfl, rfl⟩) | (go_at_call 47; refine (cR _).mono ?_; rintro e w' ⟨rfl, rfl⟩) | (go_at_call 9; refine (qOf z _).mono ?_; rintro e w' ⟨rfl, rfl⟩))
        go_ret
        exact ⟨rfl, rfl⟩
theorem qNextD (b : Nat) (hb : b < 18446744073709551616) (w : World) : Calls Tryz.prog 28 #[.float .f64 b, .bool false] w fun e w' => e = .returned (.float .f64 (nxD b)) ∧ w' = w := by
  unfold nxD
  have cB := fun w => qBits b hb w
  by_cases h1 : 9218868437227405312 < mg b
  · rw [if_pos (Or.inl h1)]
    rw [show can b = 9221120237041090561 from by unfold can; rw [if_pos h1]] at cB
    clear h1
    go_enter Tryz.func28, Tryz.ntmps28
    go_wp2_with (go_at_call 17; refine (cB _).mono ?_; rintro e w' ⟨rfl, rfl⟩)
    go_ret
    exact ⟨rfl, rfl⟩
  have hcan := can_num b h1
  rw [hcan] at cB
  have hnz : ((b : Int) == 9221120237041090561) = false := by
    rw [beq_eq_false_iff_ne]
    intro e
    have e' : b = 9221120237041090561 := by omega
    rw [e'] at h1
    exact absurd (by decide +kernel) h1
  by_cases h2 : b = 18442240474082181120
  · rw [if_pos (Or.inr h2)]
    clear h1 hcan hnz
    subst h2
    go_enter Tryz.func28, Tryz.ntmps28
    go_wp2_with (go_at_call 17; refine (cB _).mono ?_; rintro e w' ⟨rfl, rfl⟩)
    go_ret
    exact ⟨rfl, rfl⟩
  · rw [if_neg (fun h => h.elim h1 h2)]
    have h2z : ((b : Int) == 18442240474082181120) = false := by rw [beq_eq_false_iff_ne]; omega
    have cR := fun w => qPlace b hb w
    rw [hcan, show plc b = rk b from by unfold plc; rw [if_neg (by intro e; rw [e] at hnz; exact absurd hnz (by decide))]] at cR
    have hr := rk_lt hb
    have hu := rk_dn b hb h1
    clear h1 h2 hcan
    generalize rk b = r at *
    obtain ⟨r1, hr1⟩ : ∃ r1, r - 1 = r1 := ⟨_, rfl⟩
    have hr1l : r1 < 18446744073709551616 := by omega
    have hm : IntKind.u64.wrap ((r : Int) - 1) = (r1 : Int) := by rw [show IntKind.u64.wrap ((r : Int) - 1) = ((r : Int) - 1) % 18446744073709551616 from by simp [IntKind.wrap, IntKind.bits, IntKind.signed]]; omega
    have hs := and_sign r1 hr1l
    have hsg : IntKind.u64.signed = false := rfl
    rw [hr1]
    unfold unrk
    clear hr1 hu
    by_cases c : r1 < 9223372036854775808
    · rw [if_pos c]
      rw [show sb r1 = 0 from by unfold sb; omega] at hs
      have ho := not_run r1 hr1l
      clear c
      generalize 18446744073709551615 - r1 = z at *
      cases h3 : ((b : Int) == 9218868437227405312)
      · go_enter Tryz.func28, Tryz.ntmps28
        go_wp2_with (first | (go_at_call 17; refine (cB _).mono ?_; rintro e w' ⟨rfl, rfl⟩) | (go_at_call 47; refine (cR _).mono ?_; rintro e w' ⟨rfl, rfl⟩) | (go_at_call 9; refine (qOf z _).mono ?_; rintro e w' ⟨rfl, rfl⟩))
        go_ret
        exact ⟨rfl, rfl⟩
      · go_enter Tryz.func28, Tryz.ntmps28
        go_wp2_with (first | (go_at_call 17; refine (cB _).mono ?_; rintro e w' ⟨rfl, rfl⟩) | (go_at_call 47; refine (cR _).mono ?_; rintro e w' ⟨rfl, rfl⟩) | (go_at_call 9; refine (qOf z _).mono ?_; rintro e w' ⟨rfl, rfl⟩))
        go_ret
        exact ⟨rfl, rfl⟩
    · rw [if_neg c]
      rw [show sb r1 = 9223372036854775808 from by unfold sb; omega] at hs
      have ho := andNot_sign r1 hr1l
      rw [show mg r1 = r1 - 9223372036854775808 from by unfold mg; omega] at ho
      clear c
      generalize r1 - 9223372036854775808 = z at *
      cases h3 : ((b : Int) == 9218868437227405312)
      · go_enter Tryz.func28, Tryz.ntmps28
        go_wp2_with (first | (go_at_call 17; refine (cB _).mono ?_; rintro e w' ⟨rfl, rfl⟩) | (go_at_call 47; refine (cR _).mono ?_; rintro e w' ⟨rfl, rfl⟩) | (go_at_call 9; refine (qOf z _).mono ?_; rintro e w' ⟨rfl, rfl⟩))
        go_ret
        exact ⟨rfl, rfl⟩
      · go_enter Tryz.func28, Tryz.ntmps28
        go_wp2_with (first | (go_at_call 17; refine (cB _).mono ?_; rintro e w' ⟨rfl, rfl⟩) | (go_at_call 47; refine (cR _).mono ?_; rintro e w' ⟨rfl, rfl⟩) | (go_at_call 9; refine (qOf z _).mono ?_; rintro e w' ⟨rfl, rfl⟩))
        go_ret
        exact ⟨rfl, rfl⟩
end Go.Proofs.YtbnclgndgjmmkaaGreatDoor.Sca
