/- The order: ranks, Compare, Next, as they are walked. -/
import Derived.Test.YtbnclgndgjmmkaaGreatDoorSb
namespace Go.Proofs.YtbnclgndgjmmkaaGreatDoor.Sca
open Go.RowKit

/-- The document's place. -/
def plc (c : Nat) : Nat := if c = 9221120237041090561 then 18446744073709551615 else rk c
theorem plc_lt {c : Nat} (h : c < 18446744073709551616) : plc c < 18446744073709551616 := by unfold plc; split; exact (by decide); exact rk_lt h
theorem qPlace (b : Nat) (hlt : b < 18446744073709551616) (w : World) : Calls Tryz.prog 47 #[.float .f64 b] w fun e w' => e = .returned (.int .u64 (plc (can b) : Int)) ∧ w' = w := by
  have hc := can_lt hlt
  have hs := and_sign (can b) hc
  have cB := fun w => qBits b hlt w
  unfold plc rk
  generalize can b = c at *
  go_enter Tryz.func47, Tryz.ntmps47
  by_cases hn : c = 9221120237041090561
  · subst hn
    rw [if_pos rfl]
    go_wp2_with (go_at_call 17; refine (cB _).mono ?_; rintro e w' ⟨rfl, rfl⟩)
    go_ret
    exact ⟨rfl, rfl⟩
  rw [if_neg hn]
  have hnz : ((c : Int) == 9221120237041090561) = false := by rw [beq_eq_false_iff_ne]; omega
  clear hn
  by_cases h : c < 9223372036854775808
  · rw [if_pos h]
    rw [show sb c = 0 from by unfold sb; omega] at hs
    have ho := or_sign c h
    clear h
    go_wp2_with (go_at_call 17; refine (cB _).mono ?_; rintro e w' ⟨rfl, rfl⟩)
    go_ret
    exact ⟨rfl, rfl⟩
  · rw [if_neg h]
    rw [show sb c = 9223372036854775808 from by unfold sb; omega] at hs
    have ho := not_run c hc
    clear h
    go_wp2_with (go_at_call 17; refine (cB _).mono ?_; rintro e w' ⟨rfl, rfl⟩)
    go_ret
    exact ⟨rfl, rfl⟩
theorem sRanked (r : Nat) (h : r < 18446744073709551616) (w : World) : Calls Tryz.prog 49 #[.int .u64 (r : Int)] w fun e w' => e = .returned (.float .f64 (unrk r)) ∧ w' = w := by
  have hs := and_sign r h
  unfold unrk
  go_enter Tryz.func49, Tryz.ntmps49
  by_cases hr : r < 9223372036854775808
  · rw [if_pos hr]
    rw [show sb r = 0 from by unfold sb; omega] at hs
    have ho := not_run r h
    clear hr
    generalize 18446744073709551615 - r = z at *
    have hsg : IntKind.u64.signed = false := rfl
    go_wp2_with (go_at_call 19; refine (sOf z _).mono ?_; rintro e w' ⟨rfl, rfl⟩)
    go_ret
    exact ⟨rfl, rfl⟩
  · rw [if_neg hr]
    rw [show sb r = 9223372036854775808 from by unfold sb; omega] at hs
    have ho := andNot_sign r h
    rw [show mg r = r - 9223372036854775808 from by unfold mg; omega] at ho
    clear hr
    generalize r - 9223372036854775808 = z at *
    have hsg : IntKind.u64.signed = false := rfl
    go_wp2_with (go_at_call 19; refine (sOf z _).mono ?_; rintro e w' ⟨rfl, rfl⟩)
    go_ret
    exact ⟨rfl, rfl⟩
/-- Which of two is the lower. -/
def cmp3 (a b : Nat) : Int := if a < b then -1 else if b < a then 1 else 0
theorem cmpIsNaN (a : Nat) (w : World) : Calls Tryz.prog 62 #[.int .u64 (a : Int)] w fun e w' => e = .returned (.bool false) ∧ w' = w := by
  go_enter Tryz.func62, Tryz.ntmps62
  go_wp2
  go_ret
  exact ⟨by simp, rfl⟩
theorem cmpCompare (a b : Nat) (w : World) : Calls Tryz.prog 45 #[.int .u64 (a : Int), .int .u64 (b : Int)] w fun e w' => e = .returned (.int .i64 (cmp3 a b)) ∧ w' = w := by
  unfold cmp3
  go_enter Tryz.func45, Tryz.ntmps45
  by_cases h1 : a < b
  · rw [if_pos h1]
    have h1z : decide ((a : Int) < (b : Int)) = true := decide_eq_true (by omega)
    have h1y : decide (a < b) = true := decide_eq_true h1
    clear h1
    go_wp2_with (go_at_call 62; refine (cmpIsNaN _ _).mono ?_; rintro e w' ⟨rfl, rfl⟩)
    go_ret
    exact ⟨rfl, rfl⟩
  · rw [if_neg h1]
    have h1z : decide ((a : Int) < (b : Int)) = false := decide_eq_false (by omega)
    have h1y : decide (a < b) = false := decide_eq_false h1
    clear h1
    by_cases h2 : b < a
    · rw [if_pos h2]
      have h2z : decide ((b : Int) < (a : Int)) = true := decide_eq_true (by omega)
      have h2y : decide (b < a) = true := decide_eq_true h2
      clear h2
      go_wp2_with (go_at_call 62; refine (cmpIsNaN _ _).mono ?_; rintro e w' ⟨rfl, rfl⟩)
      go_ret
      exact ⟨rfl, rfl⟩
    · rw [if_neg h2]
      have h2z : decide ((b : Int) < (a : Int)) = false := decide_eq_false (by omega)
      have h2y : decide (b < a) = false := decide_eq_false h2
      clear h2
      go_wp2_with (go_at_call 62; refine (cmpIsNaN _ _).mono ?_; rintro e w' ⟨rfl, rfl⟩)
      go_ret
      exact ⟨rfl, rfl⟩
theorem sCompare (a b : Nat) (ha : a < 18446744073709551616) (hb : b < 18446744073709551616) (w : World) : Calls Tryz.prog 25 #[.float .f64 a, .float .f64 b] w fun e w' => e = .returned (.int .i64 (cmp3 (rk (can a)) (rk (can b)))) ∧ w' = w := by
  go_enter Tryz.func25, Tryz.ntmps25
  go_wp2_with (first | (go_at_call 46; refine (sRank _ (by assumption) _).mono ?_; rintro e w' ⟨rfl, rfl⟩) | (go_at_call 45; refine (cmpCompare _ _ _).mono ?_; rintro e w' ⟨rfl, rfl⟩))
  go_ret
  exact ⟨rfl, rfl⟩
theorem qCompare (a b : Nat) (ha : a < 18446744073709551616) (hb : b < 18446744073709551616) (w : World) : Calls Tryz.prog 26 #[.float .f64 a, .float .f64 b] w fun e w' => e = .returned (.int .i64 (cmp3 (plc (can a)) (plc (can b)))) ∧ w' = w := by
  have c1 := fun w => qPlace a ha w
  have c2 := fun w => qPlace b hb w
  unfold cmp3
  generalize plc (can a) = x at *
  generalize plc (can b) = y at *
  go_enter Tryz.func26, Tryz.ntmps26
  by_cases h1 : x < y
  · rw [if_pos h1]
    have h1z : decide ((x : Int) < (y : Int)) = true := decide_eq_true (by omega)
    have h1y : decide (x < y) = true := decide_eq_true h1
    clear h1
    go_wp2_with fail
    refine (c1 _).mono ?_
    rintro e w' ⟨rfl, rfl⟩
    go_wp2_with fail
    refine (c2 _).mono ?_
    rintro e w' ⟨rfl, rfl⟩
    go_wp2
    go_ret
    exact ⟨rfl, rfl⟩
  · rw [if_neg h1]
    have h1z : decide ((x : Int) < (y : Int)) = false := decide_eq_false (by omega)
    have h1y : decide (x < y) = false := decide_eq_false h1
    clear h1
    by_cases h2 : y < x
    · rw [if_pos h2]
      have h2z : decide ((y : Int) < (x : Int)) = true := decide_eq_true (by omega)
      have h2y : decide (y < x) = true := decide_eq_true h2
      clear h2
      go_wp2_with fail
      refine (c1 _).mono ?_
      rintro e w' ⟨rfl, rfl⟩
      go_wp2_with fail
      refine (c2 _).mono ?_
      rintro e w' ⟨rfl, rfl⟩
      go_wp2
      go_ret
      exact ⟨rfl, rfl⟩
    · rw [if_neg h2]
      have h2z : decide ((y : Int) < (x : Int)) = false := decide_eq_false (by omega)
      have h2y : decide (y < x) = false := decide_eq_false h2
      clear h2
      go_wp2_with fail
      refine (c1 _).mono ?_
      rintro e w' ⟨rfl, rfl⟩
      go_wp2_with fail
      refine (c2 _).mono ?_
      rintro e w' ⟨rfl, rfl⟩
      go_wp2
      go_ret
      exact ⟨rfl, rfl⟩
end Go.Proofs.YtbnclgndgjmmkaaGreatDoor.Sca
