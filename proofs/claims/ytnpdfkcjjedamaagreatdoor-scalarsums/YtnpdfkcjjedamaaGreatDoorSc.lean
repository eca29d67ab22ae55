/- The order: ranks, Compare, Next, as they are walked. -/
import Derived.Test.YtnpdfkcjjedamaaGreatDoorSb
namespace Go.Proofs.YtnpdfkcjjedamaaGreatDoor.Sca
open Go.RowKit

/-- The document's place. -/
def plc (c : Nat) : Nat := if c = 9221120237041090561 then 18446744073709551615 else rk c
theorem plc_lt {c : Nat} (h : c < 18446744073709551616) : plc c < 18446744073709551616 := by unfold plc; split; exact (by decide); exact rk_lt h
theorem sRanked (r : Nat) (h : r < 18446744073709551616) (w : World) : Calls Tryz.prog 57 #[.int .u64 (r : Int)] w fun e w' => e = .returned (.float .f64 (unrk r)) ∧ w' = w := by
  have hs := and_sign r h
  unfold unrk
  go_enter Tryz.func57, Tryz.ntmps57
  by_cases hr : r < 9223372036854775808
  · rw [if_pos hr]
    rw [show sb r = 0 from by unfold sb; omega] at hs
    have ho := not_run r h
    clear hr
    generalize 18446744073709551615 - r = z at *
    have hsg : IntKind.u64.signed = false := rfl
    go_wp2_with (go_at_call 16; refine (sOf z _).mono ?_; rintro e w' ⟨rfl, rfl⟩)
    go_ret
    exact ⟨rfl, rfl⟩
  · rw [if_neg hr]
    rw [show sb r = 9223372036854775808 from by unfold sb; omega] at hs
    have ho := andNot_sign r h
    rw [show mg r = r - 9223372036854775808 from by unfold mg; omega] at ho
    clear hr
    generalize r - 9223372036854775808 = z at *
    have hsg : IntKind.u64.signed = false := rfl
    go_wp2_with (go_at_call 16; refine (sOf z _).mono ?_; rintro e w' ⟨rfl, rfl⟩)
    go_ret
    exact ⟨rfl, rfl⟩
/-- Which of two is the lower. -/
def cmp3 (a b : Nat) : Int := if a < b then -1 else if b < a then 1 else 0
theorem cmpIsNaN (a : Nat) (w : World) : Calls Tryz.prog 78 #[.int .u64 (a : Int)] w fun e w' => e = .returned (.bool false) ∧ w' = w := by
  go_enter Tryz.func78, Tryz.ntmps78
  go_wp2
  go_ret
  exact ⟨by simp, rfl⟩
theorem cmpCompare (a b : Nat) (w : World) : Calls Tryz.prog 63 #[.int .u64 (a : Int), .int .u64 (b : Int)] w fun e w' => e = .returned (.int .i64 (cmp3 a b)) ∧ w' = w := by
  unfold cmp3
  go_enter Tryz.func63, Tryz.ntmps63
  by_cases h1 : a < b
  · rw [if_pos h1]
    have h1z : decide ((a : Int) < (b : Int)) = true := decide_eq_true (by omega)
    have h1y : decide (a < b) = true := decide_eq_true h1
    clear h1
    go_wp2_with (go_at_call 78; refine (cmpIsNaN _ _).mono ?_; rintro e w' ⟨rfl, rfl⟩)
    go_ret
    exact ⟨rfl, rfl⟩
  · rw [if_neg h1]
    have h1z : decide ((a : Int) < (b : Int)) = false := decide_eq_false (by omega)
    have h1y : decide (a < b) = false := decide_eq_false h1
    clear h1
    by_cases h2 : b < a
    · rw [if_pos h2]
      have h2z : decide ((b : Int) < (a : Int)) = true := decide_eq_true (by omega)
      have h2y : decide (b < a) = true := decide_eq_true h2
      clear h2
      go_wp2_with (go_at_call 78; refine (cmpIsNaN _ _).mono ?_; rintro e w' ⟨rfl, rfl⟩)
      go_ret
      exact ⟨rfl, rfl⟩
    · rw [if_neg h2]
      have h2z : decide ((b : Int) < (a : Int)) = false := decide_eq_false (by omega)
      have h2y : decide (b < a) = false := decide_eq_false h2
      clear h2
      go_wp2_with (go_at_call 78; refine (cmpIsNaN _ _).mono ?_; rintro e w' ⟨rfl, rfl⟩)
      go_ret
      exact ⟨rfl, rfl⟩
theorem sCompare (a b : Nat) (ha : a < 18446744073709551616) (hb : b < 18446744073709551616) (w : World) : Calls Tryz.prog 41 #[.float .f64 a, .float .f64 b] w fun e w' => e = .returned (.int .i64 (cmp3 (rk (can a)) (rk (can b)))) ∧ w' = w := by
  go_enter Tryz.func41, Tryz.ntmps41
  go_wp2_with (first | (go_at_call 58; refine (sRank _ (by assumption) _).mono ?_; rintro e w' ⟨rfl, rfl⟩) | (go_at_call 63; refine (cmpCompare _ _ _).mono ?_; rintro e w' ⟨rfl, rfl⟩))
  go_ret
  exact ⟨rfl, rfl⟩
end Go.Proofs.YtnpdfkcjjedamaaGreatDoor.Sca
