/- The program's size, inRange, bothEven, Check. -/
import Derived.Test.YthpkmbgollollabDoorProg
import Derived.Test.YthpkmbgollollabDoorDa
import Derived.Test.YthpkmbgollollabDoorSj
import Derived.Deep.QuietTactic
import Derived.BigQuiet
import Derived.WalkSmall
namespace Go.Proofs.YthpkmbgollollabDoor.Dy
open Go.RowKit Go.Shelf Go.Proofs.YthpkmbgollollabDoor.Sca

theorem below_new (w : World) (o : Obj) : Below w.heap.size w (w.alloc o) := (Below.refl _ _).alloc (Nat.le_refl _) _
/-- A number of 64 bits. -/
abbrev i64 (x : Int) : Prop := -9223372036854775808 ≤ x ∧ x ≤ 9223372036854775807
/-- A dyad as a value. -/
def dV (d : DD) : Value := .agg #[.int .i64 d.re, .int .i64 d.im, .int .i64 d.ex]
abbrev d64 (d : DD) : Prop := i64 d.re ∧ i64 d.im ∧ i64 d.ex
theorem Rt.d64 {d : DD} (h : Rt d) : d64 d := by
  obtain ⟨⟨_, _, _, _⟩, _⟩ := h
  refine ⟨⟨?_, ?_⟩, ⟨?_, ?_⟩, ⟨?_, ?_⟩⟩ <;> omega
theorem ySize (x : Int) (h : i64 x) (w : World) : Calls Tryd.prog 29 #[.int .i64 x] w fun e w' => e = .returned (.int .u64 (x.natAbs : Int)) ∧ w' = w := by
  obtain ⟨h0, h1⟩ := h
  by_cases c : x < 0
  · have e1 : IntKind.u64.wrap (-(IntKind.u64.wrap x)) = (x.natAbs : Int) := by rw [wrapU, wrapU]; omega
    have e2 : IntKind.u64.wrap (0 - (IntKind.u64.wrap x)) = (x.natAbs : Int) := by rw [wrapU, wrapU]; omega
    have cz : decide (x < 0) = true := decide_eq_true c
    clear c h0 h1
    go_enter Tryd.func29, Tryd.ntmps29
    go_wp2
    go_ret
    exact ⟨rfl, rfl⟩
  · have e1 : IntKind.u64.wrap x = (x.natAbs : Int) := by rw [wrapU]; omega
    have cz : decide (x < 0) = false := decide_eq_false c
    clear c h0 h1
    go_enter Tryd.func29, Tryd.ntmps29
    go_wp2
    go_ret
    exact ⟨rfl, rfl⟩
set_option maxRecDepth 100000 in
set_option maxHeartbeats 1000000 in
theorem yInRange (d : DD) (h : d64 d) (w : World) : Calls Tryd.prog 30 #[dV d] w fun e w' => e = .returned (.bool (decide (inR d))) ∧ Below w.heap.size w w' := by
  obtain ⟨hr, hi, _⟩ := h
  have cr := fun w => ySize d.re hr w
  have ci := fun w => ySize d.im hi w
  have hdec : decide (inR d) = (decide (max (d.re.natAbs : Int) (d.im.natAbs : Int) ≤ 9007199254740992) && (decide (0 ≤ d.ex) && decide (d.ex ≤ 60))) := by
    rw [← Bool.decide_and, ← Bool.decide_and]
    apply decide_eq_decide.2
    unfold inR
    omega
  rw [hdec]
  clear hr hi hdec
  obtain ⟨re, im, ex⟩ := d
  unfold dV
  dsimp only at cr ci ⊢
  by_cases c1 : max (re.natAbs : Int) (im.natAbs : Int) ≤ 9007199254740992
  · have z1 : decide (max (re.natAbs : Int) (im.natAbs : Int) ≤ 9007199254740992) = true := decide_eq_true c1
    by_cases c2 : 0 ≤ ex
    · have z2 : decide (0 ≤ ex) = true := decide_eq_true c2
      rw [z1, z2, Bool.true_and, Bool.true_and]
      go_enter Tryd.func30, Tryd.ntmps30
      go_wp2_with fail
      go_quiet (first | (go_at_call_of 29 re; exact Calls.quiet_of_same (cr _)) | (go_at_call_of 29 im; exact Calls.quiet_of_same (ci _)))
      go_wp2
      go_ret
      exact ⟨rfl, below_drewN (below_new _ _) _⟩
    · have z2 : decide (0 ≤ ex) = false := decide_eq_false c2
      rw [z1, z2, Bool.true_and, Bool.false_and]
      clear c2
      go_enter Tryd.func30, Tryd.ntmps30
      go_wp2_with fail
      go_quiet (first | (go_at_call_of 29 re; exact Calls.quiet_of_same (cr _)) | (go_at_call_of 29 im; exact Calls.quiet_of_same (ci _)))
      go_wp2
      go_ret
      exact ⟨rfl, below_drewN (below_new _ _) _⟩
  · have z1 : decide (max (re.natAbs : Int) (im.natAbs : Int) ≤ 9007199254740992) = false := decide_eq_false c1
    rw [z1, Bool.false_and]
    clear c1
    go_enter Tryd.func30, Tryd.ntmps30
    go_wp2_with fail
    go_quiet (first | (go_at_call_of 29 re; exact Calls.quiet_of_same (cr _)) | (go_at_call_of 29 im; exact Calls.quiet_of_same (ci _)))
    go_wp2
    go_ret
    exact ⟨rfl, below_drewN (below_new _ _) _⟩
end Go.Proofs.YthpkmbgollollabDoor.Dy
