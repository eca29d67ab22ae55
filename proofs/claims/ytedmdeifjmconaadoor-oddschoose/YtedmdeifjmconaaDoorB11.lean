/- Choose of both sides. -/
import Derived.Test.YtedmdeifjmconaaDoorChecked
import Derived.Test.YtedmdeifjmconaaDoorA11
namespace Go.Proofs.YtedmdeifjmconaaDoor.Odd
open Go.RowKit Go.Proofs.YtedmdeifjmconaaDoor.Sca

set_option maxRecDepth 100000 in
set_option maxHeartbeats 1000000 in
theorem oIsFraction (b : Nat) (w : World) : Calls Tryd.prog 8 #[.float .f64 b] w fun e w' => e = .returned (.bool (frc b)) ∧ w' = w := by
  unfold frc ge0
  go_enter Tryd.func8, Tryd.ntmps8
  go_wp2_with fail
  all_goals go_ret
  all_goals refine ⟨?_, rfl⟩
  · rfl
  · simp_all
set_option maxRecDepth 100000 in
set_option maxHeartbeats 1000000 in
theorem oIsWeight (b : Nat) (hlt : b < 18446744073709551616) (w : World) : Calls Tryd.prog 7 #[.float .f64 b] w fun e w' => e = .returned (.bool (wgt b)) ∧ w' = w := by
  have c1 := fun W => sClass b hlt W
  rw [wgt_cls]
  unfold ge0
  generalize clsOf b = K at *
  by_cases h1 : K = 1
  · subst h1
    go_enter Tryd.func7, Tryd.ntmps7
    go_wp2_with (first | (go_at_call 15; refine (c1 _).mono ?_; rintro e w1 ⟨rfl, rfl⟩))
    go_ret
    exact ⟨by simp, rfl⟩
  · by_cases h2 : K = 2
    · subst h2
      go_enter Tryd.func7, Tryd.ntmps7
      go_wp2_with (first | (go_at_call 15; refine (c1 _).mono ?_; rintro e w1 ⟨rfl, rfl⟩))
      go_ret
      exact ⟨by simp, rfl⟩
    · have e1 : ((K : Int) == 1) = false := by simp; omega
      have e2 : ((K : Int) == 2) = false := by simp; omega
      have e3 : ((K : Int) != 1) = true := by simp; omega
      have e4 : ((K : Int) != 2) = true := by simp; omega
      go_enter Tryd.func7, Tryd.ntmps7
      go_wp2_with (first | (go_at_call 15; refine (c1 _).mono ?_; rintro e w1 ⟨rfl, rfl⟩))
      go_ret
      exact ⟨by simp [h1, h2], rfl⟩
set_option maxRecDepth 100000 in
set_option maxHeartbeats 1000000 in
theorem rFinite (b : Nat) (w : World) : Calls Tryd.prog 9 #[.float .f64 b] w fun e w' => e = .returned (.bool (wgt b)) ∧ ∃ q, w' = w.drewN q := by
  by_cases hg : ge0 b = true
  · have hg' := (ge0_iff b).1 hg
    by_cases hf : mg b < 9218868437227405312
    · have hs : ∀ (t : TypeId) (W : World), (binOp .sub t (.float .f64 b) (.float .f64 b)).run Tryd.prog W = .ok (.float .f64 0) W := fun t W => run_float_arith W .sub t .f64 b b 0 (sub_fin b hf)
      have ho : (FloatKind.f64.format.order 0 0 == some .eq) = true := by decide +kernel
      have hw : wgt b = true := by unfold wgt; rw [hg, decide_eq_true hf]; rfl
      rw [hw]
      unfold ge0 at hg
      clear hg' hf hw
      go_enter Tryd.func9, Tryd.ntmps9
      go_wp2_with fail
      go_ret
      exact ⟨rfl, 0, rfl⟩
    · have hs : ∀ (t : TypeId) (W : World), (binOp .sub t (.float .f64 b) (.float .f64 b)).run Tryd.prog W = .ok (.float .f64 (nanAt b b W)) W.drew := fun t W => run_float_nan W .sub (by simp) t b b (sub_inf b (by omega))
      have ho : (FloatKind.f64.format.order (nanAt b b w) 0 == some .eq) = false := by
        have := ord0 (nanAt b b w) 0 (.inl rfl)
        rw [if_pos (nanAt_nan b b w).1] at this
        rw [show FloatKind.f64.format.order (nanAt b b w) 0 = none from this]
        rfl
      have hw : wgt b = false := by unfold wgt; rw [decide_eq_false hf]; rfl
      rw [hw]
      unfold ge0 at hg
      clear hg' hf hw
      go_enter Tryd.func9, Tryd.ntmps9
      go_wp2_with fail
      go_ret
      exact ⟨rfl, 1, rfl⟩
  · have hw : wgt b = false := by unfold wgt; rw [Bool.not_eq_true] at hg; rw [hg, Bool.and_false]
    rw [hw]
    rw [Bool.not_eq_true] at hg
    unfold ge0 at hg
    clear hw
    go_enter Tryd.func9, Tryd.ntmps9
    go_wp2_with fail
    go_ret
    exact ⟨rfl, 0, rfl⟩
/-- What is chosen, and whether it is refused. -/
def okC (z o u r : Nat) : Bool := wgt z && wgt o && wgt r && !(FloatKind.f64.format.order r 0 == some .eq) && frc u
def chooseP (z o u : Nat) : Int × Int := match floatBits .add .f64 z o with
  | none => (0, 110)
  | some r => if okC z o u r then (if FloatKind.f64.format.order z 0 == some .eq || FloatKind.f64.format.order (mulB u r) o == some .lt then (1, 0) else (0, 0)) else (0, 110)
theorem add_lt {z o r : Nat} (h : floatBits .add .f64 z o = some r) : r < 18446744073709551616 := by
  have := floatBits_wf h
  simpa [Lit.wf] using this
set_option maxRecDepth 100000 in
set_option maxHeartbeats 2000000 in
theorem oChoose (z o u : Nat) (hz : z < 18446744073709551616) (ho : o < 18446744073709551616) (w : World) : Calls Tryd.prog 4 #[.float .f64 z, .float .f64 o, .float .f64 u] w fun e w' => e = .returned (.tuple #[.int .i64 (chooseP z o u).1, .int .i64 (chooseP z o u).2]) ∧ ∃ q, w' = w.drewN q := by
  have c1 := fun W => oIsWeight z hz W
  have c2 := fun W => oIsWeight o ho W
  have c4 := fun W => oIsFraction u W
  unfold chooseP
  cases hs : floatBits .add .f64 z o with
  | none =>
    have hr : ∀ (t : TypeId) (W : World), (binOp .add t (.float .f64 z) (.float .f64 o)).run Tryd.prog W = .ok (.float .f64 (nanAt z o W)) W.drew := fun t W => run_float_nan W .add (by simp) t z o hs
    have c3 := fun W => oIsWeight (nanAt z o w) (nanAt_nan z o w).2 W
    rw [nan_wgt _ (nanAt_nan z o w).1] at c3
    clear hs
    simp only
    generalize wgt z = A at *
    generalize wgt o = B at *
    cases A with
    | false =>
      go_enter Tryd.func4, Tryd.ntmps4
      go_wp2_with (first | (go_at_call 7; refine (c1 _).mono ?_; rintro e w1 ⟨rfl, rfl⟩))
      go_ret2
      exact ⟨rfl, 1, rfl⟩
    | true =>
      cases B with
      | false =>
        go_enter Tryd.func4, Tryd.ntmps4
        go_wp2_with (first | (go_at_call 7; (with_reducible refine Calls.mono (c1 _) ?_); rintro e w1 ⟨rfl, rfl⟩) | (go_at_call 7; (with_reducible refine Calls.mono (c2 _) ?_); rintro e w1 ⟨rfl, rfl⟩))
        go_ret2
        exact ⟨rfl, 1, rfl⟩
      | true =>
        go_enter Tryd.func4, Tryd.ntmps4
        go_wp2_with (first | (go_at_call 7; (with_reducible refine Calls.mono (c1 _) ?_); rintro e w1 ⟨rfl, rfl⟩) | (go_at_call 7; (with_reducible refine Calls.mono (c2 _) ?_); rintro e w1 ⟨rfl, rfl⟩) | (go_at_call 7; (with_reducible refine Calls.mono (c3 _) ?_); rintro e w1 ⟨rfl, rfl⟩))
        go_ret2
        exact ⟨rfl, 1, rfl⟩
  | some r =>
    have hr : ∀ (t : TypeId) (W : World), (binOp .add t (.float .f64 z) (.float .f64 o)).run Tryd.prog W = .ok (.float .f64 r) W := fun t W => run_float_arith W .add t .f64 z o r hs
    have c3 := fun W => oIsWeight r (add_lt hs) W
    have hm : wgt r = true → frc u = true → ∀ (t : TypeId) (W : World), (binOp .mul t (.float .f64 u) (.float .f64 r)).run Tryd.prog W = .ok (.float .f64 (mulB u r)) W := fun h1 h2 t W => run_float_arith W .mul t .f64 u r _ (mul_fin u r (frc_fin u h2).1 (wgt_fin r h1).1)
    clear hs hz ho
    simp only
    unfold okC
    generalize wgt z = A at *
    generalize wgt o = B at *
    generalize wgt r = C at *
    generalize frc u = F at *
    generalize mulB u r = M at *
    cases A with
    | false =>
      clear hm
      go_enter Tryd.func4, Tryd.ntmps4
      go_wp2_with (first | (go_at_call 7; refine (c1 _).mono ?_; rintro e w1 ⟨rfl, rfl⟩))
      go_ret2
      exact ⟨rfl, 0, rfl⟩
    | true =>
    cases B with
    | false =>
      clear hm
      go_enter Tryd.func4, Tryd.ntmps4
      go_wp2_with (first | (go_at_call 7; (with_reducible refine Calls.mono (c1 _) ?_); rintro e w1 ⟨rfl, rfl⟩) | (go_at_call 7; (with_reducible refine Calls.mono (c2 _) ?_); rintro e w1 ⟨rfl, rfl⟩))
      go_ret2
      exact ⟨rfl, 0, rfl⟩
    | true =>
    cases C with
    | false =>
      clear hm
      go_enter Tryd.func4, Tryd.ntmps4
      go_wp2_with (first | (go_at_call 7; (with_reducible refine Calls.mono (c1 _) ?_); rintro e w1 ⟨rfl, rfl⟩) | (go_at_call 7; (with_reducible refine Calls.mono (c2 _) ?_); rintro e w1 ⟨rfl, rfl⟩) | (go_at_call 7; (with_reducible refine Calls.mono (c3 _) ?_); rintro e w1 ⟨rfl, rfl⟩))
      go_ret2
      exact ⟨rfl, 0, rfl⟩
    | true =>
    cases F with
    | false =>
      clear hm
      generalize hD : (FloatKind.f64.format.order r 0 == some .eq) = D
      cases D <;> (go_enter Tryd.func4, Tryd.ntmps4; go_wp2_with (first | (go_at_call 7; (with_reducible refine Calls.mono (c1 _) ?_); rintro e w1 ⟨rfl, rfl⟩) | (go_at_call 7; (with_reducible refine Calls.mono (c2 _) ?_); rintro e w1 ⟨rfl, rfl⟩) | (go_at_call 7; (with_reducible refine Calls.mono (c3 _) ?_); rintro e w1 ⟨rfl, rfl⟩) | (go_at_call 8; (with_reducible refine Calls.mono (c4 _) ?_); rintro e w1 ⟨rfl, rfl⟩)); go_ret2; exact ⟨rfl, 0, rfl⟩)
    | true =>
      have hmm := hm rfl rfl
      clear hm
      generalize hD : (FloatKind.f64.format.order r 0 == some .eq) = D
      generalize hE : (FloatKind.f64.format.order z 0 == some .eq) = E
      generalize hG : (FloatKind.f64.format.order M o == some .lt) = G
      cases D <;> cases E <;> cases G <;> (go_enter Tryd.func4, Tryd.ntmps4; go_wp2_with (first | (go_at_call 7; (with_reducible refine Calls.mono (c1 _) ?_); rintro e w1 ⟨rfl, rfl⟩) | (go_at_call 7; (with_reducible refine Calls.mono (c2 _) ?_); rintro e w1 ⟨rfl, rfl⟩) | (go_at_call 7; (with_reducible refine Calls.mono (c3 _) ?_); rintro e w1 ⟨rfl, rfl⟩) | (go_at_call 8; (with_reducible refine Calls.mono (c4 _) ?_); rintro e w1 ⟨rfl, rfl⟩)); go_ret2; exact ⟨rfl, 0, rfl⟩)
end Go.Proofs.YtedmdeifjmconaaDoor.Odd
