/- The document's Choose (gen_c11.py). -/
import Derived.Test.YtedmdeifjmconaaDoorB11
namespace Go.Proofs.YtedmdeifjmconaaDoor.Odd
open Go.RowKit Go.Proofs.YtedmdeifjmconaaDoor.Sca

theorem rFinite_t (b : Nat) (h : wgt b = true) (w : World) : Calls Tryd.prog 9 #[.float .f64 b] w fun e w' => e = .returned (.bool true) ∧ w' = w := by
  have hg : ge0 b = true := by
    unfold wgt at h
    rw [Bool.and_eq_true] at h
    exact h.2
  have hs : ∀ (t : TypeId) (W : World), (binOp .sub t (.float .f64 b) (.float .f64 b)).run Tryd.prog W = .ok (.float .f64 0) W := fun t W => run_float_arith W .sub t .f64 b b 0 (sub_fin b (wgt_fin b h).1)
  have ho : (FloatKind.f64.format.order 0 0 == some .eq) = true := by decide +kernel
  unfold ge0 at hg
  clear h
  go_enter Tryd.func9, Tryd.ntmps9
  go_wp2_with fail
  go_ret
  exact ⟨rfl, rfl⟩
theorem rFinite_f (b : Nat) (h : wgt b = false) (w : World) : Calls Tryd.prog 9 #[.float .f64 b] w fun e w' => e = .returned (.bool false) ∧ ∃ q, w' = w.drewN q := by
  have := rFinite b w
  rwa [h] at this
theorem wgt_gt (r : Nat) (h : wgt r = true) : (FloatKind.f64.format.order r 0 == some .gt) = !(FloatKind.f64.format.order r 0 == some .eq) := by
  unfold wgt ge0 at h
  rw [Bool.and_eq_true] at h
  have h2 := h.2
  cases hh : FloatKind.f64.format.order r 0 with
  | none => rw [hh] at h2; simp at h2
  | some x => rw [hh] at h2; cases x <;> simp_all
/-- Where one of the two weighs nothing. -/
theorem none_one (z o u r : Nat) (hz : z < 18446744073709551616) (ho : o < 18446744073709551616) (hs : floatBits .add .f64 z o = some r) (hr : wgt r = true) (hu : frc u = true) (hD : (FloatKind.f64.format.order r 0 == some .eq) = false) (hH : (FloatKind.f64.format.order o 0 == some .eq) = true) : (FloatKind.f64.format.order z 0 == some .eq) = false ∧ (FloatKind.f64.format.order (mulB u r) o == some .lt) = false := by
  have ho' := zero_of o ho (by simpa using hH)
  refine ⟨?_, mul_not_lt u r o (frc_fin u hu).2 (wgt_fin r hr).2 ho'⟩
  cases hE : (FloatKind.f64.format.order z 0 == some .eq) with
  | false => rfl
  | true =>
    obtain ⟨r', h1, h2⟩ := add_zeros z o (zero_of z hz (by simpa using hE)) ho'
    rw [hs] at h1
    cases h1
    rw [h2] at hD
    simp at hD
set_option maxRecDepth 100000 in
set_option maxHeartbeats 2000000 in
theorem rChoose (z o u : Nat) (hz : z < 18446744073709551616) (ho : o < 18446744073709551616) (w : World) : Calls Tryd.prog 5 #[.float .f64 z, .float .f64 o, .float .f64 u] w fun e w' => e = .returned (.tuple #[.int .i64 (chooseP z o u).1, .int .i64 (chooseP z o u).2]) ∧ ∃ q, w' = w.drewN q := by
  unfold chooseP
  cases hs : floatBits .add .f64 z o with
  | none =>
    have hr : ∀ (t : TypeId) (W : World), (binOp .add t (.float .f64 z) (.float .f64 o)).run Tryd.prog W = .ok (.float .f64 (nanAt z o W)) W.drew := fun t W => run_float_nan W .add (by simp) t z o hs
    have c3 := fun W => rFinite_f (nanAt z o w) (nan_wgt _ (nanAt_nan z o w).1) W
    clear hs
    simp only
    cases hA : wgt z with
    | false =>
      have c1 := fun W => rFinite_f z hA W
      clear hA
      go_enter Tryd.func5, Tryd.ntmps5
      go_wp2_with (first | (go_at_call 9; (with_reducible refine Calls.mono (c1 _) ?_); rintro e w1 ⟨rfl, q, rfl⟩))
      go_ret2
      exact ⟨rfl, 1 + q, by rw [← World.drewN_drewN]⟩
    | true =>
    have c1 := fun W => rFinite_t z hA W
    cases hB : wgt o with
    | false =>
      have c2 := fun W => rFinite_f o hB W
      clear hA hB
      go_enter Tryd.func5, Tryd.ntmps5
      go_wp2_with (first | (go_at_call 9; (with_reducible refine Calls.mono (c1 _) ?_); rintro e w1 ⟨rfl, rfl⟩) | (go_at_call 9; (with_reducible refine Calls.mono (c2 _) ?_); rintro e w1 ⟨rfl, q, rfl⟩))
      go_ret2
      exact ⟨rfl, 1 + q, by rw [← World.drewN_drewN]⟩
    | true =>
      have c2 := fun W => rFinite_t o hB W
      clear hA hB
      go_enter Tryd.func5, Tryd.ntmps5
      go_wp2_with (first | (go_at_call 9; (with_reducible refine Calls.mono (c1 _) ?_); rintro e w1 ⟨rfl, rfl⟩) | (go_at_call 9; (with_reducible refine Calls.mono (c2 _) ?_); rintro e w1 ⟨rfl, rfl⟩) | (go_at_call 9; (with_reducible refine Calls.mono (c3 _) ?_); rintro e w1 ⟨rfl, q, rfl⟩))
      go_ret2
      exact ⟨rfl, 1 + q, by rw [← World.drewN_drewN]⟩
  | some r =>
    have hr : ∀ (t : TypeId) (W : World), (binOp .add t (.float .f64 z) (.float .f64 o)).run Tryd.prog W = .ok (.float .f64 r) W := fun t W => run_float_arith W .add t .f64 z o r hs
    have hm : wgt r = true → frc u = true → ∀ (t : TypeId) (W : World), (binOp .mul t (.float .f64 u) (.float .f64 r)).run Tryd.prog W = .ok (.float .f64 (mulB u r)) W := fun h1 h2 t W => run_float_arith W .mul t .f64 u r _ (mul_fin u r (frc_fin u h2).1 (wgt_fin r h1).1)
    have hN := fun h1 h2 h3 h4 => none_one z o u r hz ho hs h1 h2 h3 h4
    have hgt := wgt_gt r
    clear hs hz ho
    simp only
    unfold okC
    cases hA : wgt z with
    | false =>
      have c1 := fun W => rFinite_f z hA W
      clear hm hN hgt hA
      go_enter Tryd.func5, Tryd.ntmps5
      go_wp2_with (first | (go_at_call 9; (with_reducible refine Calls.mono (c1 _) ?_); rintro e w1 ⟨rfl, q, rfl⟩))
      go_ret2
      exact ⟨rfl, q, rfl⟩
    | true =>
    have c1 := fun W => rFinite_t z hA W
    cases hB : wgt o with
    | false =>
      have c2 := fun W => rFinite_f o hB W
      clear hm hN hgt hA hB
      go_enter Tryd.func5, Tryd.ntmps5
      go_wp2_with (first | (go_at_call 9; (with_reducible refine Calls.mono (c1 _) ?_); rintro e w1 ⟨rfl, rfl⟩) | (go_at_call 9; (with_reducible refine Calls.mono (c2 _) ?_); rintro e w1 ⟨rfl, q, rfl⟩))
      go_ret2
      exact ⟨rfl, q, rfl⟩
    | true =>
    have c2 := fun W => rFinite_t o hB W
    cases hC : wgt r with
    | false =>
      have c3 := fun W => rFinite_f r hC W
      clear hm hN hgt hA hB hC
      go_enter Tryd.func5, Tryd.ntmps5
      go_wp2_with (first | (go_at_call 9; (with_reducible refine Calls.mono (c1 _) ?_); rintro e w1 ⟨rfl, rfl⟩) | (go_at_call 9; (with_reducible refine Calls.mono (c2 _) ?_); rintro e w1 ⟨rfl, rfl⟩) | (go_at_call 9; (with_reducible refine Calls.mono (c3 _) ?_); rintro e w1 ⟨rfl, q, rfl⟩))
      go_ret2
      exact ⟨rfl, q, rfl⟩
    | true =>
    have c3 := fun W => rFinite_t r hC W
    have hgt' := hgt hC
    have hm' := hm hC
    have hN' := hN hC
    clear hm hN hgt hA hB hC
    cases hD : (FloatKind.f64.format.order r 0 == some .eq) with
    | true =>
      rw [hD, Bool.not_true] at hgt'
      clear hm' hN' hD
      go_enter Tryd.func5, Tryd.ntmps5
      go_wp2_with (first | (go_at_call 9; (with_reducible refine Calls.mono (c1 _) ?_); rintro e w1 ⟨rfl, rfl⟩) | (go_at_call 9; (with_reducible refine Calls.mono (c2 _) ?_); rintro e w1 ⟨rfl, rfl⟩) | (go_at_call 9; (with_reducible refine Calls.mono (c3 _) ?_); rintro e w1 ⟨rfl, rfl⟩))
      go_ret2
      exact ⟨rfl, 0, rfl⟩
    | false =>
    rw [hD, Bool.not_false] at hgt'
    unfold frc ge0 at *
    cases hF1 : (FloatKind.f64.format.order u 0 == some .gt || FloatKind.f64.format.order u 0 == some .eq) with
    | false =>
      clear hm' hN' hD
      go_enter Tryd.func5, Tryd.ntmps5
      go_wp2_with (first | (go_at_call 9; (with_reducible refine Calls.mono (c1 _) ?_); rintro e w1 ⟨rfl, rfl⟩) | (go_at_call 9; (with_reducible refine Calls.mono (c2 _) ?_); rintro e w1 ⟨rfl, rfl⟩) | (go_at_call 9; (with_reducible refine Calls.mono (c3 _) ?_); rintro e w1 ⟨rfl, rfl⟩))
      go_ret2
      exact ⟨rfl, 0, rfl⟩
    | true =>
    cases hF2 : (FloatKind.f64.format.order u 4607182418800017408 == some .lt) with
    | false =>
      clear hm' hN' hD
      go_enter Tryd.func5, Tryd.ntmps5
      go_wp2_with (first | (go_at_call 9; (with_reducible refine Calls.mono (c1 _) ?_); rintro e w1 ⟨rfl, rfl⟩) | (go_at_call 9; (with_reducible refine Calls.mono (c2 _) ?_); rintro e w1 ⟨rfl, rfl⟩) | (go_at_call 9; (with_reducible refine Calls.mono (c3 _) ?_); rintro e w1 ⟨rfl, rfl⟩))
      go_ret2
      exact ⟨rfl, 0, rfl⟩
    | true =>
    rw [hF1, hF2] at hm' hN'
    have hmm := hm' rfl
    cases hH : (FloatKind.f64.format.order o 0 == some .eq) with
    | true =>
      obtain ⟨hE, hG⟩ := hN' rfl hD hH
      rw [hE, hG]
      clear hm' hN' hD
      go_enter Tryd.func5, Tryd.ntmps5
      go_wp2_with (first | (go_at_call 9; (with_reducible refine Calls.mono (c1 _) ?_); rintro e w1 ⟨rfl, rfl⟩) | (go_at_call 9; (with_reducible refine Calls.mono (c2 _) ?_); rintro e w1 ⟨rfl, rfl⟩) | (go_at_call 9; (with_reducible refine Calls.mono (c3 _) ?_); rintro e w1 ⟨rfl, rfl⟩))
      go_ret2
      exact ⟨rfl, 0, rfl⟩
    | false =>
    clear hm' hN' hD
    generalize mulB u r = M at *
    cases hE : (FloatKind.f64.format.order z 0 == some .eq) with
    | true =>
      go_enter Tryd.func5, Tryd.ntmps5
      go_wp2_with (first | (go_at_call 9; (with_reducible refine Calls.mono (c1 _) ?_); rintro e w1 ⟨rfl, rfl⟩) | (go_at_call 9; (with_reducible refine Calls.mono (c2 _) ?_); rintro e w1 ⟨rfl, rfl⟩) | (go_at_call 9; (with_reducible refine Calls.mono (c3 _) ?_); rintro e w1 ⟨rfl, rfl⟩))
      go_ret2
      exact ⟨rfl, 0, rfl⟩
    | false =>
    cases hG : (FloatKind.f64.format.order M o == some .lt) with
    | true =>
      go_enter Tryd.func5, Tryd.ntmps5
      go_wp2_with (first | (go_at_call 9; (with_reducible refine Calls.mono (c1 _) ?_); rintro e w1 ⟨rfl, rfl⟩) | (go_at_call 9; (with_reducible refine Calls.mono (c2 _) ?_); rintro e w1 ⟨rfl, rfl⟩) | (go_at_call 9; (with_reducible refine Calls.mono (c3 _) ?_); rintro e w1 ⟨rfl, rfl⟩))
      go_ret2
      exact ⟨rfl, 0, rfl⟩
    | false =>
      go_enter Tryd.func5, Tryd.ntmps5
      go_wp2_with (first | (go_at_call 9; (with_reducible refine Calls.mono (c1 _) ?_); rintro e w1 ⟨rfl, rfl⟩) | (go_at_call 9; (with_reducible refine Calls.mono (c2 _) ?_); rintro e w1 ⟨rfl, rfl⟩) | (go_at_call 9; (with_reducible refine Calls.mono (c3 _) ?_); rintro e w1 ⟨rfl, rfl⟩))
      go_ret2
      exact ⟨rfl, 0, rfl⟩
end Go.Proofs.YtedmdeifjmconaaDoor.Odd
