/- DyadMakes, as it is walked. -/
import Derived.Test.YthpkmbgollollaaDoorJa
namespace Go.Proofs.YthpkmbgollollaaDoor.Dy
open Go.RowKit Go.Lib Go.Shelf Go.Proofs.YthpkmbgollollaaDoor.Sca

set_option maxRecDepth 100000 in
set_option maxHeartbeats 2000000 in
theorem vMakes (re im ex : Int) (d : DD) (hr : i64 re) (hi : i64 im) (hd : d64 d) (w : World) (hT : Tv w) : Calls Tryd.prog 3 #[.int .i64 re, .int .i64 im, .int .i64 ex, dV d] w fun e w' => e = .returned (.bool true) ∧ Below w.heap.size w w' := by
  have c1 := fun w hT => yMake re im ex hr hi w hT
  have c2 := fun w => zMake re im ex hr hi w
  have c5 := fun w hT => vHeads w hT
  have c3 := fun w => yCheck d hd w
  have c4 := fun w => zRight d w
  generalize makeR re im ex = r at *
  obtain ⟨⟨r1, r2, r3⟩, r4⟩ := r
  by_cases hR : Rt d
  · rw [chk_ok hR] at c3
    rw [decide_eq_true hR] at c4
    clear hR hd hr hi
    unfold aV dV at *
    dsimp only at *
    obtain ⟨d1, d2, d3⟩ := d
    dsimp only at *
    go_enter Tryd.func3, Tryd.ntmps3
    go_wp2_with fail
    refine (c1 _ (hT.below (below_new _ _)).tz).mono ?_
    rintro e w1 ⟨rfl, q1⟩
    have hD := ((At.new w d1 d2 d3).below q1).below (below_new w1 (dO r1 r2 r3))
    have hb1 : Below w.heap.size w w1 := (below_new _ _).trans (q1.mono (by simp))
    have hb2 := hb1.trans ((below_new w1 (dO r1 r2 r3)).mono hb1.size)
    have hA := At.new w1 r1 r2 r3
    clear q1 c1 hb1
    go_wp2_with fail
    generalize w1.alloc (dO r1 r2 r3) = W1 at *
    refine (c2 _).mono ?_
    rintro e w2 ⟨rfl, q2⟩
    have hD2 := (hD.below q2).below (below_new w2 (dO r1 r2 r3))
    have hA2 := (hA.below q2).below (below_new w2 (dO r1 r2 r3))
    have hb3 := hb2.trans (q2.mono hb2.size)
    have hb4 := hb3.trans ((below_new w2 (dO r1 r2 r3)).mono hb3.size)
    have hB := At.new w2 r1 r2 r3
    clear q2 c2 hb2 hb3 hD hA
    go_wp2_with fail
    generalize w2.alloc (dO r1 r2 r3) = W0 at *
    have hbN := hb4
    refine wp_region_quiet (C := fun W => Below W0.heap.size W0 W) (by kernel_rfl) (by kernel_rfl) (below_drewN (Below.refl _ _) 1) ?_
    repeat
      refine wpQuiet_step (fun K hK => ?_)
      go_simp
      first
        | (refine hK _ ?_; clear hK K)
        | (apply Exists.intro
           refine ⟨fun W hW => ?_, hK _ ?_⟩
           first
             | (refine (c3 _).mono ?_; rintro e x ⟨rfl, q⟩; exact ⟨rfl, hW.trans (q.mono hW.size)⟩)
             | (refine (c4 _).mono ?_; rintro e x ⟨rfl, q⟩; exact ⟨rfl, hW.trans (q.mono hW.size)⟩)
             | (refine (c5 _ (hT.below (hbN.trans (hW.mono hbN.size)))).mono ?_; rintro e x ⟨rfl, q⟩; exact ⟨rfl, hW.trans (q.mono hW.size)⟩)
             | (obtain ⟨a0, a1, a2⟩ := (hA2.below hW).cells; go_simp; rfl)
             | (obtain ⟨a0, a1, a2⟩ := (hB.below hW).cells; go_simp; rfl)
             | (obtain ⟨a0, a1, a2⟩ := (hD2.below hW).cells; go_simp; rfl)
           clear hK K)
    refine wpQuiet_nil ?_
    intro W hW
    have hbF := hbN.trans (hW.mono hbN.size)
    go_wp2_with fail
    go_ret
    exact ⟨rfl, hbF⟩
  · rw [chk_no hR] at c3
    rw [decide_eq_false hR] at c4
    clear hR hd hr hi
    unfold aV dV at *
    dsimp only at *
    obtain ⟨d1, d2, d3⟩ := d
    dsimp only at *
    go_enter Tryd.func3, Tryd.ntmps3
    go_wp2_with fail
    refine (c1 _ (hT.below (below_new _ _)).tz).mono ?_
    rintro e w1 ⟨rfl, q1⟩
    have hD := ((At.new w d1 d2 d3).below q1).below (below_new w1 (dO r1 r2 r3))
    have hb1 : Below w.heap.size w w1 := (below_new _ _).trans (q1.mono (by simp))
    have hb2 := hb1.trans ((below_new w1 (dO r1 r2 r3)).mono hb1.size)
    have hA := At.new w1 r1 r2 r3
    clear q1 c1 hb1
    go_wp2_with fail
    generalize w1.alloc (dO r1 r2 r3) = W1 at *
    refine (c2 _).mono ?_
    rintro e w2 ⟨rfl, q2⟩
    have hD2 := (hD.below q2).below (below_new w2 (dO r1 r2 r3))
    have hA2 := (hA.below q2).below (below_new w2 (dO r1 r2 r3))
    have hb3 := hb2.trans (q2.mono hb2.size)
    have hb4 := hb3.trans ((below_new w2 (dO r1 r2 r3)).mono hb3.size)
    have hB := At.new w2 r1 r2 r3
    clear q2 c2 hb2 hb3 hD hA
    go_wp2_with fail
    generalize w2.alloc (dO r1 r2 r3) = W0 at *
    have hbN := hb4
    refine wp_region_quiet (C := fun W => Below W0.heap.size W0 W) (by kernel_rfl) (by kernel_rfl) (below_drewN (Below.refl _ _) 1) ?_
    repeat
      refine wpQuiet_step (fun K hK => ?_)
      go_simp
      first
        | (refine hK _ ?_; clear hK K)
        | (apply Exists.intro
           refine ⟨fun W hW => ?_, hK _ ?_⟩
           first
             | (refine (c3 _).mono ?_; rintro e x ⟨rfl, q⟩; exact ⟨rfl, hW.trans (q.mono hW.size)⟩)
             | (refine (c4 _).mono ?_; rintro e x ⟨rfl, q⟩; exact ⟨rfl, hW.trans (q.mono hW.size)⟩)
             | (refine (c5 _ (hT.below (hbN.trans (hW.mono hbN.size)))).mono ?_; rintro e x ⟨rfl, q⟩; exact ⟨rfl, hW.trans (q.mono hW.size)⟩)
             | (obtain ⟨a0, a1, a2⟩ := (hA2.below hW).cells; go_simp; rfl)
             | (obtain ⟨a0, a1, a2⟩ := (hB.below hW).cells; go_simp; rfl)
             | (obtain ⟨a0, a1, a2⟩ := (hD2.below hW).cells; go_simp; rfl)
           clear hK K)
    refine wpQuiet_nil ?_
    intro W hW
    have hbF := hbN.trans (hW.mono hbN.size)
    go_wp2_with fail
    go_ret
    exact ⟨rfl, hbF⟩
end Go.Proofs.YthpkmbgollollaaDoor.Dy
