/- What must come at any rate. -/
import Derived.Test.YthpkmbgollollabDoorIf
import Derived.Test.YthpkmbgollollabDoorGd
import Derived.Test.YthpkmbgollollabDoorDj
import Derived.Test.YthpkmbgollollabDoorEb
namespace Go.Proofs.YthpkmbgollollabDoor.Dy
open Go.RowKit Go.Lib Go.Shelf Go.Proofs.YthpkmbgollollabDoor.Sca

/-- What the variables hold. -/
structure Tv (w : World) : Prop where
  tz : Tz w
  tp : Tp w
theorem Tv.below {w w' : World} (h : Tv w) (hb : Below w.heap.size w w') : Tv w' := ⟨h.tz.below hb, h.tp.below hb⟩
theorem k_make : makeR 2 4 2 = (⟨1, 2, 1⟩, 0) := by decide +kernel
theorem k_mul : mulR ⟨1, 1, 1⟩ ⟨1, -1, 1⟩ = (⟨1, 0, 1⟩, 0) := by decide +kernel
theorem k_from : joinB 3 (-2) = 4604930618986332160 ∧ joinB (-2) (-2) = 13826050856027422720 := by decide +kernel
theorem k_right : Rt ⟨3, -2, 2⟩ ∧ ¬ Rt ⟨2, 4, 2⟩ := by decide +kernel
theorem k_print : prD ⟨3, -2, 2⟩ = [51, 45, 50, 105, 47, 52] := by decide +kernel
theorem vD (a b c : Int) (w : World) : Calls Tryd.prog 21 #[.int .i64 a, .int .i64 b, .int .i64 c] w fun e w' => e = .returned (.agg #[.int .i64 a, .int .i64 b, .int .i64 c]) ∧ Below w.heap.size w w' := by
  go_enter Tryd.func21, Tryd.ntmps21
  go_wp2_with fail
  refine bodyPost_ret (results_c rfl _ _ w.heap.size _ _ _ _ rfl (heap_alloc_new _ _) Tryd.underlying23 rfl (by exact infoD)) rfl ?_
  exact ⟨rfl, below_new _ _⟩
set_option maxRecDepth 100000 in
set_option maxHeartbeats 2000000 in
theorem vHeads (w : World) (hT : Tv w) : Calls Tryd.prog 6 #[] w fun e w' => e = .returned (.bool true) ∧ Below w.heap.size w w' := by
  have c1 := fun w hT => yMake 2 4 2 (by decide) (by decide) w hT
  rw [k_make] at c1
  have c2 := fun w hT => yMul ⟨1, 1, 1⟩ ⟨1, -1, 1⟩ (by decide) (by decide) w hT
  rw [k_mul] at c2
  have c3 := fun w hT => yFrom ⟨3, -2, 2⟩ k_right.1 w hT
  dsimp only at c3
  rw [k_from.1, k_from.2] at c3
  have c4 := fun w hT => yPrint_ok ⟨3, -2, 2⟩ k_right.1 w hT
  have c5 := fun w hT => yParse_print ⟨3, -2, 2⟩ k_right.1 w hT
  rw [k_print] at c4 c5
  have c6 := fun w => yCheck ⟨2, 4, 2⟩ (by decide) w
  rw [chk_no k_right.2] at c6
  unfold aV dV at *
  dsimp only at *
  have cD := vD
  go_enter Tryd.func6, Tryd.ntmps6
  go_wp2_with fail
  refine (c1 _ (hT.tz)).mono ?_
  rintro e w1 ⟨rfl, q1⟩
  have hb1 := q1
  clear q1
  have hb2 := hb1.trans ((below_new w1 (dO 1 2 1)).mono hb1.size)
  have ha := At.new w1 1 2 1
  go_wp2_with fail
  generalize w1.alloc (dO 1 2 1) = w2 at *
  refine (cD 1 1 1 _).mono ?_
  rintro e w3 ⟨rfl, q3⟩
  have hb3 := hb2.trans (q3.mono hb2.size)
  replace ha := ha.below q3
  clear q3
  go_wp2_with fail
  refine (cD 1 (-1) 1 _).mono ?_
  rintro e w4 ⟨rfl, q4⟩
  have hb4 := hb3.trans (q4.mono hb3.size)
  replace ha := ha.below q4
  clear q4
  go_wp2_with fail
  refine (c2 _ ((hT.below hb4).tz)).mono ?_
  rintro e w5 ⟨rfl, q5⟩
  have hb5 := hb4.trans (q5.mono hb4.size)
  replace ha := ha.below q5
  clear q5
  have hb6 := hb5.trans ((below_new w5 (dO 1 0 1)).mono hb5.size)
  replace ha := ha.below (below_new w5 (dO 1 0 1))
  have hm := At.new w5 1 0 1
  go_wp2_with fail
  generalize w5.alloc (dO 1 0 1) = w6 at *
  refine (c3 _ ((hT.below hb6).tz)).mono ?_
  rintro e w7 ⟨rfl, q7⟩
  have hb7 := hb6.trans (q7.mono hb6.size)
  replace ha := ha.below q7
  replace hm := hm.below q7
  clear q7
  have hb8 := hb7.trans ((below_new w7 (dO 3 (-2) 2)).mono hb7.size)
  replace ha := ha.below (below_new w7 (dO 3 (-2) 2))
  replace hm := hm.below (below_new w7 (dO 3 (-2) 2))
  have hf := At.new w7 3 (-2) 2
  go_wp2_with fail
  generalize w7.alloc (dO 3 (-2) 2) = w8 at *
  refine (cD 3 (-2) 2 _).mono ?_
  rintro e w9 ⟨rfl, q9⟩
  have hb9 := hb8.trans (q9.mono hb8.size)
  replace ha := ha.below q9
  replace hm := hm.below q9
  replace hf := hf.below q9
  clear q9
  go_wp2_with fail
  refine (c4 _ ((hT.below hb9).tp.ten)).mono ?_
  rintro e w10 ⟨rfl, q10⟩
  have hb10 := hb9.trans (q10.mono hb9.size)
  replace ha := ha.below q10
  replace hm := hm.below q10
  replace hf := hf.below q10
  clear q10
  go_wp2_with fail
  refine (c5 _ ((hT.below hb10).tp)).mono ?_
  rintro e w11 ⟨rfl, q11⟩
  have hb11 := hb10.trans (q11.mono hb10.size)
  replace ha := ha.below q11
  replace hm := hm.below q11
  replace hf := hf.below q11
  clear q11
  have hb12 := hb11.trans ((below_new w11 (dO 3 (-2) 2)).mono hb11.size)
  replace ha := ha.below (below_new w11 (dO 3 (-2) 2))
  replace hm := hm.below (below_new w11 (dO 3 (-2) 2))
  replace hf := hf.below (below_new w11 (dO 3 (-2) 2))
  have hp := At.new w11 3 (-2) 2
  obtain ⟨a0, a1, a2⟩ := ha.cells
  obtain ⟨m0, m1, m2⟩ := hm.cells
  obtain ⟨f0, f1, f2⟩ := hf.cells
  obtain ⟨p0, p1, p2⟩ := hp.cells
  go_wp2_with fail
  clear a0 a1 a2
  clear m0 m1 m2
  clear f0 f1 f2
  clear p0 p1 p2
  generalize w11.alloc (dO 3 (-2) 2) = w12 at *
  clear c1 c2 c3 c4 c5
  have hbN := hb12
  generalize w12 = W0 at *
  refine wp_region_quiet (C := fun W => Below W0.heap.size W0 W) (by kernel_rfl) (by kernel_rfl) (below_drewN (Below.refl _ _) 1) ?_
  clear hb1 hb2 hb3 hb4 hb5 hb6 hb7 hb8 hb9 hb10 hb11 hb12
  repeat
    refine wpQuiet_step (fun K hK => ?_)
    go_simp
    first
      | (refine hK _ ?_; clear hK K)
      | (apply Exists.intro
         refine ⟨fun W hW => ?_, hK _ ?_⟩
         first
           | (refine (cD _ _ _ _).mono ?_; rintro e x ⟨rfl, q⟩; exact ⟨rfl, hW.trans (q.mono hW.size)⟩)
           | (refine (c6 _).mono ?_; rintro e x ⟨rfl, q⟩; exact ⟨rfl, hW.trans (q.mono hW.size)⟩)
           | (obtain ⟨a0, a1, a2⟩ := (ha.below hW).cells; go_simp; rfl)
           | (obtain ⟨a0, a1, a2⟩ := (hm.below hW).cells; go_simp; rfl)
           | (obtain ⟨a0, a1, a2⟩ := (hf.below hW).cells; go_simp; rfl)
           | (obtain ⟨a0, a1, a2⟩ := (hp.below hW).cells; go_simp; rfl)
         clear hK K)
  refine wpQuiet_nil ?_
  intro W hW
  have hbF := hbN.trans (hW.mono hbN.size)
  go_wp2_with fail
  go_ret
  exact ⟨rfl, hbF⟩
end Go.Proofs.YthpkmbgollollabDoor.Dy
