/- DyadPlane, where a dyad is refused; DyadPlane. -/
import Derived.Test.YthpkmbgollollabDoorUf
namespace Go.Proofs.YthpkmbgollollabDoor.Dy
open Go.RowKit Go.Lib Go.Shelf Go.Proofs.YthpkmbgollollabDoor.Sca

theorem packTo (b : DD) (hb : d64 b) : ∃ u v f, AnsT 4 #[dV b] (.tuple #[cpx u v, .int .i64 f]) := by
  by_cases h : Rt b
  · exact ⟨_, _, _, fun w hT => yTo b h w hT⟩
  · exact ⟨_, _, _, fun w _ => yTo_no b hb h w⟩
set_option maxRecDepth 100000 in
set_option maxHeartbeats 1000000 in
theorem vPlane_no (a b : DD) (had : d64 a) (hbd : d64 b) (hra : ¬ Rt a) (w : World) (hT : Tv w) : Calls Tryd.prog 3 #[dV a, dV b] w fun e w' => e = .returned (.bool true) ∧ Below w.heap.size w w' := by
  have cA := fun w => yTo_no a had hra w
  obtain ⟨u, v, f, cB⟩ := packTo b hbd
  have cR := fun w => zRight a w
  rw [decide_eq_false hra] at cR
  have c5 := fun w hT => vHeads w hT
  clear had hbd hra
  obtain ⟨a1, a2, a3⟩ := a
  obtain ⟨b1, b2, b3⟩ := b
  unfold dV at *
  unfold AnsT cpx at *
  dsimp only at *
  go_enter Tryd.func3, Tryd.ntmps3
  go_wp2_with fail
  obtain ⟨ha, hb, hbw⟩ := two_new w a1 a2 a3 b1 b2 b3
  generalize ((w.alloc (dO a1 a2 a3)).alloc (dO b1 b2 b3)) = W00 at *
  obtain ⟨a0, a1, a2⟩ := ha.cells
  obtain ⟨b0, b1, b2⟩ := hb.cells
  go_wp2_with fail
  clear a0 a1 a2 b0 b1 b2
  refine (cA _).mono ?_
  rintro e w1 ⟨rfl, q1⟩
  have hb1 := hbw.trans (q1.mono hbw.size)
  replace ha := ha.below q1
  replace hb := hb.below q1
  clear q1
  obtain ⟨a0, a1, a2⟩ := ha.cells
  obtain ⟨b0, b1, b2⟩ := hb.cells
  go_wp2_with fail
  clear a0 a1 a2 b0 b1 b2
  refine (cB _ (hT.below hb1).tz).mono ?_
  rintro e w2 ⟨rfl, q2⟩
  have hb2 := hb1.trans (q2.mono hb1.size)
  replace ha := ha.below q2
  replace hb := hb.below q2
  clear q2
  obtain ⟨a0, a1, a2⟩ := ha.cells
  obtain ⟨b0, b1, b2⟩ := hb.cells
  go_wp2_with fail
  clear a0 a1 a2 b0 b1 b2
  refine (cR _).mono ?_
  rintro e w3 ⟨rfl, q3⟩
  have hb3 := hb2.trans (q3.mono hb2.size)
  replace ha := ha.below q3
  replace hb := hb.below q3
  clear q3
  obtain ⟨a0, a1, a2⟩ := ha.cells
  obtain ⟨b0, b1, b2⟩ := hb.cells
  go_wp2_with fail
  clear a0 a1 a2 b0 b1 b2
  refine (c5 _ (hT.below hb3)).mono ?_
  rintro e w4 ⟨rfl, q4⟩
  have hb4 := hb3.trans (q4.mono hb3.size)
  replace ha := ha.below q4
  replace hb := hb.below q4
  clear q4
  go_wp2_with fail
  go_ret
  exact ⟨rfl, hb4⟩
set_option maxRecDepth 100000 in
set_option maxHeartbeats 1000000 in
theorem vPlane_no2 (a b : DD) (hbd : d64 b) (hra : Rt a) (hrb : ¬ Rt b) (w : World) (hT : Tv w) : Calls Tryd.prog 3 #[dV a, dV b] w fun e w' => e = .returned (.bool true) ∧ Below w.heap.size w w' := by
  have cA := fun w hT => yTo a hra w hT
  have cB := fun w => yTo_no b hbd hrb w
  have cR := fun w => zRight a w
  rw [decide_eq_true hra] at cR
  have cR2 := fun w => zRight b w
  rw [decide_eq_false hrb] at cR2
  have c5 := fun w hT => vHeads w hT
  generalize joinB a.re (-a.ex) = x1 at *
  generalize joinB a.im (-a.ex) = x2 at *
  clear hbd hra hrb
  obtain ⟨a1, a2, a3⟩ := a
  obtain ⟨b1, b2, b3⟩ := b
  unfold dV at *
  dsimp only at *
  go_enter Tryd.func3, Tryd.ntmps3
  go_wp2_with fail
  obtain ⟨ha, hb, hbw⟩ := two_new w a1 a2 a3 b1 b2 b3
  generalize ((w.alloc (dO a1 a2 a3)).alloc (dO b1 b2 b3)) = W00 at *
  obtain ⟨a0, a1, a2⟩ := ha.cells
  obtain ⟨b0, b1, b2⟩ := hb.cells
  go_wp2_with fail
  clear a0 a1 a2 b0 b1 b2
  refine (cA _ (hT.below hbw).tz).mono ?_
  rintro e w1 ⟨rfl, q1⟩
  have hb1 := hbw.trans (q1.mono hbw.size)
  replace ha := ha.below q1
  replace hb := hb.below q1
  clear q1
  obtain ⟨a0, a1, a2⟩ := ha.cells
  obtain ⟨b0, b1, b2⟩ := hb.cells
  go_wp2_with fail
  clear a0 a1 a2 b0 b1 b2
  refine (cB _).mono ?_
  rintro e w2 ⟨rfl, q2⟩
  have hb2 := hb1.trans (q2.mono hb1.size)
  replace ha := ha.below q2
  replace hb := hb.below q2
  clear q2
  obtain ⟨a0, a1, a2⟩ := ha.cells
  obtain ⟨b0, b1, b2⟩ := hb.cells
  go_wp2_with fail
  clear a0 a1 a2 b0 b1 b2
  refine (cR _).mono ?_
  rintro e w3 ⟨rfl, q3⟩
  have hb3 := hb2.trans (q3.mono hb2.size)
  replace ha := ha.below q3
  replace hb := hb.below q3
  clear q3
  obtain ⟨a0, a1, a2⟩ := ha.cells
  obtain ⟨b0, b1, b2⟩ := hb.cells
  go_wp2_with fail
  clear a0 a1 a2 b0 b1 b2
  refine (cR2 _).mono ?_
  rintro e w4 ⟨rfl, q4⟩
  have hb4 := hb3.trans (q4.mono hb3.size)
  replace ha := ha.below q4
  replace hb := hb.below q4
  clear q4
  obtain ⟨a0, a1, a2⟩ := ha.cells
  obtain ⟨b0, b1, b2⟩ := hb.cells
  go_wp2_with fail
  clear a0 a1 a2 b0 b1 b2
  refine (c5 _ (hT.below hb4)).mono ?_
  rintro e w5 ⟨rfl, q5⟩
  have hb5 := hb4.trans (q5.mono hb4.size)
  replace ha := ha.below q5
  replace hb := hb.below q5
  clear q5
  go_wp2_with fail
  go_ret
  exact ⟨rfl, hb5⟩
theorem vPlane (a b : DD) (ha : d64 a) (hb : d64 b) (w : World) (hT : Tv w) : Calls Tryd.prog 3 #[dV a, dV b] w fun e w' => e = .returned (.bool true) ∧ Below w.heap.size w w' := by
  by_cases h1 : Rt a
  · by_cases h2 : Rt b
    · exact vPlane_ok a b h1 h2 w hT
    · exact vPlane_no2 a b hb h1 h2 w hT
  · exact vPlane_no a b ha hb h1 w hT
end Go.Proofs.YthpkmbgollollabDoor.Dy
