/- DyadBack, as it is walked. -/
import Derived.Test.YthpkmbgollollaaDoorJa
import Derived.Test.YthpkmbgollollaaDoorEa
namespace Go.Proofs.YthpkmbgollollaaDoor.Dy
open Go.RowKit Go.Lib Go.Shelf Go.Proofs.YthpkmbgollollaaDoor.Sca

set_option maxRecDepth 100000 in
set_option maxHeartbeats 4000000 in
theorem vBack (d : DD) (w : World) (hT : Tv w) : Calls Tryd.prog 6 #[dV d] w fun e w' => e = .returned (.bool true) ∧ Below w.heap.size w w' := by
  have cR := fun w => zRight d w
  have c5 := fun w hT => vHeads w hT
  by_cases h : Rt d
  · rw [decide_eq_true h] at cR
    have cTo := fun w hT => yTo d h w hT
    have cFrom := fun w hT => yFrom d h w hT
    have cPr := fun w hT => yPrint_ok d h w hT
    have cPa := fun w hT => yParse_print d h w hT
    generalize joinB d.re (-d.ex) = j1 at *
    generalize joinB d.im (-d.ex) = j2 at *
    generalize (⟨(prD d).toArray⟩ : ByteArray) = S0 at *
    clear h
    obtain ⟨d1, d2, d3⟩ := d
    unfold aV at *
    unfold dV at *
    dsimp only at *
    go_enter Tryd.func6, Tryd.ntmps6
    go_wp2_with fail
    have hd := At.new w d1 d2 d3
    have hbw := below_new w (dO d1 d2 d3)
    generalize w.alloc (dO d1 d2 d3) = W00 at *
    refine (cR _).mono ?_
    rintro e w1 ⟨rfl, q1⟩
    have hb1 := hbw.trans (q1.mono hbw.size)
    replace hd := hd.below q1
    clear q1
    obtain ⟨d0, d1, d2⟩ := hd.cells
    go_wp2_with fail
    clear d0 d1 d2
    refine (cTo _ (hT.below hb1).tz).mono ?_
    rintro e w2 ⟨rfl, q2⟩
    have hb2 := hb1.trans (q2.mono hb1.size)
    replace hd := hd.below q2
    clear q2
    obtain ⟨d0, d1, d2⟩ := hd.cells
    go_wp2_with fail
    clear d0 d1 d2
    refine (cFrom _ (hT.below hb2).tz).mono ?_
    rintro e w3 ⟨rfl, q3⟩
    have hb3 := hb2.trans (q3.mono hb2.size)
    replace hd := hd.below q3
    clear q3
    have od_a := hd.lt
    have hb4 := hb3.trans ((below_new w3 (dO d1 d2 d3)).mono hb3.size)
    replace hd := hd.below (below_new w3 (dO d1 d2 d3))
    have ha := At.new w3 d1 d2 d3
    obtain ⟨d0, d1, d2⟩ := hd.cells
    go_wp2_with fail
    clear d0 d1 d2
    generalize w3.alloc (dO d1 d2 d3) = w4 at *
    refine (cPr _ (hT.below hb4).tp.ten).mono ?_
    rintro e w5 ⟨rfl, q5⟩
    have hb5 := hb4.trans (q5.mono hb4.size)
    replace hd := hd.below q5
    replace ha := ha.below q5
    clear q5
    obtain ⟨d0, d1, d2⟩ := hd.cells
    obtain ⟨a0, a1, a2⟩ := ha.cells
    go_wp2_with fail
    clear d0 d1 d2 a0 a1 a2
    refine (cPa _ (hT.below hb5).tp).mono ?_
    rintro e w6 ⟨rfl, q6⟩
    have hb6 := hb5.trans (q6.mono hb5.size)
    replace hd := hd.below q6
    replace ha := ha.below q6
    clear q6
    have od_b := hd.lt
    have oa_b := ha.lt
    have hb7 := hb6.trans ((below_new w6 (dO d1 d2 d3)).mono hb6.size)
    replace hd := hd.below (below_new w6 (dO d1 d2 d3))
    replace ha := ha.below (below_new w6 (dO d1 d2 d3))
    have hb := At.new w6 d1 d2 d3
    obtain ⟨d0, d1, d2⟩ := hd.cells
    obtain ⟨a0, a1, a2⟩ := ha.cells
    obtain ⟨b0, b1, b2⟩ := hb.cells
    go_wp2_with fail
    clear d0 d1 d2 a0 a1 a2 b0 b1 b2
    generalize w6.alloc (dO d1 d2 d3) = w7 at *
    refine (c5 _ (hT.below hb7)).mono ?_
    rintro e w8 ⟨rfl, q8⟩
    have hb8 := hb7.trans (q8.mono hb7.size)
    replace hd := hd.below q8
    replace ha := ha.below q8
    replace hb := hb.below q8
    clear q8
    go_wp2_with fail
    go_ret
    exact ⟨rfl, hb8⟩
  · rw [decide_eq_false h] at cR
    clear h
    obtain ⟨d1, d2, d3⟩ := d
    unfold dV at *
    dsimp only at *
    go_enter Tryd.func6, Tryd.ntmps6
    go_wp2_with fail
    have hd := At.new w d1 d2 d3
    have hbw := below_new w (dO d1 d2 d3)
    generalize w.alloc (dO d1 d2 d3) = W00 at *
    refine (cR _).mono ?_
    rintro e w1 ⟨rfl, q1⟩
    have hb1 := hbw.trans (q1.mono hbw.size)
    replace hd := hd.below q1
    clear q1
    go_wp2_with fail
    refine (c5 _ (hT.below hb1)).mono ?_
    rintro e w2 ⟨rfl, q2⟩
    have hb2 := hb1.trans (q2.mono hb1.size)
    replace hd := hd.below q2
    clear q2
    go_wp2_with fail
    go_ret
    exact ⟨rfl, hb2⟩
end Go.Proofs.YthpkmbgollollaaDoor.Dy
