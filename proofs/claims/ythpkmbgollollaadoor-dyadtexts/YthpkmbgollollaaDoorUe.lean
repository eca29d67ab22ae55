/- DyadTexts, as it is walked. -/
import Derived.Test.YthpkmbgollollaaDoorJa
import Derived.Test.YthpkmbgollollaaDoorIi
import Derived.Test.YthpkmbgollollaaDoorIl
namespace Go.Proofs.YthpkmbgollollaaDoor.Dy
open Go.RowKit Go.Lib Go.Shelf Go.Proofs.YthpkmbgollollaaDoor.Sca

theorem text_both (l : List UInt8) (hl : l.length ≤ 140737488351300) : ∃ p : DD × Int, (∀ w, Tp w → Tu w → Calls Tryd.prog 27 #[.string ⟨l.toArray⟩] w fun e w' => e = .returned (aV p) ∧ Below w.heap.size w w') ∧
    ∀ w, Calls Tryd.prog 28 #[.string ⟨l.toArray⟩] w fun e w' => e = .returned (aV p) ∧ Below w.heap.size w w' := by
  refine ⟨parsZ l, fun w hT hU => ?_, fun w => zParse l hl w⟩
  by_cases hex : ∃ d0, Rt d0 ∧ prD d0 = l
  · obtain ⟨d0, h0, rfl⟩ := hex
    rw [parsZ_print d0 h0]
    exact yParse_print d0 h0 w hT
  · have hno : ∀ d, Rt d → prD d ≠ l := fun d h e => hex ⟨d, h, e⟩
    rw [parsZ_no hno]
    exact yParse_no l hl hno w hT hU
theorem print_both (d : DD) (hd : d64 d) : ∃ T E, (∀ w, T10 w → Calls Tryd.prog 25 #[dV d] w fun e w' => e = .returned (.tuple #[.string T, .int .i64 E]) ∧ Below w.heap.size w w') ∧
    ∀ w, Calls Tryd.prog 26 #[dV d] w fun e w' => e = .returned (.tuple #[.string T, .int .i64 E]) ∧ Below w.heap.size w w' := by
  by_cases h : Rt d
  · exact ⟨_, _, fun w hT => yPrint_ok d h w hT, fun w => zPrint_ok d h w⟩
  · exact ⟨_, _, fun w _ => yPrint_no d hd h w, fun w => zPrint_no d h w⟩
set_option maxRecDepth 100000 in
set_option maxHeartbeats 4000000 in
theorem vTexts (d : DD) (hd64 : d64 d) (l : List UInt8) (hl : l.length ≤ 140737488351300) (w : World) (hT : Tv w) (hU : Tu w) : Calls Tryd.prog 5 #[dV d, .string ⟨l.toArray⟩] w fun e w' => e = .returned (.bool true) ∧ Below w.heap.size w w' := by
  obtain ⟨p, pY, pZ⟩ := text_both l hl
  obtain ⟨T, E, cY, cZ⟩ := print_both d hd64
  have c5 := fun w hT => vHeads w hT
  have hTT : (T.toList == T.toList) = true := beq_self_eq_true _
  generalize (⟨l.toArray⟩ : ByteArray) = S0 at *
  obtain ⟨⟨p1, p2, p3⟩, p4⟩ := p
  clear hd64 hl
  obtain ⟨d1, d2, d3⟩ := d
  unfold aV at *
  unfold dV at *
  dsimp only at *
  go_enter Tryd.func5, Tryd.ntmps5
  go_wp2_with fail
  have hd := At.new w d1 d2 d3
  have hbw := below_new w (dO d1 d2 d3)
  generalize w.alloc (dO d1 d2 d3) = W00 at *
  obtain ⟨d0, d1, d2⟩ := hd.cells
  go_wp2_with fail
  clear d0 d1 d2
  refine (cY _ (hT.below hbw).tp.ten).mono ?_
  rintro e w1 ⟨rfl, q1⟩
  have hb1 := hbw.trans (q1.mono hbw.size)
  replace hd := hd.below q1
  clear q1
  obtain ⟨d0, d1, d2⟩ := hd.cells
  go_wp2_with fail
  clear d0 d1 d2
  refine (cZ _).mono ?_
  rintro e w2 ⟨rfl, q2⟩
  have hb2 := hb1.trans (q2.mono hb1.size)
  replace hd := hd.below q2
  clear q2
  go_wp2_with fail
  refine (pY _ (hT.below hb2).tp (hU.below hb2)).mono ?_
  rintro e w3 ⟨rfl, q3⟩
  have hb3 := hb2.trans (q3.mono hb2.size)
  replace hd := hd.below q3
  clear q3
  have od_a := hd.lt
  have hb4 := hb3.trans ((below_new w3 (dO p1 p2 p3)).mono hb3.size)
  replace hd := hd.below (below_new w3 (dO p1 p2 p3))
  have ha := At.new w3 p1 p2 p3
  go_wp2_with fail
  generalize w3.alloc (dO p1 p2 p3) = w4 at *
  refine (pZ _).mono ?_
  rintro e w5 ⟨rfl, q5⟩
  have hb5 := hb4.trans (q5.mono hb4.size)
  replace hd := hd.below q5
  replace ha := ha.below q5
  clear q5
  have od_b := hd.lt
  have oa_b := ha.lt
  have hb6 := hb5.trans ((below_new w5 (dO p1 p2 p3)).mono hb5.size)
  replace hd := hd.below (below_new w5 (dO p1 p2 p3))
  replace ha := ha.below (below_new w5 (dO p1 p2 p3))
  have hb := At.new w5 p1 p2 p3
  obtain ⟨a0, a1, a2⟩ := ha.cells
  obtain ⟨b0, b1, b2⟩ := hb.cells
  go_wp2_with fail
  clear a0 a1 a2 b0 b1 b2
  generalize w5.alloc (dO p1 p2 p3) = w6 at *
  refine (c5 _ (hT.below hb6)).mono ?_
  rintro e w7 ⟨rfl, q7⟩
  have hb7 := hb6.trans (q7.mono hb6.size)
  replace hd := hd.below q7
  replace ha := ha.below q7
  replace hb := hb.below q7
  clear q7
  go_wp2_with fail
  go_ret
  exact ⟨rfl, hb7⟩
end Go.Proofs.YthpkmbgollollaaDoor.Dy
