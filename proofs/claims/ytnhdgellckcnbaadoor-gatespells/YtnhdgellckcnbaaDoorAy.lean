/- What must come at any rate (alive). -/
import Derived.Test.YtnhdgellckcnbaaDoorAw
namespace Go.Proofs.YtnhdgellckcnbaaDoor.Gt
open Go.RowKit Go.Proofs.YtnhdgellckcnbaaDoor.Oct Go.Proofs.YtnhdgellckcnbaaDoor.Dy

theorem al_of : ofP [115, 120] = (7, 0) := by decide +kernel
theorem al_cmp : cmpP 7 7 = (2, true) := by decide +kernel
theorem al_com1 : comP 2 [0] 11 [0, 1] = (false, 0) := by decide +kernel
theorem al_com2 : comP 2 [1] 11 [0, 1] = (true, 0) := by decide +kernel
theorem al_chk : chkP 11 [0, 0] 2 = 61 := by decide +kernel
theorem al_m1 : mbs 3 1 = (0, 13830554455654793216) := by decide +kernel
theorem al_m2 : mbs 3 2 = (0, 4607182418800017408) := by decide +kernel
theorem eql_c1 (w : World) : (binOp .eql 34 (.complex .f64 0 13830554455654793216) (.complex .f64 0 13830554455654793216)).run Tryd.prog w = .ok (.bool true) w := by kernel_rfl
theorem eql_c2 (w : World) : (binOp .eql 34 (.complex .f64 0 4607182418800017408) (.complex .f64 0 4607182418800017408)).run Tryd.prog w = .ok (.bool true) w := by kernel_rfl
theorem ns_one (w : World) (x : Int) : Ns (w.alloc (.cells #[.int .i64 x] 3)) (some ⟨w.heap.size, 0, none⟩) [x] := by
  refine .inr ⟨w.heap.size, 0, rfl, fun j z hj => ?_⟩
  rw [Nat.zero_add, cell_of_row _ _ _ _ _ _ (heap_alloc_new w _)]
  match j, hj with
  | 0, hj => simp at hj; subst hj; rfl
theorem ns_two (w : World) (x y : Int) : Ns (w.alloc (.cells #[.int .i64 x, .int .i64 y] 3)) (some ⟨w.heap.size, 0, none⟩) [x, y] := by
  refine .inr ⟨w.heap.size, 0, rfl, fun j z hj => ?_⟩
  rw [Nat.zero_add, cell_of_row _ _ _ _ _ _ (heap_alloc_new w _)]
  match j, hj with
  | 0, hj => simp at hj; subst hj; rfl
  | 1, hj => simp at hj; subst hj; rfl
set_option maxRecDepth 100000 in
set_option maxHeartbeats 4000000 in
theorem jAlive (w : World) (hT : Tb w) (hD : Td w) : Calls Tryd.prog 14 #[] w fun e w' => e = .returned (.bool true) ∧ Below w.heap.size w w' := by
  have c1 := fun w hT => gOf [115, 120] w hT
  rw [al_of] at c1
  have c2 := fun w hT hD => gMat 3 (by decide) (by decide) w hT hD
  rw [show rowsN 3 = 2 from rfl] at c2
  unfold MPost at c2
  have c3 := gMv_3_1
  have c4 := fun w hT hD => gCompose 7 7 w hT hD
  rw [al_cmp] at c4
  have c5 : ∀ (ao ao' : Option Addr) (w : World), Tb w → Td w → Ns w ao [0] → Ns w ao' [0, 1] → Calls Tryd.prog 17 #[.int .i64 2, .slice ao 1 1, .int .i64 11, .slice ao' 2 2] w fun e w' => e = .returned (.tuple #[.bool false, .int .i64 0]) ∧ Below w.heap.size w w' := fun ao ao' w hT hD h1 h2 => by
    have := gCommute 2 [0] 11 [0, 1] ao ao' 1 2 (by decide) (by decide) (by decide) (by decide) w hT hD h1 h2
    rw [al_com1] at this
    exact this
  have c6 : ∀ (ao ao' : Option Addr) (w : World), Tb w → Td w → Ns w ao [1] → Ns w ao' [0, 1] → Calls Tryd.prog 17 #[.int .i64 2, .slice ao 1 1, .int .i64 11, .slice ao' 2 2] w fun e w' => e = .returned (.tuple #[.bool true, .int .i64 0]) ∧ Below w.heap.size w w' := fun ao ao' w hT hD h1 h2 => by
    have := gCommute 2 [1] 11 [0, 1] ao ao' 1 2 (by decide) (by decide) (by decide) (by decide) w hT hD h1 h2
    rw [al_com2] at this
    exact this
  dsimp only at c1 c4
  go_enter Tryd.func14, Tryd.ntmps14
  go_wp2_with fail
  refine (c1 _ hT).mono ?_
  rintro e w1 ⟨rfl, q1⟩
  go_wp2_with fail
  refine (c2 _ (hT.below q1) (hD.below q1)).mono ?_
  rintro e w2 ⟨gm, rfl, hR, hgm, q2⟩
  replace q2 := q1.trans (q2.mono q1.size)
  have hm := heap_alloc_new w2 (.cells #[.int .i64 2, .slice (some ⟨gm, 0, none⟩) 4 4] 25)
  have q3 := q2.trans ((below_new w2 (.cells #[.int .i64 2, .slice (some ⟨gm, 0, none⟩) 4 4] 25)).mono q2.size)
  replace hR := hR.below (below_new w2 (.cells #[.int .i64 2, .slice (some ⟨gm, 0, none⟩) 4 4] 25))
  clear c1 c2 q1 q2
  go_wp2_with fail
  generalize w2.alloc (.cells #[.int .i64 2, .slice (some ⟨gm, 0, none⟩) 4 4] 25) = W3 at *
  refine (c3 _ (hT.below q3) (hD.below q3)).mono ?_
  rintro e w4 ⟨rfl, q4⟩
  replace hm := (q4.block _ (Array.getElem?_eq_some_iff.1 hm).1).trans hm
  replace hR := hR.below q4
  replace q4 := q3.trans (q4.mono q3.size)
  clear c3 q3
  go_wp2_with fail
  refine (c4 _ (hT.below q4) (hD.below q4)).mono ?_
  rintro e w5 ⟨rfl, q5⟩
  replace hm := (q5.block _ (Array.getElem?_eq_some_iff.1 hm).1).trans hm
  replace hR := hR.below q5
  replace q5 := q4.trans (q5.mono q4.size)
  clear c4 q4
  have n1 := (ns_one w5 0).below (below_new (w5.alloc (.cells #[.int .i64 0] 3)) (.cells #[.int .i64 0, .int .i64 1] 3))
  have n2 := ns_two (w5.alloc (.cells #[.int .i64 0] 3)) 0 1
  rw [size_alloc w5] at n2
  have b6 := below_two w5 (.cells #[.int .i64 0] 3) (.cells #[.int .i64 0, .int .i64 1] 3)
  replace hm := (b6.block _ (Array.getElem?_eq_some_iff.1 hm).1).trans hm
  replace hR := hR.below b6
  replace b6 := q5.trans (b6.mono q5.size)
  go_wp2_with fail
  generalize (w5.alloc (.cells #[.int .i64 0] 3)).alloc (.cells #[.int .i64 0, .int .i64 1] 3) = W6 at *
  refine (c5 _ _ _ (hT.below b6) (hD.below b6) n1 n2).mono ?_
  rintro e w7 ⟨rfl, q7⟩
  replace hm := (q7.block _ (Array.getElem?_eq_some_iff.1 hm).1).trans hm
  replace hR := hR.below q7
  replace q7 := b6.trans (q7.mono b6.size)
  clear c5 q5 b6 n1 n2
  have n1 := (ns_one w7 1).below (below_new (w7.alloc (.cells #[.int .i64 1] 3)) (.cells #[.int .i64 0, .int .i64 1] 3))
  have n2 := ns_two (w7.alloc (.cells #[.int .i64 1] 3)) 0 1
  rw [size_alloc w7] at n2
  have b8 := below_two w7 (.cells #[.int .i64 1] 3) (.cells #[.int .i64 0, .int .i64 1] 3)
  replace hm := (b8.block _ (Array.getElem?_eq_some_iff.1 hm).1).trans hm
  replace hR := hR.below b8
  replace b8 := q7.trans (b8.mono q7.size)
  go_wp2_with fail
  generalize (w7.alloc (.cells #[.int .i64 1] 3)).alloc (.cells #[.int .i64 0, .int .i64 1] 3) = W8 at *
  refine (c6 _ _ _ (hT.below b8) (hD.below b8) n1 n2).mono ?_
  rintro e w9 ⟨rfl, q9⟩
  replace hm := (q9.block _ (Array.getElem?_eq_some_iff.1 hm).1).trans hm
  replace hR := hR.below q9
  replace q9 := b8.trans (q9.mono b8.size)
  clear c6 q7 b8 n1 n2
  have cN := jNum
  have k0 := cell_of_row _ _ 0 _ _ _ hm
  have k1 := cell_of_row _ _ 1 _ _ _ hm
  simp only [List.getElem?_toArray, List.getElem?_cons_zero, List.getElem?_cons_succ] at k0 k1
  have e1 : w9.cell? ⟨gm, 1, none⟩ = some (.complex .f64 0 13830554455654793216) := by
    have := hR.cell 1 (by decide)
    rw [al_m1] at this
    exact this
  have e2 : w9.cell? ⟨gm, 2, none⟩ = some (.complex .f64 0 4607182418800017408) := by
    have := hR.cell 2 (by decide)
    rw [al_m2] at this
    exact this
  have d1 := eql_c1
  have d2 := eql_c2
  have i1 := fun w hT => gInverse 5 w hT
  have i2 := fun w hT => gArity 18 w hT
  have i3 := fun w hT => gControls 18 w hT
  have i4 := fun w hT => gHalving 17 w hT
  have i5 := fun w hT => gClifford 17 w hT
  have i6 := fun w hT => gDiagonal 13 w hT
  have i7 := fun w hT => gMonomial 13 w hT
  rw [show (rw' 5).v = 6 from by decide +kernel] at i1
  rw [show (rw' 18).q = 3 from by decide +kernel] at i2
  rw [show (rw' 18).c = 2 from by decide +kernel] at i3
  rw [show hvB (rw' 17) = true from by decide +kernel] at i4
  rw [show clB (rw' 17) = true from by decide +kernel] at i5
  rw [show dgB (rw' 13) = true from by decide +kernel] at i6
  rw [show mnB (rw' 13) = true from by decide +kernel] at i7
  clear hm hR
  go_wp2_with (go_at_call 10; refine (cN _ _).mono ?_; rintro e' w' ⟨rfl, hw⟩; obtain rfl := hw.symm)
  refine (i1 _ (hT.below q9)).mono ?_
  rintro e v1 ⟨rfl, p1⟩
  replace p1 := q9.trans (p1.mono q9.size)
  clear q9 i1 k0 k1 e1 e2
  go_wp2_with fail
  refine (i2 _ (hT.below p1)).mono ?_
  rintro e v2 ⟨rfl, p2⟩
  replace p2 := p1.trans (p2.mono p1.size)
  clear p1 i2
  go_wp2_with fail
  refine (i3 _ (hT.below p2)).mono ?_
  rintro e v3 ⟨rfl, p3⟩
  replace p3 := p2.trans (p3.mono p2.size)
  clear p2 i3
  go_wp2_with fail
  refine (i4 _ (hT.below p3)).mono ?_
  rintro e v4 ⟨rfl, p4⟩
  replace p4 := p3.trans (p4.mono p3.size)
  clear p3 i4
  go_wp2_with fail
  refine (i5 _ (hT.below p4)).mono ?_
  rintro e v5 ⟨rfl, p5⟩
  replace p5 := p4.trans (p5.mono p4.size)
  clear p4 i5
  go_wp2_with fail
  refine (i6 _ (hT.below p5)).mono ?_
  rintro e v6 ⟨rfl, p6⟩
  replace p6 := p5.trans (p6.mono p5.size)
  clear p5 i6
  go_wp2_with fail
  refine (i7 _ (hT.below p6)).mono ?_
  rintro e v7 ⟨rfl, p7⟩
  replace p7 := p6.trans (p7.mono p6.size)
  clear p6 i7
  go_wp2_with fail
  have n1 := ns_two v7 0 0
  have b9 := p7.trans ((below_new v7 (.cells #[.int .i64 0, .int .i64 0] 3)).mono p7.size)
  have cC := gCheck 11 (some ⟨v7.heap.size, 0, none⟩) 2 [0, 0] 2 (by decide) (by decide) _ (hT.below b9) n1
  rw [al_chk] at cC
  refine cC.mono ?_
  rintro e v8 ⟨rfl, p8⟩
  replace p8 := b9.trans (p8.mono b9.size)
  clear cC b9 n1 p7
  go_wp2_with (go_at_call 10; refine (cN _ _).mono ?_; rintro e' w' ⟨rfl, hw⟩; obtain rfl := hw.symm)
  go_ret
  exact ⟨rfl, p8⟩
end Go.Proofs.YtnhdgellckcnbaaDoor.Gt
