/- The set-up of layer 13's laws, as it is walked. -/
import Derived.Test.YteknpejkooemjabDoorT13
namespace Go.Proofs.YteknpejkooemjabDoor.Pau
open Go.RowKit Go.Shelf Go.Proofs.YteknpejkooemjabDoor.Oct Go.Proofs.YteknpejkooemjabDoor.Gt

/-- The tables lie where they should. -/
structure Tp (w : World) : Prop where
  tb : Tb w
  ts : Ts w
  ti : Ti w
  tz : Tz w
theorem Tp.below {w w' : World} (h : Tp w) (hb : Below w.heap.size w w') : Tp w' := ⟨h.tb.below hb, h.ts.below hb, h.ti.below hb, h.tz.below hb⟩
theorem parX : parR [43, 88] = (⟨1, 1, 0, 0⟩, 0) := by kernel_rfl
theorem parZ : parR [43, 90] = (⟨1, 0, 1, 0⟩, 0) := by kernel_rfl
theorem mulXZ : mulR ⟨1, 1, 0, 0⟩ ⟨1, 0, 1, 0⟩ = (⟨1, 1, 1, 3⟩, 0) := by kernel_rfl
theorem prtY : rt ⟨1, 1, 1, 3⟩ = true ∧ prt ⟨1, 1, 1, 3⟩ = [45, 105, 89] := ⟨by kernel_rfl, by kernel_rfl⟩
theorem thrS : thrR 5 [0] ⟨1, 1, 0, 0⟩ = (⟨1, 1, 1, 0⟩, 0) := by kernel_rfl
theorem comXZ : fitP ⟨1, 1, 0, 0⟩ ⟨1, 0, 1, 0⟩ = true ∧ comB ⟨1, 1, 0, 0⟩ ⟨1, 0, 1, 0⟩ = false := ⟨by kernel_rfl, by kernel_rfl⟩
theorem asksY : letP ⟨1, 1, 1, 0⟩ 0 = 89 ∧ rt ⟨1, 1, 1, 0⟩ = true ∧ pc (1 ||| 1) = 1 := ⟨by kernel_rfl, by kernel_rfl, by kernel_rfl⟩
theorem eq_one (W : World) : (binOp .eql 50 (.complex .f64 4607182418800017408 0) (.complex .f64 4607182418800017408 0)).run Tryd.prog W = .ok (.bool true) W := by kernel_rfl
set_option maxRecDepth 100000 in
set_option maxHeartbeats 4000000 in
theorem pHeads (w : World) (hT : Tp w) : Calls Tryd.prog 7 #[] w fun e w' => e = .returned (.bool true) ∧ Below w.heap.size w w' := by
  have c1 := fun W (h : Below w.heap.size w W) => pParse [43, 88] W (hT.ts.below h)
  have c2 := fun W (h : Below w.heap.size w W) => pParse [43, 90] W (hT.ts.below h)
  rw [parX] at c1
  rw [parZ] at c2
  have c3 := fun W => pMul ⟨1, 1, 0, 0⟩ ⟨1, 0, 1, 0⟩ ⟨by decide, by decide⟩ ⟨by decide, by decide⟩ W
  rw [mulXZ] at c3
  have c4 := fun W (h : Below w.heap.size w W) => pPrint_ok ⟨1, 1, 1, 3⟩ ⟨by decide, by decide⟩ prtY.1 W (hT.ts.below h)
  rw [prtY.2] at c4
  have c5 := fun gs W (h : Below w.heap.size w W) hS => pAct gs 2 W (hT.tz.below h) hS
  have c6 := fun gq W (h : Below w.heap.size w W) hN => pThrough ⟨1, 1, 0, 0⟩ ⟨by decide, by decide⟩ 5 [0] (by decide) (some ⟨gq, 0, none⟩) 1 (by decide) W (hT.tb.below h) (hT.ts.below h) (hT.ti.below h) hN
  rw [thrS] at c6
  have c7 := fun W => pCommute ⟨1, 1, 0, 0⟩ ⟨1, 0, 1, 0⟩ ⟨by decide, by decide⟩ ⟨by decide, by decide⟩ W
  rw [comXZ.1, comXZ.2] at c7
  have c8 := fun W => pLetter ⟨1, 1, 1, 0⟩ ⟨by decide, by decide⟩ 0 W
  rw [asksY.1] at c8
  have c9 := fun W => pWeight ⟨1, 1, 1, 0⟩ ⟨by decide, by decide⟩ W
  rw [asksY.2.1] at c9
  simp only [asksY.2.2, if_true] at c9
  have c10 := fun W => pHerm ⟨1, 1, 1, 0⟩ ⟨by decide, by decide⟩ W
  rw [asksY.2.1] at c10
  unfold mY at c5
  unfold str at c1 c2
  unfold pV at *
  simp only [Int.natCast_zero, Int.natCast_one, if_true, Bool.and_false, List.length_cons, List.length_nil, Bool.true_and] at c1 c2 c3 c4 c5 c6 c7 c8 c9 c10
  simp only [true_or, decide_true] at c10
  rw [show ([43, 88] : List UInt8).toArray = #[43, 88] from rfl] at c1
  rw [show ([43, 90] : List UInt8).toArray = #[43, 90] from rfl] at c2
  rw [show ([45, 105, 89] : List UInt8).toArray = #[45, 105, 89] from rfl] at c4
  have he := eq_one
  clear hT
  go_enter Tryd.func7, Tryd.ntmps7
  go_wp2_with fail
  refine (c1 _ (Below.refl _ _)).mono ?_
  rintro e w1 ⟨rfl, hb1⟩
  have hn1 := bnew w1 (.cells #[.int .i64 1, .int .u64 1, .int .u64 0, .int .i64 0] 24)
  have HB1 := hide (bkp hb1 hn1)
  have X1 := hide (At4.new w1 (.int .i64 1) (.int .u64 1) (.int .u64 0) (.int .i64 0))
  clear hb1 c1
  go_wp2_with fail
  refine (c2 _ HB1.out).mono ?_
  rintro e w2 ⟨rfl, hb2⟩
  have hn2 := bnew w2 (.cells #[.int .i64 1, .int .u64 0, .int .u64 1, .int .i64 0] 24)
  have HB2 := hide (bkp (bkp HB1.out hb2) hn2)
  have X2 := hide ((X1.out.below hb2).below hn2)
  have Z2 := hide (At4.new w2 (.int .i64 1) (.int .u64 0) (.int .u64 1) (.int .i64 0))
  clear hb2 c2 X1 HB1 hn1 hn2
  obtain ⟨x0, x1, x2, x3, x4⟩ := X2.out.cells
  obtain ⟨z0, z1, z2, z3, z4⟩ := Z2.out.cells
  generalize w1.heap.size = gx at *
  go_wp2_with fail
  refine (c3 _).mono ?_
  rintro e w3 ⟨rfl, hb3⟩
  have hn3 := bnew w3 (.cells #[.int .i64 1, .int .u64 1, .int .u64 1, .int .i64 3] 24)
  have HB3 := hide (bkp (bkp HB2.out hb3) hn3)
  have X3 := hide ((X2.out.below hb3).below hn3)
  have Z3 := hide ((Z2.out.below hb3).below hn3)
  have M3 := hide (At4.new w3 (.int .i64 1) (.int .u64 1) (.int .u64 1) (.int .i64 3))
  clear hb3 c3 X2 Z2 HB2 hn3 x0 x1 x2 x3 x4 z0 z1 z2 z3 z4
  obtain ⟨m0, m1, m2, m3, m4⟩ := M3.out.cells
  generalize w2.heap.size = gz at *
  go_wp2_with fail
  refine (c4 _ HB3.out).mono ?_
  rintro e w4 ⟨rfl, hb4⟩
  have hn4 := bnew w4 (.cells #[.complex .f64 4607182418800017408 0, .complex .f64 0 0] 50)
  have HB4 := hide (bkp (bkp HB3.out hb4) hn4)
  have X4 := hide ((X3.out.below hb4).below hn4)
  have Z4 := hide ((Z3.out.below hb4).below hn4)
  have S4 : Hid (Am (w4.alloc (.cells #[.complex .f64 4607182418800017408 0, .complex .f64 0 0] 50)) w4.heap.size 4607182418800017408 0 0 0) := hide (heap_alloc_new _ _)
  have hM4 := (M3.out.below hb4).cells
  clear hb4 c4 X3 Z3 M3 HB3 hn4 m0 m1 m2 m3 m4
  obtain ⟨m0, m1, m2, m3, m4⟩ := hM4
  generalize w3.heap.size = gm at *
  go_wp2_with fail
  refine (c5 _ _ HB4.out S4.out).mono ?_
  rintro e w5 ⟨gv, rfl, hv5, hb5⟩
  have hn5 := bnew w5 (.cells #[.int .i64 0] 3)
  have HB5 := hide (bkp (bkp HB4.out hb5) hn5)
  have X5 := hide ((X4.out.below hb5).below hn5)
  have Z5 := hide ((Z4.out.below hb5).below hn5)
  have V5 := hide (hv5.below hn5)
  have N5 : Hid (Ns (w5.alloc (.cells #[.int .i64 0] 3)) (some ⟨w5.heap.size, 0, none⟩) [0]) := hide (.inr ⟨w5.heap.size, 0, rfl, fun j z hj => by
    match j, hj with
    | 0, hj =>
      simp at hj
      subst hj
      exact cell_of_row _ _ 0 _ _ _ (heap_alloc_new _ _)⟩)
  have hX5 := (X4.out.below hb5).cells
  clear hb5 hv5 c5 X4 Z4 HB4 hn5 m0 m1 m2 m3 m4 S4
  obtain ⟨x0, x1, x2, x3, x4⟩ := hX5
  go_wp2_with fail
  refine (c6 _ _ HB5.out N5.out).mono ?_
  rintro e w6 ⟨rfl, hb6⟩
  have hn6 := bnew w6 (.cells #[.int .i64 1, .int .u64 1, .int .u64 1, .int .i64 0] 24)
  have HB6 := hide (bkp (bkp HB5.out hb6) hn6)
  have X6 := hide ((X5.out.below hb6).below hn6)
  have Z6 := hide ((Z5.out.below hb6).below hn6)
  have V6 := hide ((V5.out.below hb6).below hn6)
  have T6 := hide (At4.new w6 (.int .i64 1) (.int .u64 1) (.int .u64 1) (.int .i64 0))
  clear hb6 c6 X5 Z5 V5 HB5 hn6 x0 x1 x2 x3 x4 N5
  obtain ⟨x0, x1, x2, x3, x4⟩ := X6.out.cells
  obtain ⟨z0, z1, z2, z3, z4⟩ := Z6.out.cells
  go_wp2_with fail
  generalize w6.heap.size = gt at *
  refine (c7 _).mono ?_
  rintro e w7 ⟨rfl, hb7⟩
  have HB7 := hide (bkp HB6.out hb7)
  have V7 := hide (V6.out.below hb7)
  have T7 := hide (T6.out.below hb7)
  clear hb7 c7 X6 Z6 V6 T6 HB6 x0 x1 x2 x3 x4 z0 z1 z2 z3 z4
  obtain ⟨a0, a1, a2, -, -⟩ := V7.out.cells
  obtain ⟨t0, t1, t2, t3, t4⟩ := T7.out.cells
  go_wp2_with fail
  refine (c8 _).mono ?_
  rintro e w8 ⟨rfl, hb8⟩
  have HB8 := hide (bkp HB7.out hb8)
  have T8 := hide (T7.out.below hb8)
  clear hb8 c8 V7 T7 HB7 a0 a1 a2 t0 t1 t2 t3 t4
  obtain ⟨t0, t1, t2, t3, t4⟩ := T8.out.cells
  go_wp2_with fail
  refine (c9 _).mono ?_
  rintro e w9 ⟨rfl, hb9⟩
  have HB9 := hide (bkp HB8.out hb9)
  have T9 := hide (T8.out.below hb9)
  clear hb9 c9 T8 HB8 t0 t1 t2 t3 t4
  obtain ⟨t0, t1, t2, t3, t4⟩ := T9.out.cells
  go_wp2_with fail
  refine (c10 _).mono ?_
  rintro e w10 ⟨rfl, hb10⟩
  have HB10 := hide (bkp HB9.out hb10)
  clear hb10 c10 T9 HB9 t0 t1 t2 t3 t4
  go_wp2_with fail
  go_ret
  exact ⟨rfl, HB10.out⟩
end Go.Proofs.YteknpejkooemjabDoor.Pau
