/- DyadReckons, as it is walked. -/
import Derived.Test.YthpkmbgollollaaDoorJa
import Derived.Test.YthpkmbgollollaaDoorEf
import Derived.Test.YthpkmbgollollaaDoorDi
namespace Go.Proofs.YthpkmbgollollaaDoor.Dy
open Go.RowKit Go.Lib Go.Shelf Go.Proofs.YthpkmbgollollaaDoor.Sca

set_option maxRecDepth 100000 in
set_option maxHeartbeats 4000000 in
theorem vReckons (a b : DD) (k : Int) (had : d64 a) (hbd : d64 b) (w : World) (hT : Tv w) : Calls Tryd.prog 4 #[dV a, dV b, .int .i64 k] w fun e w' => e = .returned (.bool true) ∧ Below w.heap.size w w' := by
  have cAdd := fun w hT => yAdd a b had hbd w hT
  have zAdd' := fun w => zAdd a b w
  have cSub := fun w hT => ySub a b had hbd w hT
  have zSub' := fun w => zSub a b w
  have cMul := fun w hT => yMul a b had hbd w hT
  have zMul' := fun w => zMul a b w
  have cTurn := fun w => yTurn a had k w
  have zTurn' := fun w => zTurn a k w
  have cConj := fun w => yConj a had w
  have zConj' := fun w => zConj a w
  have cSq := fun w hT => ySquare a had w hT
  have zSq' := fun w => zSquare a w
  have c5 := fun w hT => vHeads w hT
  generalize addR a b = p at *
  generalize subR a b = r at *
  generalize mulR a b = t at *
  generalize turnR a k = p' at *
  generalize conjR a = r' at *
  generalize squareR a = t' at *
  obtain ⟨⟨p1, p2, p3⟩, p4⟩ := p
  obtain ⟨⟨r1, r2, r3⟩, r4⟩ := r
  obtain ⟨⟨t1, t2, t3⟩, t4⟩ := t
  obtain ⟨⟨x1, x2, x3⟩, x4⟩ := p'
  obtain ⟨⟨y1, y2, y3⟩, y4⟩ := r'
  obtain ⟨⟨z1, z2, z3⟩, z4⟩ := t'
  clear had hbd
  obtain ⟨a1, a2, a3⟩ := a
  obtain ⟨b1, b2, b3⟩ := b
  unfold aV dV at *
  dsimp only at *
  go_enter Tryd.func4, Tryd.ntmps4
  go_wp2_with fail
  obtain ⟨ha, hb, hbw⟩ := two_new w a1 a2 a3 b1 b2 b3
  have oa_b : w.heap.size < w.heap.size + 1 := by omega
  generalize ((w.alloc (dO a1 a2 a3)).alloc (dO b1 b2 b3)) = W00 at *
  refine (cAdd _ (hT.below hbw).tz).mono ?_
  rintro e w1 ⟨rfl, q1⟩
  have hb1 := hbw.trans (q1.mono hbw.size)
  replace ha := ha.below q1
  replace hb := hb.below q1
  clear q1
  have oa_p := ha.lt
  have ob_p := hb.lt
  have hb2 := hb1.trans ((below_new w1 (dO p1 p2 p3)).mono hb1.size)
  replace ha := ha.below (below_new w1 (dO p1 p2 p3))
  replace hb := hb.below (below_new w1 (dO p1 p2 p3))
  have hp := At.new w1 p1 p2 p3
  obtain ⟨a0, a1, a2⟩ := ha.cells
  obtain ⟨b0, b1, b2⟩ := hb.cells
  go_wp2_with fail
  clear a0 a1 a2 b0 b1 b2
  generalize w1.alloc (dO p1 p2 p3) = w2 at *
  refine (zAdd' _).mono ?_
  rintro e w3 ⟨rfl, q3⟩
  have hb3 := hb2.trans (q3.mono hb2.size)
  replace ha := ha.below q3
  replace hb := hb.below q3
  replace hp := hp.below q3
  clear q3
  have oa_q := ha.lt
  have ob_q := hb.lt
  have op_q := hp.lt
  have hb4 := hb3.trans ((below_new w3 (dO p1 p2 p3)).mono hb3.size)
  replace ha := ha.below (below_new w3 (dO p1 p2 p3))
  replace hb := hb.below (below_new w3 (dO p1 p2 p3))
  replace hp := hp.below (below_new w3 (dO p1 p2 p3))
  have hq := At.new w3 p1 p2 p3
  obtain ⟨a0, a1, a2⟩ := ha.cells
  obtain ⟨b0, b1, b2⟩ := hb.cells
  go_wp2_with fail
  clear a0 a1 a2 b0 b1 b2
  generalize w3.alloc (dO p1 p2 p3) = w4 at *
  refine (cSub _ (hT.below hb4).tz).mono ?_
  rintro e w5 ⟨rfl, q5⟩
  have hb5 := hb4.trans (q5.mono hb4.size)
  replace ha := ha.below q5
  replace hb := hb.below q5
  replace hp := hp.below q5
  replace hq := hq.below q5
  clear q5
  have oa_r := ha.lt
  have ob_r := hb.lt
  have op_r := hp.lt
  have oq_r := hq.lt
  have hb6 := hb5.trans ((below_new w5 (dO r1 r2 r3)).mono hb5.size)
  replace ha := ha.below (below_new w5 (dO r1 r2 r3))
  replace hb := hb.below (below_new w5 (dO r1 r2 r3))
  replace hp := hp.below (below_new w5 (dO r1 r2 r3))
  replace hq := hq.below (below_new w5 (dO r1 r2 r3))
  have hr := At.new w5 r1 r2 r3
  obtain ⟨a0, a1, a2⟩ := ha.cells
  obtain ⟨b0, b1, b2⟩ := hb.cells
  go_wp2_with fail
  clear a0 a1 a2 b0 b1 b2
  generalize w5.alloc (dO r1 r2 r3) = w6 at *
  refine (zSub' _).mono ?_
  rintro e w7 ⟨rfl, q7⟩
  have hb7 := hb6.trans (q7.mono hb6.size)
  replace ha := ha.below q7
  replace hb := hb.below q7
  replace hp := hp.below q7
  replace hq := hq.below q7
  replace hr := hr.below q7
  clear q7
  have oa_s := ha.lt
  have ob_s := hb.lt
  have op_s := hp.lt
  have oq_s := hq.lt
  have or_s := hr.lt
  have hb8 := hb7.trans ((below_new w7 (dO r1 r2 r3)).mono hb7.size)
  replace ha := ha.below (below_new w7 (dO r1 r2 r3))
  replace hb := hb.below (below_new w7 (dO r1 r2 r3))
  replace hp := hp.below (below_new w7 (dO r1 r2 r3))
  replace hq := hq.below (below_new w7 (dO r1 r2 r3))
  replace hr := hr.below (below_new w7 (dO r1 r2 r3))
  have hs := At.new w7 r1 r2 r3
  obtain ⟨a0, a1, a2⟩ := ha.cells
  obtain ⟨b0, b1, b2⟩ := hb.cells
  go_wp2_with fail
  clear a0 a1 a2 b0 b1 b2
  generalize w7.alloc (dO r1 r2 r3) = w8 at *
  refine (cMul _ (hT.below hb8).tz).mono ?_
  rintro e w9 ⟨rfl, q9⟩
  have hb9 := hb8.trans (q9.mono hb8.size)
  replace ha := ha.below q9
  replace hb := hb.below q9
  replace hp := hp.below q9
  replace hq := hq.below q9
  replace hr := hr.below q9
  replace hs := hs.below q9
  clear q9
  have oa_t := ha.lt
  have ob_t := hb.lt
  have op_t := hp.lt
  have oq_t := hq.lt
  have or_t := hr.lt
  have os_t := hs.lt
  have hb10 := hb9.trans ((below_new w9 (dO t1 t2 t3)).mono hb9.size)
  replace ha := ha.below (below_new w9 (dO t1 t2 t3))
  replace hb := hb.below (below_new w9 (dO t1 t2 t3))
  replace hp := hp.below (below_new w9 (dO t1 t2 t3))
  replace hq := hq.below (below_new w9 (dO t1 t2 t3))
  replace hr := hr.below (below_new w9 (dO t1 t2 t3))
  replace hs := hs.below (below_new w9 (dO t1 t2 t3))
  have ht := At.new w9 t1 t2 t3
  obtain ⟨a0, a1, a2⟩ := ha.cells
  obtain ⟨b0, b1, b2⟩ := hb.cells
  go_wp2_with fail
  clear a0 a1 a2 b0 b1 b2
  generalize w9.alloc (dO t1 t2 t3) = w10 at *
  refine (zMul' _).mono ?_
  rintro e w11 ⟨rfl, q11⟩
  have hb11 := hb10.trans (q11.mono hb10.size)
  replace ha := ha.below q11
  replace hb := hb.below q11
  replace hp := hp.below q11
  replace hq := hq.below q11
  replace hr := hr.below q11
  replace hs := hs.below q11
  replace ht := ht.below q11
  clear q11
  have oa_u := ha.lt
  have ob_u := hb.lt
  have op_u := hp.lt
  have oq_u := hq.lt
  have or_u := hr.lt
  have os_u := hs.lt
  have ot_u := ht.lt
  have hb12 := hb11.trans ((below_new w11 (dO t1 t2 t3)).mono hb11.size)
  replace ha := ha.below (below_new w11 (dO t1 t2 t3))
  replace hb := hb.below (below_new w11 (dO t1 t2 t3))
  replace hp := hp.below (below_new w11 (dO t1 t2 t3))
  replace hq := hq.below (below_new w11 (dO t1 t2 t3))
  replace hr := hr.below (below_new w11 (dO t1 t2 t3))
  replace hs := hs.below (below_new w11 (dO t1 t2 t3))
  replace ht := ht.below (below_new w11 (dO t1 t2 t3))
  have hu := At.new w11 t1 t2 t3
  obtain ⟨a0, a1, a2⟩ := ha.cells
  obtain ⟨b0, b1, b2⟩ := hb.cells
  obtain ⟨p0, p1, p2⟩ := hp.cells
  obtain ⟨q0, q1, q2⟩ := hq.cells
  obtain ⟨r0, r1, r2⟩ := hr.cells
  obtain ⟨s0, s1, s2⟩ := hs.cells
  obtain ⟨t0, t1, t2⟩ := ht.cells
  obtain ⟨u0, u1, u2⟩ := hu.cells
  go_wp2_with fail
  clear a0 a1 a2 b0 b1 b2 p0 p1 p2 q0 q1 q2 r0 r1 r2 s0 s1 s2 t0 t1 t2 u0 u1 u2
  generalize w11.alloc (dO t1 t2 t3) = w12 at *
  refine (cTurn _).mono ?_
  rintro e w13 ⟨rfl, q13⟩
  have hb13 := hb12.trans (q13.mono hb12.size)
  replace ha := ha.below q13
  replace hb := hb.below q13
  replace hp := hp.below q13
  replace hq := hq.below q13
  replace hr := hr.below q13
  replace hs := hs.below q13
  replace ht := ht.below q13
  replace hu := hu.below q13
  clear q13
  have hnew : At (w13.setRow w1.heap.size #[.int .i64 x1, .int .i64 x2, .int .i64 x3]) w1.heap.size x1 x2 x3 := setRow_heap _ _ _ _ _ _ hp
  have ka := ha.farRow w1.heap.size #[.int .i64 x1, .int .i64 x2, .int .i64 x3] (by omega)
  have kb := hb.farRow w1.heap.size #[.int .i64 x1, .int .i64 x2, .int .i64 x3] (by omega)
  have kq := hq.farRow w1.heap.size #[.int .i64 x1, .int .i64 x2, .int .i64 x3] (by omega)
  have kr := hr.farRow w1.heap.size #[.int .i64 x1, .int .i64 x2, .int .i64 x3] (by omega)
  have ks := hs.farRow w1.heap.size #[.int .i64 x1, .int .i64 x2, .int .i64 x3] (by omega)
  have kt := ht.farRow w1.heap.size #[.int .i64 x1, .int .i64 x2, .int .i64 x3] (by omega)
  have ku := hu.farRow w1.heap.size #[.int .i64 x1, .int .i64 x2, .int .i64 x3] (by omega)
  have hb14 : Below w.heap.size w (w13.setRow w1.heap.size #[.int .i64 x1, .int .i64 x2, .int .i64 x3]) := below_setRow hb13 (by omega) _
  obtain ⟨a0, a1, a2⟩ := ka.cells
  go_wp2_with (refine wpList_store_row rfl _ _ _ rfl (w1.heap.size) _ rfl rfl _ _ hp (by exact infoD) (by rfl) (allD _ _ _) ?_)
  clear a0 a1 a2
  clear hp ha hb hq hr hs ht hu
  generalize w13.setRow (w1.heap.size) #[.int .i64 x1, .int .i64 x2, .int .i64 x3] = w14 at *
  have hp := hnew
  clear hnew
  have ha := ka
  clear ka
  have hb := kb
  clear kb
  have hq := kq
  clear kq
  have hr := kr
  clear kr
  have hs := ks
  clear ks
  have ht := kt
  clear kt
  have hu := ku
  clear ku
  refine (zTurn' _).mono ?_
  rintro e w15 ⟨rfl, q15⟩
  have hb15 := hb14.trans (q15.mono hb14.size)
  replace ha := ha.below q15
  replace hb := hb.below q15
  replace hp := hp.below q15
  replace hq := hq.below q15
  replace hr := hr.below q15
  replace hs := hs.below q15
  replace ht := ht.below q15
  replace hu := hu.below q15
  clear q15
  have hnew : At (w15.setRow w3.heap.size #[.int .i64 x1, .int .i64 x2, .int .i64 x3]) w3.heap.size x1 x2 x3 := setRow_heap _ _ _ _ _ _ hq
  have ka := ha.farRow w3.heap.size #[.int .i64 x1, .int .i64 x2, .int .i64 x3] (by omega)
  have kb := hb.farRow w3.heap.size #[.int .i64 x1, .int .i64 x2, .int .i64 x3] (by omega)
  have kp := hp.farRow w3.heap.size #[.int .i64 x1, .int .i64 x2, .int .i64 x3] (by omega)
  have kr := hr.farRow w3.heap.size #[.int .i64 x1, .int .i64 x2, .int .i64 x3] (by omega)
  have ks := hs.farRow w3.heap.size #[.int .i64 x1, .int .i64 x2, .int .i64 x3] (by omega)
  have kt := ht.farRow w3.heap.size #[.int .i64 x1, .int .i64 x2, .int .i64 x3] (by omega)
  have ku := hu.farRow w3.heap.size #[.int .i64 x1, .int .i64 x2, .int .i64 x3] (by omega)
  have hb16 : Below w.heap.size w (w15.setRow w3.heap.size #[.int .i64 x1, .int .i64 x2, .int .i64 x3]) := below_setRow hb15 (by omega) _
  obtain ⟨a0, a1, a2⟩ := ka.cells
  go_wp2_with (refine wpList_store_row rfl _ _ _ rfl (w3.heap.size) _ rfl rfl _ _ hq (by exact infoD) (by rfl) (allD _ _ _) ?_)
  clear a0 a1 a2
  clear hq ha hb hp hr hs ht hu
  generalize w15.setRow (w3.heap.size) #[.int .i64 x1, .int .i64 x2, .int .i64 x3] = w16 at *
  have hq := hnew
  clear hnew
  have ha := ka
  clear ka
  have hb := kb
  clear kb
  have hp := kp
  clear kp
  have hr := kr
  clear kr
  have hs := ks
  clear ks
  have ht := kt
  clear kt
  have hu := ku
  clear ku
  refine (cConj _).mono ?_
  rintro e w17 ⟨rfl, q17⟩
  have hb17 := hb16.trans (q17.mono hb16.size)
  replace ha := ha.below q17
  replace hb := hb.below q17
  replace hp := hp.below q17
  replace hq := hq.below q17
  replace hr := hr.below q17
  replace hs := hs.below q17
  replace ht := ht.below q17
  replace hu := hu.below q17
  clear q17
  have hnew : At (w17.setRow w5.heap.size #[.int .i64 y1, .int .i64 y2, .int .i64 y3]) w5.heap.size y1 y2 y3 := setRow_heap _ _ _ _ _ _ hr
  have ka := ha.farRow w5.heap.size #[.int .i64 y1, .int .i64 y2, .int .i64 y3] (by omega)
  have kb := hb.farRow w5.heap.size #[.int .i64 y1, .int .i64 y2, .int .i64 y3] (by omega)
  have kp := hp.farRow w5.heap.size #[.int .i64 y1, .int .i64 y2, .int .i64 y3] (by omega)
  have kq := hq.farRow w5.heap.size #[.int .i64 y1, .int .i64 y2, .int .i64 y3] (by omega)
  have ks := hs.farRow w5.heap.size #[.int .i64 y1, .int .i64 y2, .int .i64 y3] (by omega)
  have kt := ht.farRow w5.heap.size #[.int .i64 y1, .int .i64 y2, .int .i64 y3] (by omega)
  have ku := hu.farRow w5.heap.size #[.int .i64 y1, .int .i64 y2, .int .i64 y3] (by omega)
  have hb18 : Below w.heap.size w (w17.setRow w5.heap.size #[.int .i64 y1, .int .i64 y2, .int .i64 y3]) := below_setRow hb17 (by omega) _
  obtain ⟨a0, a1, a2⟩ := ka.cells
  go_wp2_with (refine wpList_store_row rfl _ _ _ rfl (w5.heap.size) _ rfl rfl _ _ hr (by exact infoD) (by rfl) (allD _ _ _) ?_)
  clear a0 a1 a2
  clear hr ha hb hp hq hs ht hu
  generalize w17.setRow (w5.heap.size) #[.int .i64 y1, .int .i64 y2, .int .i64 y3] = w18 at *
  have hr := hnew
  clear hnew
  have ha := ka
  clear ka
  have hb := kb
  clear kb
  have hp := kp
  clear kp
  have hq := kq
  clear kq
  have hs := ks
  clear ks
  have ht := kt
  clear kt
  have hu := ku
  clear ku
  refine (zConj' _).mono ?_
  rintro e w19 ⟨rfl, q19⟩
  have hb19 := hb18.trans (q19.mono hb18.size)
  replace ha := ha.below q19
  replace hb := hb.below q19
  replace hp := hp.below q19
  replace hq := hq.below q19
  replace hr := hr.below q19
  replace hs := hs.below q19
  replace ht := ht.below q19
  replace hu := hu.below q19
  clear q19
  have hnew : At (w19.setRow w7.heap.size #[.int .i64 y1, .int .i64 y2, .int .i64 y3]) w7.heap.size y1 y2 y3 := setRow_heap _ _ _ _ _ _ hs
  have ka := ha.farRow w7.heap.size #[.int .i64 y1, .int .i64 y2, .int .i64 y3] (by omega)
  have kb := hb.farRow w7.heap.size #[.int .i64 y1, .int .i64 y2, .int .i64 y3] (by omega)
  have kp := hp.farRow w7.heap.size #[.int .i64 y1, .int .i64 y2, .int .i64 y3] (by omega)
  have kq := hq.farRow w7.heap.size #[.int .i64 y1, .int .i64 y2, .int .i64 y3] (by omega)
  have kr := hr.farRow w7.heap.size #[.int .i64 y1, .int .i64 y2, .int .i64 y3] (by omega)
  have kt := ht.farRow w7.heap.size #[.int .i64 y1, .int .i64 y2, .int .i64 y3] (by omega)
  have ku := hu.farRow w7.heap.size #[.int .i64 y1, .int .i64 y2, .int .i64 y3] (by omega)
  have hb20 : Below w.heap.size w (w19.setRow w7.heap.size #[.int .i64 y1, .int .i64 y2, .int .i64 y3]) := below_setRow hb19 (by omega) _
  obtain ⟨a0, a1, a2⟩ := ka.cells
  go_wp2_with (refine wpList_store_row rfl _ _ _ rfl (w7.heap.size) _ rfl rfl _ _ hs (by exact infoD) (by rfl) (allD _ _ _) ?_)
  clear a0 a1 a2
  clear hs ha hb hp hq hr ht hu
  generalize w19.setRow (w7.heap.size) #[.int .i64 y1, .int .i64 y2, .int .i64 y3] = w20 at *
  have hs := hnew
  clear hnew
  have ha := ka
  clear ka
  have hb := kb
  clear kb
  have hp := kp
  clear kp
  have hq := kq
  clear kq
  have hr := kr
  clear kr
  have ht := kt
  clear kt
  have hu := ku
  clear ku
  refine (cSq _ (hT.below hb20).tz).mono ?_
  rintro e w21 ⟨rfl, q21⟩
  have hb21 := hb20.trans (q21.mono hb20.size)
  replace ha := ha.below q21
  replace hb := hb.below q21
  replace hp := hp.below q21
  replace hq := hq.below q21
  replace hr := hr.below q21
  replace hs := hs.below q21
  replace ht := ht.below q21
  replace hu := hu.below q21
  clear q21
  have hnew : At (w21.setRow w9.heap.size #[.int .i64 z1, .int .i64 z2, .int .i64 z3]) w9.heap.size z1 z2 z3 := setRow_heap _ _ _ _ _ _ ht
  have ka := ha.farRow w9.heap.size #[.int .i64 z1, .int .i64 z2, .int .i64 z3] (by omega)
  have kb := hb.farRow w9.heap.size #[.int .i64 z1, .int .i64 z2, .int .i64 z3] (by omega)
  have kp := hp.farRow w9.heap.size #[.int .i64 z1, .int .i64 z2, .int .i64 z3] (by omega)
  have kq := hq.farRow w9.heap.size #[.int .i64 z1, .int .i64 z2, .int .i64 z3] (by omega)
  have kr := hr.farRow w9.heap.size #[.int .i64 z1, .int .i64 z2, .int .i64 z3] (by omega)
  have ks := hs.farRow w9.heap.size #[.int .i64 z1, .int .i64 z2, .int .i64 z3] (by omega)
  have ku := hu.farRow w9.heap.size #[.int .i64 z1, .int .i64 z2, .int .i64 z3] (by omega)
  have hb22 : Below w.heap.size w (w21.setRow w9.heap.size #[.int .i64 z1, .int .i64 z2, .int .i64 z3]) := below_setRow hb21 (by omega) _
  obtain ⟨a0, a1, a2⟩ := ka.cells
  go_wp2_with (refine wpList_store_row rfl _ _ _ rfl (w9.heap.size) _ rfl rfl _ _ ht (by exact infoD) (by rfl) (allD _ _ _) ?_)
  clear a0 a1 a2
  clear ht ha hb hp hq hr hs hu
  generalize w21.setRow (w9.heap.size) #[.int .i64 z1, .int .i64 z2, .int .i64 z3] = w22 at *
  have ht := hnew
  clear hnew
  have ha := ka
  clear ka
  have hb := kb
  clear kb
  have hp := kp
  clear kp
  have hq := kq
  clear kq
  have hr := kr
  clear kr
  have hs := ks
  clear ks
  have hu := ku
  clear ku
  refine (zSq' _).mono ?_
  rintro e w23 ⟨rfl, q23⟩
  have hb23 := hb22.trans (q23.mono hb22.size)
  replace ha := ha.below q23
  replace hb := hb.below q23
  replace hp := hp.below q23
  replace hq := hq.below q23
  replace hr := hr.below q23
  replace hs := hs.below q23
  replace ht := ht.below q23
  replace hu := hu.below q23
  clear q23
  have hnew : At (w23.setRow w11.heap.size #[.int .i64 z1, .int .i64 z2, .int .i64 z3]) w11.heap.size z1 z2 z3 := setRow_heap _ _ _ _ _ _ hu
  have ka := ha.farRow w11.heap.size #[.int .i64 z1, .int .i64 z2, .int .i64 z3] (by omega)
  have kb := hb.farRow w11.heap.size #[.int .i64 z1, .int .i64 z2, .int .i64 z3] (by omega)
  have kp := hp.farRow w11.heap.size #[.int .i64 z1, .int .i64 z2, .int .i64 z3] (by omega)
  have kq := hq.farRow w11.heap.size #[.int .i64 z1, .int .i64 z2, .int .i64 z3] (by omega)
  have kr := hr.farRow w11.heap.size #[.int .i64 z1, .int .i64 z2, .int .i64 z3] (by omega)
  have ks := hs.farRow w11.heap.size #[.int .i64 z1, .int .i64 z2, .int .i64 z3] (by omega)
  have kt := ht.farRow w11.heap.size #[.int .i64 z1, .int .i64 z2, .int .i64 z3] (by omega)
  have hb24 : Below w.heap.size w (w23.setRow w11.heap.size #[.int .i64 z1, .int .i64 z2, .int .i64 z3]) := below_setRow hb23 (by omega) _
  obtain ⟨a0, a1, a2⟩ := ka.cells
  obtain ⟨p0, p1, p2⟩ := kp.cells
  obtain ⟨q0, q1, q2⟩ := kq.cells
  obtain ⟨r0, r1, r2⟩ := kr.cells
  obtain ⟨s0, s1, s2⟩ := ks.cells
  obtain ⟨t0, t1, t2⟩ := kt.cells
  obtain ⟨u0, u1, u2⟩ := hnew.cells
  go_wp2_with (refine wpList_store_row rfl _ _ _ rfl (w11.heap.size) _ rfl rfl _ _ hu (by exact infoD) (by rfl) (allD _ _ _) ?_)
  clear a0 a1 a2 p0 p1 p2 q0 q1 q2 r0 r1 r2 s0 s1 s2 t0 t1 t2 u0 u1 u2
  clear hu ha hb hp hq hr hs ht
  generalize w23.setRow (w11.heap.size) #[.int .i64 z1, .int .i64 z2, .int .i64 z3] = w24 at *
  have hu := hnew
  clear hnew
  have ha := ka
  clear ka
  have hb := kb
  clear kb
  have hp := kp
  clear kp
  have hq := kq
  clear kq
  have hr := kr
  clear kr
  have hs := ks
  clear ks
  have ht := kt
  clear kt
  refine (c5 _ (hT.below hb24)).mono ?_
  rintro e w25 ⟨rfl, q25⟩
  have hb25 := hb24.trans (q25.mono hb24.size)
  replace ha := ha.below q25
  replace hb := hb.below q25
  replace hp := hp.below q25
  replace hq := hq.below q25
  replace hr := hr.below q25
  replace hs := hs.below q25
  replace ht := ht.below q25
  replace hu := hu.below q25
  clear q25
  go_wp2_with fail
  go_ret
  exact ⟨rfl, hb25⟩
end Go.Proofs.YthpkmbgollollaaDoor.Dy
