/- DyadRing, as it is walked. -/
import Derived.Test.YthpkmbgollollaaDoorJa
import Derived.Test.YthpkmbgollollaaDoorDk
import Derived.Deep.DeepCutAuto
import Derived.Deep.CutRange
namespace Go.Proofs.YthpkmbgollollaaDoor.Dy
open Go.RowKit Go.Lib Go.Shelf Go.Proofs.YthpkmbgollollaaDoor.Sca

set_option maxRecDepth 100000 in
set_option maxHeartbeats 1000000 in
theorem vSum (a b : DD) (ha : d64 a) (hb : d64 b) (w : World) (hT : Tv w) : Calls Tryd.prog 31 #[dV a, dV b] w fun e w' => e = .returned (.tuple #[dV (addR a b).1, .bool ((addR a b).2 == 0)]) ∧ Below w.heap.size w w' := by
  have c := fun w hT => yAdd a b ha hb w hT
  generalize addR a b = z at *
  obtain ⟨⟨z1, z2, z3⟩, z4⟩ := z
  obtain ⟨hP, hQ, hR, hW⟩ := three_new w a.re a.im a.ex b.re b.im b.ex 0 0 0
  clear ha hb
  obtain ⟨a1, a2, a3⟩ := a
  obtain ⟨b1, b2, b3⟩ := b
  unfold aV dV at *
  dsimp only at *
  go_enter Tryd.func31, Tryd.ntmps31
  go_wp2_with fail
  refine (c _ (hT.below hW).tz).mono ?_
  rintro e w1 ⟨rfl, q⟩
  have hb1 := hW.trans (q.mono hW.size)
  have hR1 := (hR.below q).below (below_new w1 (dO z1 z2 z3))
  have hb2 := hb1.trans ((below_new w1 (dO z1 z2 z3)).mono hb1.size)
  obtain ⟨g0, g1, g2⟩ := (At.new w1 z1 z2 z3).cells
  clear q c hP hQ hR hW hb1
  go_wp2_with (refine wpList_store_row rfl _ _ _ rfl (w.heap.size + 2) _ rfl rfl _ _ hR1 (by exact infoD) (by rfl) (allD _ _ _) ?_)
  refine bodyPost_ret (results_ct rfl _ _ (w.heap.size + 2) _ _ _ _ rfl (setRow_heap _ _ _ _ _ _ hR1) Tryd.underlying23 rfl (by exact infoD)) rfl ?_
  exact ⟨rfl, below_setRow hb2 (by omega) _⟩
set_option maxRecDepth 100000 in
set_option maxHeartbeats 1000000 in
theorem vProd (a b : DD) (ha : d64 a) (hb : d64 b) (w : World) (hT : Tv w) : Calls Tryd.prog 32 #[dV a, dV b] w fun e w' => e = .returned (.tuple #[dV (mulR a b).1, .bool ((mulR a b).2 == 0)]) ∧ Below w.heap.size w w' := by
  have c := fun w hT => yMul a b ha hb w hT
  generalize mulR a b = z at *
  obtain ⟨⟨z1, z2, z3⟩, z4⟩ := z
  obtain ⟨hP, hQ, hR, hW⟩ := three_new w a.re a.im a.ex b.re b.im b.ex 0 0 0
  clear ha hb
  obtain ⟨a1, a2, a3⟩ := a
  obtain ⟨b1, b2, b3⟩ := b
  unfold aV dV at *
  dsimp only at *
  go_enter Tryd.func32, Tryd.ntmps32
  go_wp2_with fail
  refine (c _ (hT.below hW).tz).mono ?_
  rintro e w1 ⟨rfl, q⟩
  have hb1 := hW.trans (q.mono hW.size)
  have hR1 := (hR.below q).below (below_new w1 (dO z1 z2 z3))
  have hb2 := hb1.trans ((below_new w1 (dO z1 z2 z3)).mono hb1.size)
  obtain ⟨g0, g1, g2⟩ := (At.new w1 z1 z2 z3).cells
  clear q c hP hQ hR hW hb1
  go_wp2_with (refine wpList_store_row rfl _ _ _ rfl (w.heap.size + 2) _ rfl rfl _ _ hR1 (by exact infoD) (by rfl) (allD _ _ _) ?_)
  refine bodyPost_ret (results_ct rfl _ _ (w.heap.size + 2) _ _ _ _ rfl (setRow_heap _ _ _ _ _ _ hR1) Tryd.underlying23 rfl (by exact infoD)) rfl ?_
  exact ⟨rfl, below_setRow hb2 (by omega) _⟩
theorem add_64 (a b : DD) : d64 (addR a b).1 := by
  unfold addR
  split
  · rename_i h
    unfold ans
    split
    · rename_i d hd
      exact (mkP_right hd).d64
    · decide
  · decide
theorem mul_64 (a b : DD) : d64 (mulR a b).1 := by
  unfold mulR
  split
  · unfold ans
    split
    · rename_i d hd
      exact (mulP_right hd).d64
    · decide
  · decide
theorem square_64 (a : DD) : d64 (squareR a).1 := by
  unfold squareR
  split
  · unfold ans
    split
    · rename_i d hd
      exact (mulP_right hd).d64
    · decide
  · decide
theorem pair_ok {z : DD × Int} (h : (z.2 == 0) = true) : z = (z.1, 0) := by
  obtain ⟨a, b⟩ := z
  have : b = 0 := by simpa using h
  rw [this]
set_option maxRecDepth 100000 in
set_option maxHeartbeats 4000000 in
theorem vRing (a b c : DD) (had : d64 a) (hbd : d64 b) (hcd : d64 c) (w : World) (hT : Tv w) : Calls Tryd.prog 7 #[dV a, dV b, dV c] w fun e w' => e = .returned (.bool true) ∧ Below w.heap.size w w' := by
  have s1 := fun w hT => vSum a b had hbd w hT
  have s2 := fun w hT => vSum b a hbd had w hT
  have s3 := fun w hT => vProd a b had hbd w hT
  have s4 := fun w hT => vProd b a hbd had w hT
  rw [addR_comm b a] at s2
  rw [mulR_comm b a] at s4
  have s5 := fun w hT => vProd (addR a b).1 c (add_64 a b) hcd w hT
  have s6 := fun w hT => vProd a c had hcd w hT
  have s7 := fun w hT => vProd b c hbd hcd w hT
  have s8 := fun w hT => vSum (mulR a c).1 (mulR b c).1 (mul_64 a c) (mul_64 b c) w hT
  have hdist : ((addR a b).2 == 0) = true → ((mulR (addR a b).1 c).2 == 0) = true → ((mulR a c).2 == 0) = true → ((mulR b c).2 == 0) = true → ((addR (mulR a c).1 (mulR b c).1).2 == 0) = true → (mulR (addR a b).1 c).1 = (addR (mulR a c).1 (mulR b c).1).1 := fun h1 h2 h3 h4 h5 =>
    ring_dist (pair_ok h1) (pair_ok h2) (pair_ok h3) (pair_ok h4) (pair_ok h5)
  have s9 := fun w hT => ySquare a had w hT
  have s10 := fun w hT => ySquare b hbd w hT
  have s11 := fun w hT => ySquare (mulR a b).1 (mul_64 a b) w hT
  have s12 := fun w hT => vProd (squareR a).1 (squareR b).1 (square_64 a) (square_64 b) w hT
  have hsq : ((mulR a b).2 == 0) = true → ((squareR a).2 == 0) = true → ((squareR b).2 == 0) = true → ((squareR (mulR a b).1).2 == 0) = true → ((mulR (squareR a).1 (squareR b).1).2 == 0) = true → (squareR (mulR a b).1).1 = (mulR (squareR a).1 (squareR b).1).1 := fun h1 h2 h3 h4 h5 =>
    ring_square (pair_ok h1) (pair_ok h2) (pair_ok h3) (pair_ok h4) (pair_ok h5)
  have c5 := fun w hT => vHeads w hT
  generalize addR (mulR a c).1 (mulR b c).1 = v at *
  generalize mulR (addR a b).1 c = x at *
  generalize mulR a c = y at *
  generalize mulR b c = z at *
  generalize squareR (mulR a b).1 = k at *
  generalize mulR (squareR a).1 (squareR b).1 = l at *
  generalize squareR a = i at *
  generalize squareR b = j at *
  generalize addR a b = p at *
  generalize mulR a b = r at *
  obtain ⟨⟨p1, p2, p3⟩, p4⟩ := p
  obtain ⟨⟨r1, r2, r3⟩, r4⟩ := r
  obtain ⟨⟨x1, x2, x3⟩, x4⟩ := x
  obtain ⟨⟨y1, y2, y3⟩, y4⟩ := y
  obtain ⟨⟨z1, z2, z3⟩, z4⟩ := z
  obtain ⟨⟨v1, v2, v3⟩, v4⟩ := v
  obtain ⟨⟨i1, i2, i3⟩, i4⟩ := i
  obtain ⟨⟨j1, j2, j3⟩, j4⟩ := j
  obtain ⟨⟨k1, k2, k3⟩, k4⟩ := k
  obtain ⟨⟨l1, l2, l3⟩, l4⟩ := l
  clear had hbd hcd
  obtain ⟨a1, a2, a3⟩ := a
  obtain ⟨b1, b2, b3⟩ := b
  obtain ⟨c1, c2, c3⟩ := c
  unfold aV at *
  unfold dV at *
  dsimp only at *
  generalize (p4 == 0) = bp at *
  generalize (r4 == 0) = br at *
  generalize (x4 == 0) = bx at *
  generalize (y4 == 0) = by' at *
  generalize (z4 == 0) = bz at *
  generalize (v4 == 0) = bv at *
  generalize (l4 == 0) = bl' at *
  go_enter Tryd.func7, Tryd.ntmps7
  go_wp2_with fail
  obtain ⟨ha, hb, hc, hbw⟩ := three_new w a1 a2 a3 b1 b2 b3 c1 c2 c3
  generalize (((w.alloc (dO a1 a2 a3)).alloc (dO b1 b2 b3)).alloc (dO c1 c2 c3)) = W00 at *
  refine (s1 _ (hT.below hbw)).mono ?_
  rintro e w1 ⟨rfl, q1⟩
  have hb1 := hbw.trans (q1.mono hbw.size)
  replace ha := ha.below q1
  replace hb := hb.below q1
  replace hc := hc.below q1
  clear q1
  have oa_p := ha.lt
  have ob_p := hb.lt
  have oc_p := hc.lt
  have hb2 := hb1.trans ((below_new w1 (dO p1 p2 p3)).mono hb1.size)
  replace ha := ha.below (below_new w1 (dO p1 p2 p3))
  replace hb := hb.below (below_new w1 (dO p1 p2 p3))
  replace hc := hc.below (below_new w1 (dO p1 p2 p3))
  have hp := At.new w1 p1 p2 p3
  obtain ⟨a0, a1, a2⟩ := ha.cells
  obtain ⟨b0, b1, b2⟩ := hb.cells
  go_wp2_with fail
  clear a0 a1 a2 b0 b1 b2
  generalize w1.alloc (dO p1 p2 p3) = w2 at *
  refine (s2 _ (hT.below hb2)).mono ?_
  rintro e w3 ⟨rfl, q3⟩
  have hb3 := hb2.trans (q3.mono hb2.size)
  replace ha := ha.below q3
  replace hb := hb.below q3
  replace hc := hc.below q3
  replace hp := hp.below q3
  clear q3
  have oa_q := ha.lt
  have ob_q := hb.lt
  have oc_q := hc.lt
  have op_q := hp.lt
  have hb4 := hb3.trans ((below_new w3 (dO p1 p2 p3)).mono hb3.size)
  replace ha := ha.below (below_new w3 (dO p1 p2 p3))
  replace hb := hb.below (below_new w3 (dO p1 p2 p3))
  replace hc := hc.below (below_new w3 (dO p1 p2 p3))
  replace hp := hp.below (below_new w3 (dO p1 p2 p3))
  have hq := At.new w3 p1 p2 p3
  obtain ⟨a0, a1, a2⟩ := ha.cells
  obtain ⟨b0, b1, b2⟩ := hb.cells
  go_wp2_with fail
  clear a0 a1 a2 b0 b1 b2
  generalize w3.alloc (dO p1 p2 p3) = w4 at *
  refine (s3 _ (hT.below hb4)).mono ?_
  rintro e w5 ⟨rfl, q5⟩
  have hb5 := hb4.trans (q5.mono hb4.size)
  replace ha := ha.below q5
  replace hb := hb.below q5
  replace hc := hc.below q5
  replace hp := hp.below q5
  replace hq := hq.below q5
  clear q5
  have oa_r := ha.lt
  have ob_r := hb.lt
  have oc_r := hc.lt
  have op_r := hp.lt
  have oq_r := hq.lt
  have hb6 := hb5.trans ((below_new w5 (dO r1 r2 r3)).mono hb5.size)
  replace ha := ha.below (below_new w5 (dO r1 r2 r3))
  replace hb := hb.below (below_new w5 (dO r1 r2 r3))
  replace hc := hc.below (below_new w5 (dO r1 r2 r3))
  replace hp := hp.below (below_new w5 (dO r1 r2 r3))
  replace hq := hq.below (below_new w5 (dO r1 r2 r3))
  have hr := At.new w5 r1 r2 r3
  obtain ⟨a0, a1, a2⟩ := ha.cells
  obtain ⟨b0, b1, b2⟩ := hb.cells
  go_wp2_with fail
  clear a0 a1 a2 b0 b1 b2
  generalize w5.alloc (dO r1 r2 r3) = w6 at *
  refine (s4 _ (hT.below hb6)).mono ?_
  rintro e w7 ⟨rfl, q7⟩
  have hb7 := hb6.trans (q7.mono hb6.size)
  replace ha := ha.below q7
  replace hb := hb.below q7
  replace hc := hc.below q7
  replace hp := hp.below q7
  replace hq := hq.below q7
  replace hr := hr.below q7
  clear q7
  have oa_s := ha.lt
  have ob_s := hb.lt
  have oc_s := hc.lt
  have op_s := hp.lt
  have oq_s := hq.lt
  have or_s := hr.lt
  have hb8 := hb7.trans ((below_new w7 (dO r1 r2 r3)).mono hb7.size)
  replace ha := ha.below (below_new w7 (dO r1 r2 r3))
  replace hb := hb.below (below_new w7 (dO r1 r2 r3))
  replace hc := hc.below (below_new w7 (dO r1 r2 r3))
  replace hp := hp.below (below_new w7 (dO r1 r2 r3))
  replace hq := hq.below (below_new w7 (dO r1 r2 r3))
  replace hr := hr.below (below_new w7 (dO r1 r2 r3))
  have hs := At.new w7 r1 r2 r3
  obtain ⟨a0, a1, a2⟩ := ha.cells
  obtain ⟨b0, b1, b2⟩ := hb.cells
  obtain ⟨c0, c1, c2⟩ := hc.cells
  obtain ⟨p0, p1, p2⟩ := hp.cells
  obtain ⟨q0, q1, q2⟩ := hq.cells
  obtain ⟨r0, r1, r2⟩ := hr.cells
  obtain ⟨s0, s1, s2⟩ := hs.cells
  go_wp2_with fail
  clear a0 a1 a2 b0 b1 b2 c0 c1 c2 p0 p1 p2 q0 q1 q2 r0 r1 r2 s0 s1 s2
  generalize w7.alloc (dO r1 r2 r3) = w8 at *
  refine (s5 _ (hT.below hb8)).mono ?_
  rintro e w9 ⟨rfl, q9⟩
  have hb9 := hb8.trans (q9.mono hb8.size)
  replace ha := ha.below q9
  replace hb := hb.below q9
  replace hc := hc.below q9
  replace hp := hp.below q9
  replace hq := hq.below q9
  replace hr := hr.below q9
  replace hs := hs.below q9
  clear q9
  have oa_x := ha.lt
  have ob_x := hb.lt
  have oc_x := hc.lt
  have op_x := hp.lt
  have oq_x := hq.lt
  have or_x := hr.lt
  have os_x := hs.lt
  have hb10 := hb9.trans ((below_new w9 (dO x1 x2 x3)).mono hb9.size)
  replace ha := ha.below (below_new w9 (dO x1 x2 x3))
  replace hb := hb.below (below_new w9 (dO x1 x2 x3))
  replace hc := hc.below (below_new w9 (dO x1 x2 x3))
  replace hp := hp.below (below_new w9 (dO x1 x2 x3))
  replace hq := hq.below (below_new w9 (dO x1 x2 x3))
  replace hr := hr.below (below_new w9 (dO x1 x2 x3))
  replace hs := hs.below (below_new w9 (dO x1 x2 x3))
  have hx := At.new w9 x1 x2 x3
  obtain ⟨a0, a1, a2⟩ := ha.cells
  obtain ⟨b0, b1, b2⟩ := hb.cells
  obtain ⟨c0, c1, c2⟩ := hc.cells
  go_wp2_with fail
  clear a0 a1 a2 b0 b1 b2 c0 c1 c2
  generalize w9.alloc (dO x1 x2 x3) = w10 at *
  refine (s6 _ (hT.below hb10)).mono ?_
  rintro e w11 ⟨rfl, q11⟩
  have hb11 := hb10.trans (q11.mono hb10.size)
  replace ha := ha.below q11
  replace hb := hb.below q11
  replace hc := hc.below q11
  replace hp := hp.below q11
  replace hq := hq.below q11
  replace hr := hr.below q11
  replace hs := hs.below q11
  replace hx := hx.below q11
  clear q11
  have oa_y := ha.lt
  have ob_y := hb.lt
  have oc_y := hc.lt
  have op_y := hp.lt
  have oq_y := hq.lt
  have or_y := hr.lt
  have os_y := hs.lt
  have ox_y := hx.lt
  have hb12 := hb11.trans ((below_new w11 (dO y1 y2 y3)).mono hb11.size)
  replace ha := ha.below (below_new w11 (dO y1 y2 y3))
  replace hb := hb.below (below_new w11 (dO y1 y2 y3))
  replace hc := hc.below (below_new w11 (dO y1 y2 y3))
  replace hp := hp.below (below_new w11 (dO y1 y2 y3))
  replace hq := hq.below (below_new w11 (dO y1 y2 y3))
  replace hr := hr.below (below_new w11 (dO y1 y2 y3))
  replace hs := hs.below (below_new w11 (dO y1 y2 y3))
  replace hx := hx.below (below_new w11 (dO y1 y2 y3))
  have hy := At.new w11 y1 y2 y3
  obtain ⟨a0, a1, a2⟩ := ha.cells
  obtain ⟨b0, b1, b2⟩ := hb.cells
  obtain ⟨c0, c1, c2⟩ := hc.cells
  go_wp2_with fail
  clear a0 a1 a2 b0 b1 b2 c0 c1 c2
  generalize w11.alloc (dO y1 y2 y3) = w12 at *
  refine (s7 _ (hT.below hb12)).mono ?_
  rintro e w13 ⟨rfl, q13⟩
  have hb13 := hb12.trans (q13.mono hb12.size)
  replace ha := ha.below q13
  replace hb := hb.below q13
  replace hc := hc.below q13
  replace hp := hp.below q13
  replace hq := hq.below q13
  replace hr := hr.below q13
  replace hs := hs.below q13
  replace hx := hx.below q13
  replace hy := hy.below q13
  clear q13
  have oa_z := ha.lt
  have ob_z := hb.lt
  have oc_z := hc.lt
  have op_z := hp.lt
  have oq_z := hq.lt
  have or_z := hr.lt
  have os_z := hs.lt
  have ox_z := hx.lt
  have oy_z := hy.lt
  have hb14 := hb13.trans ((below_new w13 (dO z1 z2 z3)).mono hb13.size)
  replace ha := ha.below (below_new w13 (dO z1 z2 z3))
  replace hb := hb.below (below_new w13 (dO z1 z2 z3))
  replace hc := hc.below (below_new w13 (dO z1 z2 z3))
  replace hp := hp.below (below_new w13 (dO z1 z2 z3))
  replace hq := hq.below (below_new w13 (dO z1 z2 z3))
  replace hr := hr.below (below_new w13 (dO z1 z2 z3))
  replace hs := hs.below (below_new w13 (dO z1 z2 z3))
  replace hx := hx.below (below_new w13 (dO z1 z2 z3))
  replace hy := hy.below (below_new w13 (dO z1 z2 z3))
  have hz := At.new w13 z1 z2 z3
  obtain ⟨a0, a1, a2⟩ := ha.cells
  obtain ⟨b0, b1, b2⟩ := hb.cells
  obtain ⟨c0, c1, c2⟩ := hc.cells
  obtain ⟨y0, y1, y2⟩ := hy.cells
  obtain ⟨z0, z1, z2⟩ := hz.cells
  go_wp2_with fail
  clear a0 a1 a2 b0 b1 b2 c0 c1 c2 y0 y1 y2 z0 z1 z2
  generalize w13.alloc (dO z1 z2 z3) = w14 at *
  refine (s8 _ (hT.below hb14)).mono ?_
  rintro e w15 ⟨rfl, q15⟩
  have hb15 := hb14.trans (q15.mono hb14.size)
  replace ha := ha.below q15
  replace hb := hb.below q15
  replace hc := hc.below q15
  replace hp := hp.below q15
  replace hq := hq.below q15
  replace hr := hr.below q15
  replace hs := hs.below q15
  replace hx := hx.below q15
  replace hy := hy.below q15
  replace hz := hz.below q15
  clear q15
  have oa_v := ha.lt
  have ob_v := hb.lt
  have oc_v := hc.lt
  have op_v := hp.lt
  have oq_v := hq.lt
  have or_v := hr.lt
  have os_v := hs.lt
  have ox_v := hx.lt
  have oy_v := hy.lt
  have oz_v := hz.lt
  have hb16 := hb15.trans ((below_new w15 (dO v1 v2 v3)).mono hb15.size)
  replace ha := ha.below (below_new w15 (dO v1 v2 v3))
  replace hb := hb.below (below_new w15 (dO v1 v2 v3))
  replace hc := hc.below (below_new w15 (dO v1 v2 v3))
  replace hp := hp.below (below_new w15 (dO v1 v2 v3))
  replace hq := hq.below (below_new w15 (dO v1 v2 v3))
  replace hr := hr.below (below_new w15 (dO v1 v2 v3))
  replace hs := hs.below (below_new w15 (dO v1 v2 v3))
  replace hx := hx.below (below_new w15 (dO v1 v2 v3))
  replace hy := hy.below (below_new w15 (dO v1 v2 v3))
  replace hz := hz.below (below_new w15 (dO v1 v2 v3))
  have hv := At.new w15 v1 v2 v3
  go_upto_region 11 with fail
  generalize w15.alloc (dO v1 v2 v3) = w16 at *
  go_cut [114] (fun vc wx => vc = .bool false ∧ wx = w16)
  case first =>
    cases bp
    · go_wp2_with fail
      go_meet
      exact ⟨rfl, rfl⟩
    cases bx
    · go_wp2_with fail
      go_meet
      exact ⟨rfl, rfl⟩
    cases by'
    · go_wp2_with fail
      go_meet
      exact ⟨rfl, rfl⟩
    cases bz
    · go_wp2_with fail
      go_meet
      exact ⟨rfl, rfl⟩
    cases bv
    · go_wp2_with fail
      go_meet
      exact ⟨rfl, rfl⟩
    have heq := hdist rfl rfl rfl rfl rfl
    injection heq with q1 q2 q3
    subst q1 q2 q3
    obtain ⟨g0, g1, g2⟩ := hx.cells
    obtain ⟨f0, f1, f2⟩ := hv.cells
    go_wp2_with fail
    go_meet
    exact ⟨rfl, rfl⟩
  case rest =>
  obtain ⟨rfl, hw⟩ := hcut
  obtain rfl := hw.symm
  obtain ⟨a0, a1, a2⟩ := ha.cells
  obtain ⟨b0, b1, b2⟩ := hb.cells
  obtain ⟨r0, r1, r2⟩ := hr.cells
  go_wp2_with fail
  clear a0 a1 a2 b0 b1 b2 r0 r1 r2
  refine (s9 _ (hT.below hb16).tz).mono ?_
  rintro e w17 ⟨rfl, q17⟩
  have hb17 := hb16.trans (q17.mono hb16.size)
  replace ha := ha.below q17
  replace hb := hb.below q17
  replace hc := hc.below q17
  replace hp := hp.below q17
  replace hq := hq.below q17
  replace hr := hr.below q17
  replace hs := hs.below q17
  replace hx := hx.below q17
  replace hy := hy.below q17
  replace hz := hz.below q17
  replace hv := hv.below q17
  clear q17
  have oa_i := ha.lt
  have ob_i := hb.lt
  have oc_i := hc.lt
  have op_i := hp.lt
  have oq_i := hq.lt
  have or_i := hr.lt
  have os_i := hs.lt
  have ox_i := hx.lt
  have oy_i := hy.lt
  have oz_i := hz.lt
  have ov_i := hv.lt
  have hb18 := hb17.trans ((below_new w17 (dO i1 i2 i3)).mono hb17.size)
  replace ha := ha.below (below_new w17 (dO i1 i2 i3))
  replace hb := hb.below (below_new w17 (dO i1 i2 i3))
  replace hc := hc.below (below_new w17 (dO i1 i2 i3))
  replace hp := hp.below (below_new w17 (dO i1 i2 i3))
  replace hq := hq.below (below_new w17 (dO i1 i2 i3))
  replace hr := hr.below (below_new w17 (dO i1 i2 i3))
  replace hs := hs.below (below_new w17 (dO i1 i2 i3))
  replace hx := hx.below (below_new w17 (dO i1 i2 i3))
  replace hy := hy.below (below_new w17 (dO i1 i2 i3))
  replace hz := hz.below (below_new w17 (dO i1 i2 i3))
  replace hv := hv.below (below_new w17 (dO i1 i2 i3))
  have hi := At.new w17 i1 i2 i3
  obtain ⟨a0, a1, a2⟩ := ha.cells
  obtain ⟨b0, b1, b2⟩ := hb.cells
  obtain ⟨r0, r1, r2⟩ := hr.cells
  go_wp2_with fail
  clear a0 a1 a2 b0 b1 b2 r0 r1 r2
  generalize w17.alloc (dO i1 i2 i3) = w18 at *
  refine (s10 _ (hT.below hb18).tz).mono ?_
  rintro e w19 ⟨rfl, q19⟩
  have hb19 := hb18.trans (q19.mono hb18.size)
  replace ha := ha.below q19
  replace hb := hb.below q19
  replace hc := hc.below q19
  replace hp := hp.below q19
  replace hq := hq.below q19
  replace hr := hr.below q19
  replace hs := hs.below q19
  replace hx := hx.below q19
  replace hy := hy.below q19
  replace hz := hz.below q19
  replace hv := hv.below q19
  replace hi := hi.below q19
  clear q19
  have oa_j := ha.lt
  have ob_j := hb.lt
  have oc_j := hc.lt
  have op_j := hp.lt
  have oq_j := hq.lt
  have or_j := hr.lt
  have os_j := hs.lt
  have ox_j := hx.lt
  have oy_j := hy.lt
  have oz_j := hz.lt
  have ov_j := hv.lt
  have oi_j := hi.lt
  have hb20 := hb19.trans ((below_new w19 (dO j1 j2 j3)).mono hb19.size)
  replace ha := ha.below (below_new w19 (dO j1 j2 j3))
  replace hb := hb.below (below_new w19 (dO j1 j2 j3))
  replace hc := hc.below (below_new w19 (dO j1 j2 j3))
  replace hp := hp.below (below_new w19 (dO j1 j2 j3))
  replace hq := hq.below (below_new w19 (dO j1 j2 j3))
  replace hr := hr.below (below_new w19 (dO j1 j2 j3))
  replace hs := hs.below (below_new w19 (dO j1 j2 j3))
  replace hx := hx.below (below_new w19 (dO j1 j2 j3))
  replace hy := hy.below (below_new w19 (dO j1 j2 j3))
  replace hz := hz.below (below_new w19 (dO j1 j2 j3))
  replace hv := hv.below (below_new w19 (dO j1 j2 j3))
  replace hi := hi.below (below_new w19 (dO j1 j2 j3))
  have hj := At.new w19 j1 j2 j3
  obtain ⟨a0, a1, a2⟩ := ha.cells
  obtain ⟨b0, b1, b2⟩ := hb.cells
  obtain ⟨r0, r1, r2⟩ := hr.cells
  obtain ⟨i0, i1, i2⟩ := hi.cells
  obtain ⟨j0, j1, j2⟩ := hj.cells
  go_wp2_with fail
  clear a0 a1 a2 b0 b1 b2 r0 r1 r2 i0 i1 i2 j0 j1 j2
  generalize w19.alloc (dO j1 j2 j3) = w20 at *
  refine (s11 _ (hT.below hb20).tz).mono ?_
  rintro e w21 ⟨rfl, q21⟩
  have hb21 := hb20.trans (q21.mono hb20.size)
  replace ha := ha.below q21
  replace hb := hb.below q21
  replace hc := hc.below q21
  replace hp := hp.below q21
  replace hq := hq.below q21
  replace hr := hr.below q21
  replace hs := hs.below q21
  replace hx := hx.below q21
  replace hy := hy.below q21
  replace hz := hz.below q21
  replace hv := hv.below q21
  replace hi := hi.below q21
  replace hj := hj.below q21
  clear q21
  have oa_k := ha.lt
  have ob_k := hb.lt
  have oc_k := hc.lt
  have op_k := hp.lt
  have oq_k := hq.lt
  have or_k := hr.lt
  have os_k := hs.lt
  have ox_k := hx.lt
  have oy_k := hy.lt
  have oz_k := hz.lt
  have ov_k := hv.lt
  have oi_k := hi.lt
  have oj_k := hj.lt
  have hb22 := hb21.trans ((below_new w21 (dO k1 k2 k3)).mono hb21.size)
  replace ha := ha.below (below_new w21 (dO k1 k2 k3))
  replace hb := hb.below (below_new w21 (dO k1 k2 k3))
  replace hc := hc.below (below_new w21 (dO k1 k2 k3))
  replace hp := hp.below (below_new w21 (dO k1 k2 k3))
  replace hq := hq.below (below_new w21 (dO k1 k2 k3))
  replace hr := hr.below (below_new w21 (dO k1 k2 k3))
  replace hs := hs.below (below_new w21 (dO k1 k2 k3))
  replace hx := hx.below (below_new w21 (dO k1 k2 k3))
  replace hy := hy.below (below_new w21 (dO k1 k2 k3))
  replace hz := hz.below (below_new w21 (dO k1 k2 k3))
  replace hv := hv.below (below_new w21 (dO k1 k2 k3))
  replace hi := hi.below (below_new w21 (dO k1 k2 k3))
  replace hj := hj.below (below_new w21 (dO k1 k2 k3))
  have hk := At.new w21 k1 k2 k3
  obtain ⟨a0, a1, a2⟩ := ha.cells
  obtain ⟨b0, b1, b2⟩ := hb.cells
  obtain ⟨r0, r1, r2⟩ := hr.cells
  obtain ⟨i0, i1, i2⟩ := hi.cells
  obtain ⟨j0, j1, j2⟩ := hj.cells
  go_wp2_with fail
  clear a0 a1 a2 b0 b1 b2 r0 r1 r2 i0 i1 i2 j0 j1 j2
  generalize w21.alloc (dO k1 k2 k3) = w22 at *
  refine (s12 _ (hT.below hb22)).mono ?_
  rintro e w23 ⟨rfl, q23⟩
  have hb23 := hb22.trans (q23.mono hb22.size)
  replace ha := ha.below q23
  replace hb := hb.below q23
  replace hc := hc.below q23
  replace hp := hp.below q23
  replace hq := hq.below q23
  replace hr := hr.below q23
  replace hs := hs.below q23
  replace hx := hx.below q23
  replace hy := hy.below q23
  replace hz := hz.below q23
  replace hv := hv.below q23
  replace hi := hi.below q23
  replace hj := hj.below q23
  replace hk := hk.below q23
  clear q23
  have oa_l := ha.lt
  have ob_l := hb.lt
  have oc_l := hc.lt
  have op_l := hp.lt
  have oq_l := hq.lt
  have or_l := hr.lt
  have os_l := hs.lt
  have ox_l := hx.lt
  have oy_l := hy.lt
  have oz_l := hz.lt
  have ov_l := hv.lt
  have oi_l := hi.lt
  have oj_l := hj.lt
  have ok_l := hk.lt
  have hb24 := hb23.trans ((below_new w23 (dO l1 l2 l3)).mono hb23.size)
  replace ha := ha.below (below_new w23 (dO l1 l2 l3))
  replace hb := hb.below (below_new w23 (dO l1 l2 l3))
  replace hc := hc.below (below_new w23 (dO l1 l2 l3))
  replace hp := hp.below (below_new w23 (dO l1 l2 l3))
  replace hq := hq.below (below_new w23 (dO l1 l2 l3))
  replace hr := hr.below (below_new w23 (dO l1 l2 l3))
  replace hs := hs.below (below_new w23 (dO l1 l2 l3))
  replace hx := hx.below (below_new w23 (dO l1 l2 l3))
  replace hy := hy.below (below_new w23 (dO l1 l2 l3))
  replace hz := hz.below (below_new w23 (dO l1 l2 l3))
  replace hv := hv.below (below_new w23 (dO l1 l2 l3))
  replace hi := hi.below (below_new w23 (dO l1 l2 l3))
  replace hj := hj.below (below_new w23 (dO l1 l2 l3))
  replace hk := hk.below (below_new w23 (dO l1 l2 l3))
  have hl := At.new w23 l1 l2 l3
  go_upto_region 17 with fail
  generalize w23.alloc (dO l1 l2 l3) = w24 at *
  go_cut [156] (fun vc wx => vc = .bool false ∧ wx = w24)
  case first =>
    cases br
    · go_wp2_with fail
      go_meet
      exact ⟨rfl, rfl⟩
    by_cases ei4 : i4 = 0
    case neg =>
      have ei4' : (i4 == 0) = false := by rw [beq_eq_false_iff_ne]; exact ei4
      go_wp2_with fail
      go_meet
      exact ⟨rfl, rfl⟩
    subst ei4
    by_cases ej4 : j4 = 0
    case neg =>
      have ej4' : (j4 == 0) = false := by rw [beq_eq_false_iff_ne]; exact ej4
      go_wp2_with fail
      go_meet
      exact ⟨rfl, rfl⟩
    subst ej4
    by_cases ek4 : k4 = 0
    case neg =>
      have ek4' : (k4 == 0) = false := by rw [beq_eq_false_iff_ne]; exact ek4
      go_wp2_with fail
      go_meet
      exact ⟨rfl, rfl⟩
    subst ek4
    cases bl'
    · go_wp2_with fail
      go_meet
      exact ⟨rfl, rfl⟩
    have heq := hsq rfl rfl rfl rfl rfl
    injection heq with q1 q2 q3
    subst q1 q2 q3
    obtain ⟨g0, g1, g2⟩ := hk.cells
    obtain ⟨f0, f1, f2⟩ := hl.cells
    go_wp2_with fail
    go_meet
    exact ⟨rfl, rfl⟩
  case rest =>
  obtain ⟨rfl, hw⟩ := hcut
  obtain rfl := hw.symm
  go_wp2_with fail
  refine (c5 _ (hT.below hb24)).mono ?_
  rintro e w25 ⟨rfl, q25⟩
  have hb25 := hb24.trans (q25.mono hb24.size)
  replace ha := ha.below q25
  replace hb := hb.below q25
  replace hc := hc.below q25
  replace hp := hp.below q25
  replace hq := hq.below q25
  replace hr := hr.below q25
  replace hs := hs.below q25
  replace hx := hx.below q25
  replace hy := hy.below q25
  replace hz := hz.below q25
  replace hv := hv.below q25
  replace hi := hi.below q25
  replace hj := hj.below q25
  replace hk := hk.below q25
  replace hl := hl.below q25
  clear q25
  go_wp2_with fail
  go_ret
  exact ⟨rfl, hb25⟩
end Go.Proofs.YthpkmbgollollaaDoor.Dy
