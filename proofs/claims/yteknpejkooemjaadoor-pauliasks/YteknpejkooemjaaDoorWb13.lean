/- The law PauliAsks, as it is walked. -/
import Derived.Test.YteknpejkooemjaaDoorWa13
import Derived.Deep.Quiet
namespace Go.Proofs.YteknpejkooemjaaDoor.Pau
open Go.RowKit Go.Shelf Go.Proofs.YteknpejkooemjaaDoor.Oct Go.Proofs.YteknpejkooemjaaDoor.Gt

set_option maxRecDepth 100000 in
set_option maxHeartbeats 8000000 in
theorem xAsks_no (a b : P) (q : Int) (ha : Wd a) (hb : Wd b) (hr : rt a = false) (w : World) (hT : Tp w) : Calls Tryd.prog 3 #[pV a, pV b, .int .i64 q] w fun e w' => e = .returned (.bool true) ∧ Below w.heap.size w w' := by
  have c1 := fun W => pMul a b ha hb W
  have c2 := fun W => dMul a b ha hb W
  have c3 := fun W => pInverse a ha W
  have c4 := fun W => dInverse a ha W
  have c5 := fun W => pCommute a b ha hb W
  have c6 := fun W => dCommute a b ha hb W
  have c7 := fun W => dRight a ha W
  have k1 := fun W => pCheck a ha W
  have k2 := fun W => pLetter a ha q W
  have k3 := fun W => dLetter a ha q W
  have k4 := fun W => pWeight a ha W
  have k5 := fun W => dWeight a ha W
  have k6 := fun W => pHerm a ha W
  have k7 := fun W (h : Below w.heap.size w W) => pHeads W (hT.below h)
  rw [hr] at c7 k6
  rw [show ck a = 130 by unfold ck; rw [hr]; rfl] at k1 c3 c4
  rw [Bool.false_and] at k6
  generalize mulR a b = M at *
  generalize (if rt a = true then invP a else oP) = I at *
  generalize (fitP a b && comB a b) = cb at *
  generalize (if fitP a b = true then (0 : Int) else 130) = ce at *
  generalize letP a q = L at *
  generalize (if rt a = true then (pc (a.x ||| a.z) : Int) else 0) = wt at *
  clear ha hb hT hr
  obtain ⟨n, x, z, ph⟩ := a
  obtain ⟨n', x', z', ph'⟩ := b
  obtain ⟨⟨mn, mx, mz, mp⟩, me⟩ := M
  obtain ⟨inn, ix, iz, ip⟩ := I
  unfold pV at *
  simp only at *
  have q1 := fun W => neq_same mn (mx : Int) (mz : Int) mp W
  have q2 := fun W => neq_same inn (ix : Int) (iz : Int) ip W
  obtain ⟨G1, G2⟩ := At4.two w (.int .i64 n) (.int .u64 (x : Int)) (.int .u64 (z : Int)) (.int .i64 ph) (.int .i64 n') (.int .u64 (x' : Int)) (.int .u64 (z' : Int)) (.int .i64 ph')
  have HG1 := hide G1
  have HG2 := hide G2
  have HB := hide (bkp (bnew w (.cells #[.int .i64 n, .int .u64 (x : Int), .int .u64 (z : Int), .int .i64 ph] 24)) (bnew _ (.cells #[.int .i64 n', .int .u64 (x' : Int), .int .u64 (z' : Int), .int .i64 ph'] 24)))
  clear G1 G2
  go_enter Tryd.func3, Tryd.ntmps3
  go_wp2_with fail
  refine (c1 _).mono ?_
  rintro e w1 ⟨rfl, hb1⟩
  have hn1 := bnew w1 (.cells #[.int .i64 mn, .int .u64 (mx : Int), .int .u64 (mz : Int), .int .i64 mp] 24)
  have HB1 := hide (bkp (bkp HB.out hb1) hn1)
  have K1 := hide ((HG1.out.below hb1).below hn1)
  have K2 := hide ((HG2.out.below hb1).below hn1)
  have K3 := hide (At4.new w1 (.int .i64 mn) (.int .u64 (mx : Int)) (.int .u64 (mz : Int)) (.int .i64 mp))
  clear hb1 HB HG1 HG2 c1 hn1
  obtain ⟨a0, a1, a2, a3, a4⟩ := K1.out.cells
  obtain ⟨b0, b1, b2, b3, b4⟩ := K2.out.cells
  go_wp2_with fail
  generalize hg1 : w1.heap.size = g1 at *
  refine (c2 _).mono ?_
  rintro e w2 ⟨rfl, hb2⟩
  have hn2 := bnew w2 (.cells #[.int .i64 mn, .int .u64 (mx : Int), .int .u64 (mz : Int), .int .i64 mp] 24)
  have HB2 := hide (bkp (bkp HB1.out hb2) hn2)
  have L1 := hide ((K1.out.below hb2).below hn2)
  have L2 := hide ((K2.out.below hb2).below hn2)
  have L3 := hide ((K3.out.below hb2).below hn2)
  have L4 := hide (At4.new w2 (.int .i64 mn) (.int .u64 (mx : Int)) (.int .u64 (mz : Int)) (.int .i64 mp))
  clear hb2 HB1 K1 K2 K3 c2 hn2 a0 a1 a2 a3 a4 b0 b1 b2 b3 b4
  obtain ⟨a0, a1, a2, a3, a4⟩ := L1.out.cells
  go_wp2_with fail
  generalize hg2 : w2.heap.size = g2 at *
  refine (c3 _).mono ?_
  rintro e w3 ⟨rfl, hb3⟩
  have hn3 := bnew w3 (.cells #[.int .i64 inn, .int .u64 (ix : Int), .int .u64 (iz : Int), .int .i64 ip] 24)
  have HB3 := hide (bkp (bkp HB2.out hb3) hn3)
  have M1 := hide ((L1.out.below hb3).below hn3)
  have M2 := hide ((L2.out.below hb3).below hn3)
  have M3 := hide ((L3.out.below hb3).below hn3)
  have M4 := hide ((L4.out.below hb3).below hn3)
  have M5 := hide (At4.new w3 (.int .i64 inn) (.int .u64 (ix : Int)) (.int .u64 (iz : Int)) (.int .i64 ip))
  clear hb3 HB2 L1 L2 L3 L4 c3 hn3 a0 a1 a2 a3 a4
  obtain ⟨a0, a1, a2, a3, a4⟩ := M1.out.cells
  go_wp2_with fail
  generalize hg3 : w3.heap.size = g3 at *
  refine (c4 _).mono ?_
  rintro e w4 ⟨rfl, hb4⟩
  have hn4 := bnew w4 (.cells #[.int .i64 inn, .int .u64 (ix : Int), .int .u64 (iz : Int), .int .i64 ip] 24)
  have HB4 := hide (bkp (bkp HB3.out hb4) hn4)
  have N1 := hide ((M1.out.below hb4).below hn4)
  have N2 := hide ((M2.out.below hb4).below hn4)
  have N3 := hide ((M3.out.below hb4).below hn4)
  have N4 := hide ((M4.out.below hb4).below hn4)
  have N5 := hide ((M5.out.below hb4).below hn4)
  have N6 := hide (At4.new w4 (.int .i64 inn) (.int .u64 (ix : Int)) (.int .u64 (iz : Int)) (.int .i64 ip))
  clear hb4 HB3 M1 M2 M3 M4 M5 c4 hn4 a0 a1 a2 a3 a4
  obtain ⟨a0, a1, a2, a3, a4⟩ := N1.out.cells
  obtain ⟨b0, b1, b2, b3, b4⟩ := N2.out.cells
  go_wp2_with fail
  generalize hg4 : w4.heap.size = g4 at *
  refine (c5 _).mono ?_
  rintro e w5 ⟨rfl, hb5⟩
  have HB5 := hide (bkp HB4.out hb5)
  have O1 := hide (N1.out.below hb5)
  have O2 := hide (N2.out.below hb5)
  have O3 := hide (N3.out.below hb5)
  have O4 := hide (N4.out.below hb5)
  have O5 := hide (N5.out.below hb5)
  have O6 := hide (N6.out.below hb5)
  clear hb5 HB4 N1 N2 N3 N4 N5 N6 c5 a0 a1 a2 a3 a4 b0 b1 b2 b3 b4
  obtain ⟨a0, a1, a2, a3, a4⟩ := O1.out.cells
  obtain ⟨b0, b1, b2, b3, b4⟩ := O2.out.cells
  go_wp2_with fail
  refine (c6 _).mono ?_
  rintro e w6 ⟨rfl, hb6⟩
  have HB6 := hide (bkp HB5.out hb6)
  have R1 := hide (O1.out.below hb6)
  have R3 := hide (O3.out.below hb6)
  have R4 := hide (O4.out.below hb6)
  have R5 := hide (O5.out.below hb6)
  have R6 := hide (O6.out.below hb6)
  clear hb6 HB5 O1 O2 O3 O4 O5 O6 c6 a0 a1 a2 a3 a4 b0 b1 b2 b3 b4
  obtain ⟨a0, a1, a2, a3, a4⟩ := R1.out.cells
  go_wp2_with fail
  refine (c7 _).mono ?_
  rintro e w7 ⟨rfl, hb7⟩
  have HB7 := hide (bkp HB6.out hb7)
  have S1 := hide (R1.out.below hb7)
  have hc3 := (R3.out.below hb7).cells
  have hc4 := (R4.out.below hb7).cells
  have hc5 := (R5.out.below hb7).cells
  have hc6 := (R6.out.below hb7).cells
  clear hb7 HB6 R1 R3 R4 R5 R6 c7 a0 a1 a2 a3 a4
  obtain ⟨d0, d1, d2, d3, d4⟩ := hc3
  obtain ⟨e0, e1, e2, e3, e4⟩ := hc4
  obtain ⟨f0, f1, f2, f3, f4⟩ := hc5
  obtain ⟨i0, i1, i2, i3, i4⟩ := hc6
  go_wp2_with fail
  clear d0 d1 d2 d3 d4 e0 e1 e2 e3 e4 f0 f1 f2 f3 f4 i0 i1 i2 i3 i4
  have HC : Hid (∀ W, Below w7.heap.size w7 W → (W.cell? ⟨w.heap.size, 0, none⟩ = some (.int .i64 n) ∧ W.cell? ⟨w.heap.size, 1, none⟩ = some (.int .u64 (x : Int)) ∧ W.cell? ⟨w.heap.size, 2, none⟩ = some (.int .u64 (z : Int)) ∧ W.cell? ⟨w.heap.size, 3, none⟩ = some (.int .i64 ph) ∧ w.heap.size < W.heap.size)) := hide (fun W hW => (S1.out.below hW).cells)
  have HBW : Hid (∀ W, Below w7.heap.size w7 W → Below w.heap.size w W) := hide (fun W hW => bkp HB7.out hW)
  refine wp_region_quiet_C (C := fun W => Below w7.heap.size w7 W) (by kernel_rfl) (by kernel_rfl) (bdrew (Below.refl _ _) 1) ?_
  refine unhideP ?_
  repeat
    refine wpQuiet_stepH (fun K hK => ?_)
    go_simp
    first
      | (refine hK _ ?_; clear hK K)
      | (apply Exists.intro
         refine ⟨fun W hW => ?_, hK _ ?_⟩
         first
           | ((with_reducible refine Calls.mono (k1 _) ?_); rintro e x ⟨rfl, hb⟩; exact ⟨rfl, bkp hW hb⟩)
           | ((with_reducible refine Calls.mono (k2 _) ?_); rintro e x ⟨rfl, hb⟩; exact ⟨rfl, bkp hW hb⟩)
           | ((with_reducible refine Calls.mono (k3 _) ?_); rintro e x ⟨rfl, hb⟩; exact ⟨rfl, bkp hW hb⟩)
           | ((with_reducible refine Calls.mono (k4 _) ?_); rintro e x ⟨rfl, hb⟩; exact ⟨rfl, bkp hW hb⟩)
           | ((with_reducible refine Calls.mono (k5 _) ?_); rintro e x ⟨rfl, hb⟩; exact ⟨rfl, bkp hW hb⟩)
           | ((with_reducible refine Calls.mono (k6 _) ?_); rintro e x ⟨rfl, hb⟩; exact ⟨rfl, bkp hW hb⟩)
           | ((with_reducible refine Calls.mono (k7 _ (HBW.out W hW)) ?_); rintro e x ⟨rfl, hb⟩; exact ⟨rfl, bkp hW hb⟩)
           | (obtain ⟨p0, p1, p2, p3, p4⟩ := HC.out W hW; go_simp; rfl)
         clear hK K)
  refine wpQuiet_nilH ?_
  intro W hW
  have HF := hide (HBW.out W hW)
  clear hW HC
  go_wp2_with fail
  go_ret
  exact ⟨rfl, HF.out⟩
end Go.Proofs.YteknpejkooemjaaDoor.Pau
