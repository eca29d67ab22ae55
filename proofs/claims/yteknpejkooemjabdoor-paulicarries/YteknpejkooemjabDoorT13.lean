/- Package pauli's Act at the set-up's string and state, as it is walked. -/
import Derived.Test.YteknpejkooemjabDoorS13
import Derived.Laws.FloatArith
namespace Go.Proofs.YteknpejkooemjabDoor.Pau
open Go.RowKit Go.Shelf Go.Proofs.YteknpejkooemjabDoor.Oct Go.Proofs.YteknpejkooemjabDoor.Gt

/-- The table of trailing zeros, as it is read. -/
def Tz (w : World) : Prop := w.cell? ⟨5, 1, none⟩ = some (.int .u8 1)
theorem Tz.below {w w' : World} (h : Tz w) (hb : Below w.heap.size w w') : Tz w' := cell_below h hb
set_option maxRecDepth 100000 in
set_option maxHeartbeats 1000000 in
theorem bOnesU (w : World) : Calls Tryd.prog 44 #[.int .u64 2] w fun e w' => e = .returned (.int .i64 1) ∧ w' = w := by
  have c1 := fun W => bOnes 2 (by decide) W
  rw [show pc 2 = 1 by decide] at c1
  simp only [Int.natCast_one] at c1
  have c1' : ∀ W, Calls Tryd.prog 34 #[.int .u64 2] W fun e w' => e = .returned (.int .i64 1) ∧ w' = W := c1
  clear c1
  go_enter Tryd.func44, Tryd.ntmps44
  go_wp2_with (first | (go_at_call 34; refine (c1' _).mono ?_; rintro e w1 ⟨rfl, hw⟩; obtain rfl := hw.symm))
  go_ret
  exact ⟨rfl, rfl⟩
set_option maxRecDepth 100000 in
set_option maxHeartbeats 1000000 in
theorem bTrail64 (w : World) (hT : Tz w) : Calls Tryd.prog 55 #[.int .u64 2] w fun e w' => e = .returned (.int .i64 1) ∧ w' = w := by
  have e1 : IntKind.u64.wrap (-2) = 18446744073709551614 := by decide +kernel
  have e2 : bits .and .u64 2 18446744073709551614 = 2 := by decide +kernel
  have e3 : IntKind.u64.wrap (2 * 285870213051353865) = 571740426102707730 := by decide +kernel
  have e4 : IntKind.u64.wrap 571740426102707730 = 571740426102707730 := by decide +kernel
  have hgl := World.block_lt_of_cell? _ _ hT
  unfold Tz at hT
  go_enter Tryd.func55, Tryd.ntmps55
  go_wp2_with fail
  go_ret
  exact ⟨rfl, rfl⟩
set_option maxRecDepth 100000 in
set_option maxHeartbeats 1000000 in
theorem bTrail (w : World) (hT : Tz w) : Calls Tryd.prog 45 #[.int .u64 2] w fun e w' => e = .returned (.int .i64 1) ∧ w' = w := by
  have c1 := bTrail64 w hT
  go_enter Tryd.func45, Tryd.ntmps45
  go_wp2_with (first | (go_at_call 55; refine c1.mono ?_; rintro e w1 ⟨rfl, hw⟩; obtain rfl := hw.symm))
  go_ret
  exact ⟨rfl, rfl⟩
set_option maxRecDepth 100000 in
set_option maxHeartbeats 1000000 in
theorem pPower (w : World) (hT : Tz w) : Calls Tryd.prog 35 #[.int .i64 2] w fun e w' => e = .returned (.int .i64 1) ∧ w' = w := by
  have c1 := fun W => bOnesU W
  have c2 := bTrail w hT
  have e4 : IntKind.u64.wrap 2 = 2 := by decide +kernel
  go_enter Tryd.func35, Tryd.ntmps35
  go_wp2_with (first | (go_at_call 44; refine (c1 _).mono ?_; rintro e w1 ⟨rfl, hw⟩; obtain rfl := hw.symm) | (go_at_call 45; refine c2.mono ?_; rintro e w1 ⟨rfl, hw⟩; obtain rfl := hw.symm))
  go_ret
  exact ⟨rfl, rfl⟩
set_option maxRecDepth 100000 in
set_option maxHeartbeats 1000000 in
theorem sPlus (b r : Nat) (h : floatBits .add .f64 b 0 = some r) (w : World) : Calls Tryd.prog 46 #[.float .f64 b] w fun e w' => e = .returned (.float .f64 r) ∧ w' = w := by
  have ha := fun t W => run_float_arith (P := Tryd.prog) W .add t .f64 _ _ _ h
  go_enter Tryd.func46, Tryd.ntmps46
  go_wp2_with fail
  go_ret
  exact ⟨rfl, rfl⟩
set_option maxRecDepth 100000 in
set_option maxHeartbeats 1000000 in
theorem pClean (x y x' y' : Nat) (h1 : floatBits .add .f64 x 0 = some x') (h2 : floatBits .add .f64 y 0 = some y') (w : World) : Calls Tryd.prog 36 #[.complex .f64 x y] w fun e w' => e = .returned (.complex .f64 x' y') ∧ w' = w := by
  have c1 := fun W => sPlus x x' h1 W
  have c2 := fun W => sPlus y y' h2 W
  clear h1 h2
  go_enter Tryd.func36, Tryd.ntmps36
  go_wp2_with fail
  refine (c1 _).mono ?_
  rintro e w1 ⟨rfl, hw⟩
  obtain rfl := hw.symm
  go_wp2_with fail
  refine (c2 _).mono ?_
  rintro e w1 ⟨rfl, hw⟩
  obtain rfl := hw.symm
  go_wp2_with fail
  go_ret
  exact ⟨rfl, rfl⟩
set_option maxRecDepth 100000 in
set_option maxHeartbeats 1000000 in
theorem pTurn4 (x y : Nat) (w : World) : Calls Tryd.prog 37 #[.complex .f64 x y, .int .i64 4] w fun e w' => e = .returned (.complex .f64 x y) ∧ w' = w := by
  have e : bits .and .i64 4 3 = 0 := by decide +kernel
  go_enter Tryd.func37, Tryd.ntmps37
  go_wp2_with fail
  go_ret
  exact ⟨rfl, rfl⟩
set_option maxRecDepth 100000 in
set_option maxHeartbeats 1000000 in
theorem pNeg0 (w : World) : Calls Tryd.prog 47 #[.complex .f64 0 0] w fun e w' => e = .returned (.complex .f64 9223372036854775808 9223372036854775808) ∧ w' = w := by
  have hn : ∀ W, (Op.unary .neg (.float .f64 0)).run Tryd.prog W = .ok (.float .f64 9223372036854775808) W := fun W => rfl
  go_enter Tryd.func47, Tryd.ntmps47
  go_wp2_with fail
  go_ret
  exact ⟨rfl, rfl⟩
set_option maxRecDepth 100000 in
set_option maxHeartbeats 1000000 in
theorem pTurn6 (w : World) : Calls Tryd.prog 37 #[.complex .f64 0 0, .int .i64 6] w fun e w' => e = .returned (.complex .f64 9223372036854775808 9223372036854775808) ∧ w' = w := by
  have e : bits .and .i64 6 3 = 2 := by decide +kernel
  have c1 := fun W => pNeg0 W
  go_enter Tryd.func37, Tryd.ntmps37
  go_wp2_with (first | (go_at_call 47; refine (c1 _).mono ?_; rintro e w1 ⟨rfl, hw⟩; obtain rfl := hw.symm))
  go_ret
  exact ⟨rfl, rfl⟩
/-- Two amplitudes in a block. -/
def Am (w : World) (g : Nat) (a b c d : Nat) : Prop := w.heap[g]? = some (.cells #[.complex .f64 a b, .complex .f64 c d] 50 (0, 0))
theorem Am.below {w w' : World} {g a b c d : Nat} (h : Am w g a b c d) (hb : Below w.heap.size w w') : Am w' g a b c d := (hb.block g (Array.getElem?_eq_some_iff.1 h).1).trans h
theorem Am.cells {w : World} {g a b c d : Nat} (h : Am w g a b c d) : w.cell? ⟨g, 0, none⟩ = some (.complex .f64 a b) ∧ w.cell? ⟨g, 1, none⟩ = some (.complex .f64 c d) ∧ g < w.heap.size ∧ w.frozen? ⟨g, 0, none⟩ = false ∧ w.frozen? ⟨g, 1, none⟩ = false := by
  refine ⟨cell_of_row _ _ 0 _ _ _ h, cell_of_row _ _ 1 _ _ _ h, (Array.getElem?_eq_some_iff.1 h).1, ?_, ?_⟩ <;> (unfold Am at h; simp [World.frozen?, h])
theorem Am.set1 {w : World} {g a b c d : Nat} (h : Am w g a b c d) (x y : Nat) : Am (w.setCell ⟨g, 1, none⟩ (.complex .f64 x y)) g a b x y := by
  unfold Am at *
  simp [World.setCell, Array.getElem?_modify, h]
theorem Am.set0 {w : World} {g a b c d : Nat} (h : Am w g a b c d) (x y : Nat) : Am (w.setCell ⟨g, 0, none⟩ (.complex .f64 x y)) g x y c d := by
  unfold Am at *
  simp [World.setCell, Array.getElem?_modify, h]
theorem Am.off {w : World} {g k j a b c d : Nat} {v : Value} (h : Am w g a b c d) (hk : k ≠ g) : Am (w.setCell ⟨k, j, none⟩ v) g a b c d := by
  unfold Am at *
  simp [World.setCell, Array.getElem?_modify, h, hk]
theorem store_c (a : Addr) (x y : Nat) (m : Mode) (w : World) : (store a (.complex .f64 x y) m).run Tryd.prog w = stored Tryd.prog w a (.complex .f64 x y) m := run_store _ _ _ _ _ rfl
def mY : P := ⟨1, 1, 1, 3⟩
set_option maxRecDepth 100000 in
set_option maxHeartbeats 4000000 in
theorem pAct (gs cs : Nat) (w : World) (hT : Tz w) (hS : Am w gs 4607182418800017408 0 0 0) : Calls Tryd.prog 19 #[pV mY, .slice (some ⟨gs, 0, none⟩) 2 cs] w fun e w' => ∃ g, e = .returned (.tuple #[.slice (some ⟨g, 0, none⟩) 2 2, .int .i64 0]) ∧ Am w' g 0 0 4607182418800017408 0 ∧ Below w.heap.size w w' := by
  have c0 := fun W (h : Below w.heap.size w W) => pPower W (hT.below h)
  have c1 := fun W => pCheck mY ⟨by decide, by decide⟩ W
  rw [show ck mY = 0 by decide] at c1
  have c2 := fun W => pYs mY ⟨by decide, by decide⟩ W
  rw [show pc (mY.x &&& mY.z) = 1 by decide] at c2
  have c3 := fun W => pCommon 0 1 (by decide) (by decide) W
  rw [show pc (0 &&& 1) = 0 by decide] at c3
  have c4 := fun W => pCommon 1 1 (by decide) (by decide) W
  rw [show pc (1 &&& 1) = 1 by decide] at c4
  have c5 := fun W => pTurn4 4607182418800017408 0 W
  have c6 := fun W => pTurn6 W
  have c7 := fun W => pClean 4607182418800017408 0 4607182418800017408 0 (by decide +kernel) (by decide +kernel) W
  have c8 := fun W => pClean 9223372036854775808 9223372036854775808 0 0 (by decide +kernel) (by decide +kernel) W
  unfold mY pV at *
  simp only [Int.natCast_zero, Int.natCast_one] at c1 c2 c3 c4 ⊢
  have c2' : ∀ W, Calls Tryd.prog 17 #[.agg #[.int .i64 1, .int .u64 1, .int .u64 1, .int .i64 3]] W fun e w' => e = .returned (.int .i64 1) ∧ Below W.heap.size W w' := c2
  have c1' : ∀ W, Calls Tryd.prog 23 #[.agg #[.int .i64 1, .int .u64 1, .int .u64 1, .int .i64 3]] W fun e w' => e = .returned (.int .i64 0) ∧ Below W.heap.size W w' := c1
  have c3' : ∀ W, Calls Tryd.prog 16 #[.int .u64 0, .int .u64 1] W fun e w' => e = .returned (.int .i64 0) ∧ w' = W := c3
  have c4' : ∀ W, Calls Tryd.prog 16 #[.int .u64 1, .int .u64 1] W fun e w' => e = .returned (.int .i64 1) ∧ w' = W := c4
  clear c1 c2 c3 c4
  have u0 : IntKind.u64.wrap 0 = 0 := by decide +kernel
  have u1 : IntKind.u64.wrap 1 = 1 := by decide +kernel
  have i1 : IntKind.i64.wrap 1 = 1 := by decide +kernel
  have v1 : IntKind.i64.wrap (3 + 1) = 4 := by decide +kernel
  have v1' : IntKind.i64.wrap 4 = 4 := by decide +kernel
  have v2 : IntKind.i64.wrap (2 * 0) = 0 := by decide +kernel
  have v2' : IntKind.i64.wrap 0 = 0 := by decide +kernel
  have v3 : IntKind.i64.wrap (2 * 1) = 2 := by decide +kernel
  have v3' : IntKind.i64.wrap 2 = 2 := by decide +kernel
  have v4 : IntKind.i64.wrap (4 + 0) = 4 := by decide +kernel
  have v5 : IntKind.i64.wrap (4 + 2) = 6 := by decide +kernel
  have v5' : IntKind.i64.wrap 6 = 6 := by decide +kernel
  have x1 : bits .xor .i64 0 1 = 1 := by decide +kernel
  have x2 : bits .xor .i64 1 1 = 0 := by decide +kernel
  have hst := store_c
  have HP := hide (At4.new w (.int .i64 1) (.int .u64 1) (.int .u64 1) (.int .i64 3))
  have HB := hide (bnew w (.cells #[.int .i64 1, .int .u64 1, .int .u64 1, .int .i64 3] 24))
  have HSm := hide (hS.below (bnew w (.cells #[.int .i64 1, .int .u64 1, .int .u64 1, .int .i64 3] 24)))
  clear hT hS
  go_enter Tryd.func19, Tryd.ntmps19
  go_wp2_with fail
  refine (c0 _ HB.out).mono ?_
  rintro e w1 ⟨rfl, hw⟩
  subst hw
  go_wp2_with fail
  refine (c1' _).mono ?_
  rintro e w2 ⟨rfl, hb2⟩
  have K1 := hide (HP.out.below hb2)
  have K2 := hide (HSm.out.below hb2)
  have HB2 := hide (bkp HB.out hb2)
  obtain ⟨y0, y1, y2, y3, y4⟩ := K1.out.cells
  clear hb2 HP HSm HB c1' c0
  have hmk : (Instr.makeSlice 47 (.int .i64 2) (.int .i64 2)).run Tryd.prog w2 = .ok (.slice (some ⟨w2.heap.size, 0, none⟩) 2 2) (w2.alloc (.cells #[.complex .f64 0 0, .complex .f64 0 0] 50)) := by kernel_rfl
  have hbn := bnew w2 (.cells #[.complex .f64 0 0, .complex .f64 0 0] 50)
  have HB3 := hide (bkp HB2.out hbn)
  have L1 := hide (K1.out.below hbn)
  have L2 := hide (K2.out.below hbn)
  have L3 : Hid (Am (w2.alloc (.cells #[.complex .f64 0 0, .complex .f64 0 0] 50)) w2.heap.size 0 0 0 0) := hide (heap_alloc_new _ _)
  have hgw : w.heap.size < w2.heap.size := K1.out.lt
  have hgs : gs < w2.heap.size := K2.out.cells.2.2.1
  go_wp2_with fail
  generalize w2.alloc (.cells #[.complex .f64 0 0, .complex .f64 0 0] 50) = w3 at *
  generalize w2.heap.size = g at *
  clear hbn hmk K1 K2 HB2 y0 y1 y2 y3 y4
  obtain ⟨z0, z1, z2, z3, z4⟩ := L2.out.cells
  have HC : Hid (∀ W, Below w3.heap.size w3 W → (W.cell? ⟨w.heap.size, 0, none⟩ = some (.int .i64 1) ∧ W.cell? ⟨w.heap.size, 1, none⟩ = some (.int .u64 1) ∧ W.cell? ⟨w.heap.size, 2, none⟩ = some (.int .u64 1) ∧ W.cell? ⟨w.heap.size, 3, none⟩ = some (.int .i64 3) ∧ w.heap.size < W.heap.size) ∧ (W.cell? ⟨g, 0, none⟩ = some (.complex .f64 0 0) ∧ W.cell? ⟨g, 1, none⟩ = some (.complex .f64 0 0) ∧ g < W.heap.size ∧ W.frozen? ⟨g, 0, none⟩ = false ∧ W.frozen? ⟨g, 1, none⟩ = false)) := hide (fun W hW => ⟨(L1.out.below hW).cells, (L3.out.below hW).cells⟩)
  refine wp_loop_rounds 3 ?_
  rw [rounds_succ]
  go_wp2_with fail
  refine wp_region_quiet_last (C := fun W => Below w3.heap.size w3 W) (by kernel_rfl) 12 rfl (by kernel_rfl) (by kernel_rfl) (bdrew (Below.refl _ _) 1) ?_
  simp only [List.take_succ_cons, List.take_zero]
  repeat
    refine wpQuiet_step (fun K hK => ?_)
    go_simp
    first
      | (refine hK _ ?_; clear hK K)
      | (apply Exists.intro
         refine ⟨fun W hW => ?_, hK _ ?_⟩
         first
         | ((with_reducible refine Calls.mono (c2' _) ?_); rintro e x ⟨rfl, hb⟩; exact ⟨rfl, bkp hW hb⟩)
         | ((with_reducible refine Calls.mono (c3' _) ?_); rintro e x ⟨rfl, rfl⟩; exact ⟨rfl, hW⟩)
         | ((with_reducible refine Calls.mono (c4' _) ?_); rintro e x ⟨rfl, rfl⟩; exact ⟨rfl, hW⟩)
         | ((with_reducible refine Calls.mono (c5 _) ?_); rintro e x ⟨rfl, rfl⟩; exact ⟨rfl, hW⟩)
         | ((with_reducible refine Calls.mono (c6 _) ?_); rintro e x ⟨rfl, rfl⟩; exact ⟨rfl, hW⟩)
         | ((with_reducible refine Calls.mono (c7 _) ?_); rintro e x ⟨rfl, rfl⟩; exact ⟨rfl, hW⟩)
         | ((with_reducible refine Calls.mono (c8 _) ?_); rintro e x ⟨rfl, rfl⟩; exact ⟨rfl, hW⟩)
         | (obtain ⟨⟨p0, p1, p2, p3, p4⟩, ⟨a0, a1, a2, a3, a4⟩⟩ := HC.out W hW; go_simp; rfl)
         clear hK K)
  refine wpQuiet_nil ?_
  intro Wa hW
  have A1 := hide (L1.out.below hW)
  have A2 := hide (L2.out.below hW)
  have A3 := hide (L3.out.below hW)
  have AB := hide (bkp HB3.out hW)
  clear hW HC L1 L2 L3 HB3 z0 z1 z2 z3 z4
  go_wp2_with fail
  have HC : Hid (∀ W, Below Wa.heap.size Wa W → (W.cell? ⟨w.heap.size, 0, none⟩ = some (.int .i64 1) ∧ W.cell? ⟨w.heap.size, 1, none⟩ = some (.int .u64 1) ∧ W.cell? ⟨w.heap.size, 2, none⟩ = some (.int .u64 1) ∧ W.cell? ⟨w.heap.size, 3, none⟩ = some (.int .i64 3) ∧ w.heap.size < W.heap.size) ∧ (W.cell? ⟨g, 0, none⟩ = some (.complex .f64 0 0) ∧ W.cell? ⟨g, 1, none⟩ = some (.complex .f64 0 0) ∧ g < W.heap.size ∧ W.frozen? ⟨g, 0, none⟩ = false ∧ W.frozen? ⟨g, 1, none⟩ = false)) := hide (fun W hW => ⟨(A1.out.below hW).cells, (A3.out.below hW).cells⟩)
  refine wp_region_quiet_last (C := fun W => Below Wa.heap.size Wa W) (by kernel_rfl) 11 rfl (by kernel_rfl) (by kernel_rfl) (bdrew (Below.refl _ _) 1) ?_
  simp only [List.take_succ_cons, List.take_zero]
  repeat
    refine wpQuiet_step (fun K hK => ?_)
    go_simp
    first
      | (refine hK _ ?_; clear hK K)
      | (apply Exists.intro
         refine ⟨fun W hW => ?_, hK _ ?_⟩
         first
         | ((with_reducible refine Calls.mono (c2' _) ?_); rintro e x ⟨rfl, hb⟩; exact ⟨rfl, bkp hW hb⟩)
         | ((with_reducible refine Calls.mono (c3' _) ?_); rintro e x ⟨rfl, rfl⟩; exact ⟨rfl, hW⟩)
         | ((with_reducible refine Calls.mono (c4' _) ?_); rintro e x ⟨rfl, rfl⟩; exact ⟨rfl, hW⟩)
         | ((with_reducible refine Calls.mono (c5 _) ?_); rintro e x ⟨rfl, rfl⟩; exact ⟨rfl, hW⟩)
         | ((with_reducible refine Calls.mono (c6 _) ?_); rintro e x ⟨rfl, rfl⟩; exact ⟨rfl, hW⟩)
         | ((with_reducible refine Calls.mono (c7 _) ?_); rintro e x ⟨rfl, rfl⟩; exact ⟨rfl, hW⟩)
         | ((with_reducible refine Calls.mono (c8 _) ?_); rintro e x ⟨rfl, rfl⟩; exact ⟨rfl, hW⟩)
         | (obtain ⟨⟨p0, p1, p2, p3, p4⟩, ⟨a0, a1, a2, a3, a4⟩⟩ := HC.out W hW; go_simp; rfl)
         clear hK K)
  refine wpQuiet_nil ?_
  intro Wb hW
  have B1 := hide ((A1.out.below hW).off (k := g) (j := 1) (v := .complex .f64 4607182418800017408 0) (by omega))
  have B2 := hide ((A2.out.below hW).off (k := g) (j := 1) (v := .complex .f64 4607182418800017408 0) (by omega))
  have B3 := hide ((A3.out.below hW).set1 4607182418800017408 0)
  have BB := hide ((bkp AB.out hW).setCell (p := ⟨g, 1, none⟩) (show w.heap.size ≤ g by omega) (.complex .f64 4607182418800017408 0))
  obtain ⟨-, ⟨a0, a1, a2, a3, a4⟩⟩ := HC.out Wb hW
  clear hW HC A1 A2 A3 AB
  go_wp2_with fail
  generalize Wb.setCell ⟨g, 1, none⟩ (.complex .f64 4607182418800017408 0) = wc at *
  clear a0 a1 a2 a3 a4
  obtain ⟨z0, z1, z2, z3, z4⟩ := B2.out.cells
  rw [rounds_succ]
  have HC : Hid (∀ W, Below wc.heap.size wc W → (W.cell? ⟨w.heap.size, 0, none⟩ = some (.int .i64 1) ∧ W.cell? ⟨w.heap.size, 1, none⟩ = some (.int .u64 1) ∧ W.cell? ⟨w.heap.size, 2, none⟩ = some (.int .u64 1) ∧ W.cell? ⟨w.heap.size, 3, none⟩ = some (.int .i64 3) ∧ w.heap.size < W.heap.size) ∧ (W.cell? ⟨g, 0, none⟩ = some (.complex .f64 0 0) ∧ W.cell? ⟨g, 1, none⟩ = some (.complex .f64 4607182418800017408 0) ∧ g < W.heap.size ∧ W.frozen? ⟨g, 0, none⟩ = false ∧ W.frozen? ⟨g, 1, none⟩ = false)) := hide (fun W hW => ⟨(B1.out.below hW).cells, (B3.out.below hW).cells⟩)
  go_wp2_with fail
  refine wp_region_quiet_last (C := fun W => Below wc.heap.size wc W) (by kernel_rfl) 12 rfl (by kernel_rfl) (by kernel_rfl) (bdrew (Below.refl _ _) 1) ?_
  simp only [List.take_succ_cons, List.take_zero]
  repeat
    refine wpQuiet_step (fun K hK => ?_)
    go_simp
    first
      | (refine hK _ ?_; clear hK K)
      | (apply Exists.intro
         refine ⟨fun W hW => ?_, hK _ ?_⟩
         first
         | ((with_reducible refine Calls.mono (c2' _) ?_); rintro e x ⟨rfl, hb⟩; exact ⟨rfl, bkp hW hb⟩)
         | ((with_reducible refine Calls.mono (c3' _) ?_); rintro e x ⟨rfl, rfl⟩; exact ⟨rfl, hW⟩)
         | ((with_reducible refine Calls.mono (c4' _) ?_); rintro e x ⟨rfl, rfl⟩; exact ⟨rfl, hW⟩)
         | ((with_reducible refine Calls.mono (c5 _) ?_); rintro e x ⟨rfl, rfl⟩; exact ⟨rfl, hW⟩)
         | ((with_reducible refine Calls.mono (c6 _) ?_); rintro e x ⟨rfl, rfl⟩; exact ⟨rfl, hW⟩)
         | ((with_reducible refine Calls.mono (c7 _) ?_); rintro e x ⟨rfl, rfl⟩; exact ⟨rfl, hW⟩)
         | ((with_reducible refine Calls.mono (c8 _) ?_); rintro e x ⟨rfl, rfl⟩; exact ⟨rfl, hW⟩)
         | (obtain ⟨⟨p0, p1, p2, p3, p4⟩, ⟨a0, a1, a2, a3, a4⟩⟩ := HC.out W hW; go_simp; rfl)
         clear hK K)
  refine wpQuiet_nil ?_
  intro Wd hW
  have A1 := hide (B1.out.below hW)
  have A2 := hide (B2.out.below hW)
  have A3 := hide (B3.out.below hW)
  have AB := hide (bkp BB.out hW)
  clear hW HC B1 B2 B3 BB z0 z1 z2 z3 z4
  go_wp2_with fail
  have HC : Hid (∀ W, Below Wd.heap.size Wd W → (W.cell? ⟨w.heap.size, 0, none⟩ = some (.int .i64 1) ∧ W.cell? ⟨w.heap.size, 1, none⟩ = some (.int .u64 1) ∧ W.cell? ⟨w.heap.size, 2, none⟩ = some (.int .u64 1) ∧ W.cell? ⟨w.heap.size, 3, none⟩ = some (.int .i64 3) ∧ w.heap.size < W.heap.size) ∧ (W.cell? ⟨g, 0, none⟩ = some (.complex .f64 0 0) ∧ W.cell? ⟨g, 1, none⟩ = some (.complex .f64 4607182418800017408 0) ∧ g < W.heap.size ∧ W.frozen? ⟨g, 0, none⟩ = false ∧ W.frozen? ⟨g, 1, none⟩ = false)) := hide (fun W hW => ⟨(A1.out.below hW).cells, (A3.out.below hW).cells⟩)
  refine wp_region_quiet_last (C := fun W => Below Wd.heap.size Wd W) (by kernel_rfl) 11 rfl (by kernel_rfl) (by kernel_rfl) (bdrew (Below.refl _ _) 1) ?_
  simp only [List.take_succ_cons, List.take_zero]
  repeat
    refine wpQuiet_step (fun K hK => ?_)
    go_simp
    first
      | (refine hK _ ?_; clear hK K)
      | (apply Exists.intro
         refine ⟨fun W hW => ?_, hK _ ?_⟩
         first
         | ((with_reducible refine Calls.mono (c2' _) ?_); rintro e x ⟨rfl, hb⟩; exact ⟨rfl, bkp hW hb⟩)
         | ((with_reducible refine Calls.mono (c3' _) ?_); rintro e x ⟨rfl, rfl⟩; exact ⟨rfl, hW⟩)
         | ((with_reducible refine Calls.mono (c4' _) ?_); rintro e x ⟨rfl, rfl⟩; exact ⟨rfl, hW⟩)
         | ((with_reducible refine Calls.mono (c5 _) ?_); rintro e x ⟨rfl, rfl⟩; exact ⟨rfl, hW⟩)
         | ((with_reducible refine Calls.mono (c6 _) ?_); rintro e x ⟨rfl, rfl⟩; exact ⟨rfl, hW⟩)
         | ((with_reducible refine Calls.mono (c7 _) ?_); rintro e x ⟨rfl, rfl⟩; exact ⟨rfl, hW⟩)
         | ((with_reducible refine Calls.mono (c8 _) ?_); rintro e x ⟨rfl, rfl⟩; exact ⟨rfl, hW⟩)
         | (obtain ⟨⟨p0, p1, p2, p3, p4⟩, ⟨a0, a1, a2, a3, a4⟩⟩ := HC.out W hW; go_simp; rfl)
         clear hK K)
  refine wpQuiet_nil ?_
  intro We hW
  have B3 := hide ((A3.out.below hW).set0 0 0)
  have BB := hide ((bkp AB.out hW).setCell (p := ⟨g, 0, none⟩) (show w.heap.size ≤ g by omega) (.complex .f64 0 0))
  obtain ⟨-, ⟨a0, a1, a2, a3, a4⟩⟩ := HC.out We hW
  clear hW HC A1 A2 A3 AB
  go_wp2_with fail
  rw [rounds_succ]
  go_wp2_with fail
  go_ret2
  exact ⟨g, rfl, B3.out, BB.out⟩
end Go.Proofs.YteknpejkooemjabDoor.Pau
