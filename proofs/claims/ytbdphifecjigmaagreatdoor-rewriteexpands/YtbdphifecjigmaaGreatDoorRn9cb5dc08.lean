import Derived.Test.YtbdphifecjigmaaGreatDoorRnf25dead8
namespace Go.Proofs.YtbdphifecjigmaaGreatDoor.Cir
end Go.Proofs.YtbdphifecjigmaaGreatDoor.Cir
namespace Go.Proofs.YtbdphifecjigmaaGreatDoor.Gt
end Go.Proofs.YtbdphifecjigmaaGreatDoor.Gt
namespace Go.Proofs.YtbdphifecjigmaaGreatDoor.Oct
end Go.Proofs.YtbdphifecjigmaaGreatDoor.Oct
namespace Go.Proofs.YtbdphifecjigmaaGreatDoor.Tok
end Go.Proofs.YtbdphifecjigmaaGreatDoor.Tok
set_option maxRecDepth 100000
set_option maxHeartbeats 2000000
namespace Go.Proofs.YtbdphifecjigmaaGreatDoor.Rwt
open Go.RowKit Go.Shelf Go.Proofs.YtbdphifecjigmaaGreatDoor.Oct Go.Proofs.YtbdphifecjigmaaGreatDoor.Tok Go.Proofs.YtbdphifecjigmaaGreatDoor.Gt Go.Proofs.YtbdphifecjigmaaGreatDoor.Cir
theorem dW14 (t u : Int) (g off cq : Nat) (w : World) (x0 : w.cell? ⟨g, off, none⟩ = some (.int .i64 t)) (x1 : w.cell? ⟨g, off + 1, none⟩ = some (.int .i64 u)) : Calls Tryz.prog 14 #[.int .i64 14, .slice (some ⟨g, off, none⟩) 2 cq] w (WPost w [(11, [t, u]), (11, [u, t]), (11, [t, u])]) := by
  have hgl : g < w.heap.size := World.block_lt_of_cell? _ _ x0
  have HO0 : Hid (Os w w.heap.size []) := hide (Os.nil _ _)
  have HB0 : Hid (Below w.heap.size w w) := hide (Below.refl _ _)
  have hz0 : w.heap.size <= w.heap.size := Nat.le_refl _
  unfold WPost
  have c0 := fun (V : World) => dOne 11 (some ⟨V.heap.size, 0, none⟩) 2 [t, u] (by simp) (by simp) (V.alloc (.cells #[.int .i64 t, .int .i64 u] 3)) (ns2 V t u)
  have c1 := fun (V : World) => dOne 11 (some ⟨V.heap.size, 0, none⟩) 2 [u, t] (by simp) (by simp) (V.alloc (.cells #[.int .i64 u, .int .i64 t] 3)) (ns2 V u t)
  have c2 := fun (V : World) => dOne 11 (some ⟨V.heap.size, 0, none⟩) 2 [t, u] (by simp) (by simp) (V.alloc (.cells #[.int .i64 t, .int .i64 u] 3)) (ns2 V t u)
  simp only [List.length_cons, List.length_nil, Nat.zero_add, Nat.reduceAdd] at c0 c1 c2 ⊢
  go_enter Tryz.func14, Tryz.ntmps14
  go_wp2_with (first
    | (go_at_call 30; refine (c0 w).mono ?_; rintro e w1 ⟨a1, d1, rfl, hr1, hb1⟩; have HO1 := hide (HO0.out.snoc (bkp (bnew w (.cells #[.int .i64 t, .int .i64 u] 3)) hb1) HB0.out.size ⟨1, 11, [t, u], 0, -1, 0⟩ (.slice a1 2 d1) (hr1.base (by simp))); have HB1 := hide (bkp HB0.out (bkp (bnew w (.cells #[.int .i64 t, .int .i64 u] 3)) hb1)); clear hr1 hb1 HO0 HB0 c0)
    | (go_at_call 30; refine (c1 w1).mono ?_; rintro e w2 ⟨a2, d2, rfl, hr2, hb2⟩; have HO2 := hide (HO1.out.snoc (bkp (bnew w1 (.cells #[.int .i64 u, .int .i64 t] 3)) hb2) HB1.out.size ⟨1, 11, [u, t], 0, -1, 0⟩ (.slice a2 2 d2) (hr2.base (by simp))); have HB2 := hide (bkp HB1.out (bkp (bnew w1 (.cells #[.int .i64 u, .int .i64 t] 3)) hb2)); clear hr2 hb2 HO1 HB1 c1)
    | (go_at_call 30; refine (c2 w2).mono ?_; rintro e w3 ⟨a3, d3, rfl, hr3, hb3⟩; have HO3 := hide (HO2.out.snoc (bkp (bnew w2 (.cells #[.int .i64 t, .int .i64 u] 3)) hb3) HB2.out.size ⟨1, 11, [t, u], 0, -1, 0⟩ (.slice a3 2 d3) (hr3.base (by simp))); have HB3 := hide (bkp HB2.out (bkp (bnew w2 (.cells #[.int .i64 t, .int .i64 u] 3)) hb3)); clear hr3 hb3 HO2 HB2 c2))
  go_ret
  exact ⟨_, _, rfl, HO3.out.own HB3.out.size (by simp [maxLen]), bkp HB3.out (bnew _ _)⟩
theorem dW12 (t u : Int) (g off cq : Nat) (w : World) (x0 : w.cell? ⟨g, off, none⟩ = some (.int .i64 t)) (x1 : w.cell? ⟨g, off + 1, none⟩ = some (.int .i64 u)) : Calls Tryz.prog 14 #[.int .i64 12, .slice (some ⟨g, off, none⟩) 2 cq] w (WPost w [(6, [u]), (11, [t, u]), (5, [u])]) := by
  have hgl : g < w.heap.size := World.block_lt_of_cell? _ _ x0
  have HO0 : Hid (Os w w.heap.size []) := hide (Os.nil _ _)
  have HB0 : Hid (Below w.heap.size w w) := hide (Below.refl _ _)
  have hz0 : w.heap.size <= w.heap.size := Nat.le_refl _
  unfold WPost
  have c0 := fun (V : World) => dOne 6 (some ⟨V.heap.size, 0, none⟩) 1 [u] (by simp) (by simp) (V.alloc (.cells #[.int .i64 u] 3)) (ns1 V u)
  have c1 := fun (V : World) => dOne 11 (some ⟨V.heap.size, 0, none⟩) 2 [t, u] (by simp) (by simp) (V.alloc (.cells #[.int .i64 t, .int .i64 u] 3)) (ns2 V t u)
  have c2 := fun (V : World) => dOne 5 (some ⟨V.heap.size, 0, none⟩) 1 [u] (by simp) (by simp) (V.alloc (.cells #[.int .i64 u] 3)) (ns1 V u)
  simp only [List.length_cons, List.length_nil, Nat.zero_add, Nat.reduceAdd] at c0 c1 c2 ⊢
  go_enter Tryz.func14, Tryz.ntmps14
  go_wp2_with (first
    | (go_at_call 30; refine (c0 w).mono ?_; rintro e w1 ⟨a1, d1, rfl, hr1, hb1⟩; have HO1 := hide (HO0.out.snoc (bkp (bnew w (.cells #[.int .i64 u] 3)) hb1) HB0.out.size ⟨1, 6, [u], 0, -1, 0⟩ (.slice a1 1 d1) (hr1.base (by simp))); have HB1 := hide (bkp HB0.out (bkp (bnew w (.cells #[.int .i64 u] 3)) hb1)); clear hr1 hb1 HO0 HB0 c0)
    | (go_at_call 30; refine (c1 w1).mono ?_; rintro e w2 ⟨a2, d2, rfl, hr2, hb2⟩; have HO2 := hide (HO1.out.snoc (bkp (bnew w1 (.cells #[.int .i64 t, .int .i64 u] 3)) hb2) HB1.out.size ⟨1, 11, [t, u], 0, -1, 0⟩ (.slice a2 2 d2) (hr2.base (by simp))); have HB2 := hide (bkp HB1.out (bkp (bnew w1 (.cells #[.int .i64 t, .int .i64 u] 3)) hb2)); clear hr2 hb2 HO1 HB1 c1)
    | (go_at_call 30; refine (c2 w2).mono ?_; rintro e w3 ⟨a3, d3, rfl, hr3, hb3⟩; have HO3 := hide (HO2.out.snoc (bkp (bnew w2 (.cells #[.int .i64 u] 3)) hb3) HB2.out.size ⟨1, 5, [u], 0, -1, 0⟩ (.slice a3 1 d3) (hr3.base (by simp))); have HB3 := hide (bkp HB2.out (bkp (bnew w2 (.cells #[.int .i64 u] 3)) hb3)); clear hr3 hb3 HO2 HB2 c2))
  go_ret
  exact ⟨_, _, rfl, HO3.out.own HB3.out.size (by simp [maxLen]), bkp HB3.out (bnew _ _)⟩
theorem dW13 (t u : Int) (g off cq : Nat) (w : World) (x0 : w.cell? ⟨g, off, none⟩ = some (.int .i64 t)) (x1 : w.cell? ⟨g, off + 1, none⟩ = some (.int .i64 u)) : Calls Tryz.prog 14 #[.int .i64 13, .slice (some ⟨g, off, none⟩) 2 cq] w (WPost w [(9, [u]), (11, [t, u]), (10, [u])]) := by
  have hgl : g < w.heap.size := World.block_lt_of_cell? _ _ x0
  have HO0 : Hid (Os w w.heap.size []) := hide (Os.nil _ _)
  have HB0 : Hid (Below w.heap.size w w) := hide (Below.refl _ _)
  have hz0 : w.heap.size <= w.heap.size := Nat.le_refl _
  unfold WPost
  have c0 := fun (V : World) => dOne 9 (some ⟨V.heap.size, 0, none⟩) 1 [u] (by simp) (by simp) (V.alloc (.cells #[.int .i64 u] 3)) (ns1 V u)
  have c1 := fun (V : World) => dOne 11 (some ⟨V.heap.size, 0, none⟩) 2 [t, u] (by simp) (by simp) (V.alloc (.cells #[.int .i64 t, .int .i64 u] 3)) (ns2 V t u)
  have c2 := fun (V : World) => dOne 10 (some ⟨V.heap.size, 0, none⟩) 1 [u] (by simp) (by simp) (V.alloc (.cells #[.int .i64 u] 3)) (ns1 V u)
  simp only [List.length_cons, List.length_nil, Nat.zero_add, Nat.reduceAdd] at c0 c1 c2 ⊢
  go_enter Tryz.func14, Tryz.ntmps14
  go_wp2_with (first
    | (go_at_call 30; refine (c0 w).mono ?_; rintro e w1 ⟨a1, d1, rfl, hr1, hb1⟩; have HO1 := hide (HO0.out.snoc (bkp (bnew w (.cells #[.int .i64 u] 3)) hb1) HB0.out.size ⟨1, 9, [u], 0, -1, 0⟩ (.slice a1 1 d1) (hr1.base (by simp))); have HB1 := hide (bkp HB0.out (bkp (bnew w (.cells #[.int .i64 u] 3)) hb1)); clear hr1 hb1 HO0 HB0 c0)
    | (go_at_call 30; refine (c1 w1).mono ?_; rintro e w2 ⟨a2, d2, rfl, hr2, hb2⟩; have HO2 := hide (HO1.out.snoc (bkp (bnew w1 (.cells #[.int .i64 t, .int .i64 u] 3)) hb2) HB1.out.size ⟨1, 11, [t, u], 0, -1, 0⟩ (.slice a2 2 d2) (hr2.base (by simp))); have HB2 := hide (bkp HB1.out (bkp (bnew w1 (.cells #[.int .i64 t, .int .i64 u] 3)) hb2)); clear hr2 hb2 HO1 HB1 c1)
    | (go_at_call 30; refine (c2 w2).mono ?_; rintro e w3 ⟨a3, d3, rfl, hr3, hb3⟩; have HO3 := hide (HO2.out.snoc (bkp (bnew w2 (.cells #[.int .i64 u] 3)) hb3) HB2.out.size ⟨1, 10, [u], 0, -1, 0⟩ (.slice a3 1 d3) (hr3.base (by simp))); have HB3 := hide (bkp HB2.out (bkp (bnew w2 (.cells #[.int .i64 u] 3)) hb3)); clear hr3 hb3 HO2 HB2 c2))
  go_ret
  exact ⟨_, _, rfl, HO3.out.own HB3.out.size (by simp [maxLen]), bkp HB3.out (bnew _ _)⟩
theorem dW17 (t u : Int) (g off cq : Nat) (w : World) (x0 : w.cell? ⟨g, off, none⟩ = some (.int .i64 t)) (x1 : w.cell? ⟨g, off + 1, none⟩ = some (.int .i64 u)) : Calls Tryz.prog 14 #[.int .i64 17, .slice (some ⟨g, off, none⟩) 2 cq] w (WPost w [(5, [t]), (7, [t]), (5, [t]), (6, [u]), (8, [u]), (6, [u])]) := by
  have hgl : g < w.heap.size := World.block_lt_of_cell? _ _ x0
  have HO0 : Hid (Os w w.heap.size []) := hide (Os.nil _ _)
  have HB0 : Hid (Below w.heap.size w w) := hide (Below.refl _ _)
  have hz0 : w.heap.size <= w.heap.size := Nat.le_refl _
  unfold WPost
  have c0 := fun (V : World) => dOne 5 (some ⟨V.heap.size, 0, none⟩) 1 [t] (by simp) (by simp) (V.alloc (.cells #[.int .i64 t] 3)) (ns1 V t)
  have c1 := fun (V : World) => dOne 7 (some ⟨V.heap.size, 0, none⟩) 1 [t] (by simp) (by simp) (V.alloc (.cells #[.int .i64 t] 3)) (ns1 V t)
  have c2 := fun (V : World) => dOne 5 (some ⟨V.heap.size, 0, none⟩) 1 [t] (by simp) (by simp) (V.alloc (.cells #[.int .i64 t] 3)) (ns1 V t)
  have c3 := fun (V : World) => dOne 6 (some ⟨V.heap.size, 0, none⟩) 1 [u] (by simp) (by simp) (V.alloc (.cells #[.int .i64 u] 3)) (ns1 V u)
  have c4 := fun (V : World) => dOne 8 (some ⟨V.heap.size, 0, none⟩) 1 [u] (by simp) (by simp) (V.alloc (.cells #[.int .i64 u] 3)) (ns1 V u)
  have c5 := fun (V : World) => dOne 6 (some ⟨V.heap.size, 0, none⟩) 1 [u] (by simp) (by simp) (V.alloc (.cells #[.int .i64 u] 3)) (ns1 V u)
  simp only [List.length_cons, List.length_nil, Nat.zero_add, Nat.reduceAdd] at c0 c1 c2 c3 c4 c5 ⊢
  go_enter Tryz.func14, Tryz.ntmps14
  go_wp2_with (first
    | (go_at_call 30; refine (c0 w).mono ?_; rintro e w1 ⟨a1, d1, rfl, hr1, hb1⟩; have HO1 := hide (HO0.out.snoc (bkp (bnew w (.cells #[.int .i64 t] 3)) hb1) HB0.out.size ⟨1, 5, [t], 0, -1, 0⟩ (.slice a1 1 d1) (hr1.base (by simp))); have HB1 := hide (bkp HB0.out (bkp (bnew w (.cells #[.int .i64 t] 3)) hb1)); clear hr1 hb1 HO0 HB0 c0)
    | (go_at_call 30; refine (c1 w1).mono ?_; rintro e w2 ⟨a2, d2, rfl, hr2, hb2⟩; have HO2 := hide (HO1.out.snoc (bkp (bnew w1 (.cells #[.int .i64 t] 3)) hb2) HB1.out.size ⟨1, 7, [t], 0, -1, 0⟩ (.slice a2 1 d2) (hr2.base (by simp))); have HB2 := hide (bkp HB1.out (bkp (bnew w1 (.cells #[.int .i64 t] 3)) hb2)); clear hr2 hb2 HO1 HB1 c1)
    | (go_at_call 30; refine (c2 w2).mono ?_; rintro e w3 ⟨a3, d3, rfl, hr3, hb3⟩; have HO3 := hide (HO2.out.snoc (bkp (bnew w2 (.cells #[.int .i64 t] 3)) hb3) HB2.out.size ⟨1, 5, [t], 0, -1, 0⟩ (.slice a3 1 d3) (hr3.base (by simp))); have HB3 := hide (bkp HB2.out (bkp (bnew w2 (.cells #[.int .i64 t] 3)) hb3)); clear hr3 hb3 HO2 HB2 c2)
    | (go_at_call 30; refine (c3 w3).mono ?_; rintro e w4 ⟨a4, d4, rfl, hr4, hb4⟩; have HO4 := hide (HO3.out.snoc (bkp (bnew w3 (.cells #[.int .i64 u] 3)) hb4) HB3.out.size ⟨1, 6, [u], 0, -1, 0⟩ (.slice a4 1 d4) (hr4.base (by simp))); have HB4 := hide (bkp HB3.out (bkp (bnew w3 (.cells #[.int .i64 u] 3)) hb4)); clear hr4 hb4 HO3 HB3 c3)
    | (go_at_call 30; refine (c4 w4).mono ?_; rintro e w5 ⟨a5, d5, rfl, hr5, hb5⟩; have HO5 := hide (HO4.out.snoc (bkp (bnew w4 (.cells #[.int .i64 u] 3)) hb5) HB4.out.size ⟨1, 8, [u], 0, -1, 0⟩ (.slice a5 1 d5) (hr5.base (by simp))); have HB5 := hide (bkp HB4.out (bkp (bnew w4 (.cells #[.int .i64 u] 3)) hb5)); clear hr5 hb5 HO4 HB4 c4)
    | (go_at_call 30; refine (c5 w5).mono ?_; rintro e w6 ⟨a6, d6, rfl, hr6, hb6⟩; have HO6 := hide (HO5.out.snoc (bkp (bnew w5 (.cells #[.int .i64 u] 3)) hb6) HB5.out.size ⟨1, 6, [u], 0, -1, 0⟩ (.slice a6 1 d6) (hr6.base (by simp))); have HB6 := hide (bkp HB5.out (bkp (bnew w5 (.cells #[.int .i64 u] 3)) hb6)); clear hr6 hb6 HO5 HB5 c5))
  go_ret
  exact ⟨_, _, rfl, HO6.out.own HB6.out.size (by simp [maxLen]), bkp HB6.out (bnew _ _)⟩
theorem dW19 (t u v : Int) (g off cq : Nat) (w : World) (x0 : w.cell? ⟨g, off, none⟩ = some (.int .i64 t)) (x1 : w.cell? ⟨g, off + 1, none⟩ = some (.int .i64 u)) (x2 : w.cell? ⟨g, off + 2, none⟩ = some (.int .i64 v)) : Calls Tryz.prog 14 #[.int .i64 19, .slice (some ⟨g, off, none⟩) 3 cq] w (WPost w [(9, [v]), (18, [t, u, v]), (10, [v])]) := by
  have hgl : g < w.heap.size := World.block_lt_of_cell? _ _ x0
  have HO0 : Hid (Os w w.heap.size []) := hide (Os.nil _ _)
  have HB0 : Hid (Below w.heap.size w w) := hide (Below.refl _ _)
  have hz0 : w.heap.size <= w.heap.size := Nat.le_refl _
  unfold WPost
  have c0 := fun (V : World) => dOne 9 (some ⟨V.heap.size, 0, none⟩) 1 [v] (by simp) (by simp) (V.alloc (.cells #[.int .i64 v] 3)) (ns1 V v)
  have c1 := fun (V : World) => dOne 18 (some ⟨V.heap.size, 0, none⟩) 3 [t, u, v] (by simp) (by simp) (V.alloc (.cells #[.int .i64 t, .int .i64 u, .int .i64 v] 3)) (ns3 V t u v)
  have c2 := fun (V : World) => dOne 10 (some ⟨V.heap.size, 0, none⟩) 1 [v] (by simp) (by simp) (V.alloc (.cells #[.int .i64 v] 3)) (ns1 V v)
  simp only [List.length_cons, List.length_nil, Nat.zero_add, Nat.reduceAdd] at c0 c1 c2 ⊢
  go_enter Tryz.func14, Tryz.ntmps14
  go_wp2_with (first
    | (go_at_call 30; refine (c0 w).mono ?_; rintro e w1 ⟨a1, d1, rfl, hr1, hb1⟩; have HO1 := hide (HO0.out.snoc (bkp (bnew w (.cells #[.int .i64 v] 3)) hb1) HB0.out.size ⟨1, 9, [v], 0, -1, 0⟩ (.slice a1 1 d1) (hr1.base (by simp))); have HB1 := hide (bkp HB0.out (bkp (bnew w (.cells #[.int .i64 v] 3)) hb1)); clear hr1 hb1 HO0 HB0 c0)
    | (go_at_call 30; refine (c1 w1).mono ?_; rintro e w2 ⟨a2, d2, rfl, hr2, hb2⟩; have HO2 := hide (HO1.out.snoc (bkp (bnew w1 (.cells #[.int .i64 t, .int .i64 u, .int .i64 v] 3)) hb2) HB1.out.size ⟨1, 18, [t, u, v], 0, -1, 0⟩ (.slice a2 3 d2) (hr2.base (by simp))); have HB2 := hide (bkp HB1.out (bkp (bnew w1 (.cells #[.int .i64 t, .int .i64 u, .int .i64 v] 3)) hb2)); clear hr2 hb2 HO1 HB1 c1)
    | (go_at_call 30; refine (c2 w2).mono ?_; rintro e w3 ⟨a3, d3, rfl, hr3, hb3⟩; have HO3 := hide (HO2.out.snoc (bkp (bnew w2 (.cells #[.int .i64 v] 3)) hb3) HB2.out.size ⟨1, 10, [v], 0, -1, 0⟩ (.slice a3 1 d3) (hr3.base (by simp))); have HB3 := hide (bkp HB2.out (bkp (bnew w2 (.cells #[.int .i64 v] 3)) hb3)); clear hr3 hb3 HO2 HB2 c2))
  go_ret
  exact ⟨_, _, rfl, HO3.out.own HB3.out.size (by simp [maxLen]), bkp HB3.out (bnew _ _)⟩
theorem dW20 (t u v : Int) (g off cq : Nat) (w : World) (x0 : w.cell? ⟨g, off, none⟩ = some (.int .i64 t)) (x1 : w.cell? ⟨g, off + 1, none⟩ = some (.int .i64 u)) (x2 : w.cell? ⟨g, off + 2, none⟩ = some (.int .i64 v)) : Calls Tryz.prog 14 #[.int .i64 20, .slice (some ⟨g, off, none⟩) 3 cq] w (WPost w [(11, [v, u]), (18, [t, u, v]), (11, [v, u])]) := by
  have hgl : g < w.heap.size := World.block_lt_of_cell? _ _ x0
  have HO0 : Hid (Os w w.heap.size []) := hide (Os.nil _ _)
  have HB0 : Hid (Below w.heap.size w w) := hide (Below.refl _ _)
  have hz0 : w.heap.size <= w.heap.size := Nat.le_refl _
  unfold WPost
  have c0 := fun (V : World) => dOne 11 (some ⟨V.heap.size, 0, none⟩) 2 [v, u] (by simp) (by simp) (V.alloc (.cells #[.int .i64 v, .int .i64 u] 3)) (ns2 V v u)
  have c1 := fun (V : World) => dOne 18 (some ⟨V.heap.size, 0, none⟩) 3 [t, u, v] (by simp) (by simp) (V.alloc (.cells #[.int .i64 t, .int .i64 u, .int .i64 v] 3)) (ns3 V t u v)
  have c2 := fun (V : World) => dOne 11 (some ⟨V.heap.size, 0, none⟩) 2 [v, u] (by simp) (by simp) (V.alloc (.cells #[.int .i64 v, .int .i64 u] 3)) (ns2 V v u)
  simp only [List.length_cons, List.length_nil, Nat.zero_add, Nat.reduceAdd] at c0 c1 c2 ⊢
  go_enter Tryz.func14, Tryz.ntmps14
  go_wp2_with (first
    | (go_at_call 30; refine (c0 w).mono ?_; rintro e w1 ⟨a1, d1, rfl, hr1, hb1⟩; have HO1 := hide (HO0.out.snoc (bkp (bnew w (.cells #[.int .i64 v, .int .i64 u] 3)) hb1) HB0.out.size ⟨1, 11, [v, u], 0, -1, 0⟩ (.slice a1 2 d1) (hr1.base (by simp))); have HB1 := hide (bkp HB0.out (bkp (bnew w (.cells #[.int .i64 v, .int .i64 u] 3)) hb1)); clear hr1 hb1 HO0 HB0 c0)
    | (go_at_call 30; refine (c1 w1).mono ?_; rintro e w2 ⟨a2, d2, rfl, hr2, hb2⟩; have HO2 := hide (HO1.out.snoc (bkp (bnew w1 (.cells #[.int .i64 t, .int .i64 u, .int .i64 v] 3)) hb2) HB1.out.size ⟨1, 18, [t, u, v], 0, -1, 0⟩ (.slice a2 3 d2) (hr2.base (by simp))); have HB2 := hide (bkp HB1.out (bkp (bnew w1 (.cells #[.int .i64 t, .int .i64 u, .int .i64 v] 3)) hb2)); clear hr2 hb2 HO1 HB1 c1)
    | (go_at_call 30; refine (c2 w2).mono ?_; rintro e w3 ⟨a3, d3, rfl, hr3, hb3⟩; have HO3 := hide (HO2.out.snoc (bkp (bnew w2 (.cells #[.int .i64 v, .int .i64 u] 3)) hb3) HB2.out.size ⟨1, 11, [v, u], 0, -1, 0⟩ (.slice a3 2 d3) (hr3.base (by simp))); have HB3 := hide (bkp HB2.out (bkp (bnew w2 (.cells #[.int .i64 v, .int .i64 u] 3)) hb3)); clear hr3 hb3 HO2 HB2 c2))
  go_ret
  exact ⟨_, _, rfl, HO3.out.own HB3.out.size (by simp [maxLen]), bkp HB3.out (bnew _ _)⟩
theorem dWd1 (t : Int) (k : Int) (d14 : (k == 14) = false) (d15 : (k == 15) = false) (d16 : (k == 16) = false) (d12 : (k == 12) = false) (d13 : (k == 13) = false) (d17 : (k == 17) = false) (d19 : (k == 19) = false) (d20 : (k == 20) = false) (g off cq : Nat) (w : World) (x0 : w.cell? ⟨g, off, none⟩ = some (.int .i64 t)) : Calls Tryz.prog 14 #[.int .i64 k, .slice (some ⟨g, off, none⟩) 1 cq] w (WPost w [(k, [t])]) := by
  have HO0 : Hid (Os w w.heap.size []) := hide (Os.nil _ _)
  have HB0 : Hid (Below w.heap.size w w) := hide (Below.refl _ _)
  unfold WPost
  have c0 := fun V (h : Below w.heap.size w V) => dOne k (some ⟨g, off, none⟩) cq [t] (by simp) (by simp) V ((ns_at1 w g off t x0).below h)
  simp only [List.length_cons, List.length_nil, Nat.zero_add] at c0 ⊢
  go_enter Tryz.func14, Tryz.ntmps14
  go_wp2_with (first
    | (go_at_call 30; refine (c0 w HB0.out).mono ?_; rintro e w1 ⟨a1, e1, rfl, hr1, hb1⟩; have HO1 := hide (HO0.out.snoc hb1 HB0.out.size ⟨1, k, [t], 0, -1, 0⟩ (.slice a1 1 e1) hr1); have HB1 := hide (bkp HB0.out hb1); clear hr1 hb1 HO0 HB0 c0))
  go_ret
  exact ⟨_, _, rfl, HO1.out.own HB1.out.size (by simp [maxLen]), bkp HB1.out (bnew _ _)⟩
theorem dWd2 (t u : Int) (k : Int) (d14 : (k == 14) = false) (d15 : (k == 15) = false) (d16 : (k == 16) = false) (d12 : (k == 12) = false) (d13 : (k == 13) = false) (d17 : (k == 17) = false) (d19 : (k == 19) = false) (d20 : (k == 20) = false) (g off cq : Nat) (w : World) (x0 : w.cell? ⟨g, off, none⟩ = some (.int .i64 t)) (x1 : w.cell? ⟨g, off + 1, none⟩ = some (.int .i64 u)) : Calls Tryz.prog 14 #[.int .i64 k, .slice (some ⟨g, off, none⟩) 2 cq] w (WPost w [(k, [t, u])]) := by
  have HO0 : Hid (Os w w.heap.size []) := hide (Os.nil _ _)
  have HB0 : Hid (Below w.heap.size w w) := hide (Below.refl _ _)
  unfold WPost
  have c0 := fun V (h : Below w.heap.size w V) => dOne k (some ⟨g, off, none⟩) cq [t, u] (by simp) (by simp) V ((ns_at2 w g off t u x0 x1).below h)
  simp only [List.length_cons, List.length_nil, Nat.zero_add, Nat.reduceAdd] at c0 ⊢
  go_enter Tryz.func14, Tryz.ntmps14
  go_wp2_with (first
    | (go_at_call 30; refine (c0 w HB0.out).mono ?_; rintro e w1 ⟨a1, e1, rfl, hr1, hb1⟩; have HO1 := hide (HO0.out.snoc hb1 HB0.out.size ⟨1, k, [t, u], 0, -1, 0⟩ (.slice a1 2 e1) hr1); have HB1 := hide (bkp HB0.out hb1); clear hr1 hb1 HO0 HB0 c0))
  go_ret
  exact ⟨_, _, rfl, HO1.out.own HB1.out.size (by simp [maxLen]), bkp HB1.out (bnew _ _)⟩
theorem dWd3 (t u v : Int) (k : Int) (d14 : (k == 14) = false) (d15 : (k == 15) = false) (d16 : (k == 16) = false) (d12 : (k == 12) = false) (d13 : (k == 13) = false) (d17 : (k == 17) = false) (d19 : (k == 19) = false) (d20 : (k == 20) = false) (g off cq : Nat) (w : World) (x0 : w.cell? ⟨g, off, none⟩ = some (.int .i64 t)) (x1 : w.cell? ⟨g, off + 1, none⟩ = some (.int .i64 u)) (x2 : w.cell? ⟨g, off + 2, none⟩ = some (.int .i64 v)) : Calls Tryz.prog 14 #[.int .i64 k, .slice (some ⟨g, off, none⟩) 3 cq] w (WPost w [(k, [t, u, v])]) := by
  have HO0 : Hid (Os w w.heap.size []) := hide (Os.nil _ _)
  have HB0 : Hid (Below w.heap.size w w) := hide (Below.refl _ _)
  unfold WPost
  have c0 := fun V (h : Below w.heap.size w V) => dOne k (some ⟨g, off, none⟩) cq [t, u, v] (by simp) (by simp) V ((ns_at3 w g off t u v x0 x1 x2).below h)
  simp only [List.length_cons, List.length_nil, Nat.zero_add, Nat.reduceAdd] at c0 ⊢
  go_enter Tryz.func14, Tryz.ntmps14
  go_wp2_with (first
    | (go_at_call 30; refine (c0 w HB0.out).mono ?_; rintro e w1 ⟨a1, e1, rfl, hr1, hb1⟩; have HO1 := hide (HO0.out.snoc hb1 HB0.out.size ⟨1, k, [t, u, v], 0, -1, 0⟩ (.slice a1 3 e1) hr1); have HB1 := hide (bkp HB0.out hb1); clear hr1 hb1 HO0 HB0 c0))
  go_ret
  exact ⟨_, _, rfl, HO1.out.own HB1.out.size (by simp [maxLen]), bkp HB1.out (bnew _ _)⟩
end Go.Proofs.YtbdphifecjigmaaGreatDoor.Rwt
