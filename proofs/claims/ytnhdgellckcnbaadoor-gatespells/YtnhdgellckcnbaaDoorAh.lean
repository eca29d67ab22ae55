/- Package gate: fill, with product's closure. -/
import Derived.Test.YtnhdgellckcnbaaDoorAg
namespace Go.Proofs.YtnhdgellckcnbaaDoor.Gt
open Go.RowKit Go.Proofs.YtnhdgellckcnbaaDoor.Oct

set_option maxRecDepth 100000 in
set_option maxHeartbeats 2000000 in
theorem gFill_p2 (b0 b1 : Nat) (Q : Nat → Nat × Nat → Prop) (w : World)
    (hc : ∀ wr, Below w.heap.size w wr → ∀ row col : Nat, row < 2 → col < 2 → Calls Tryd.prog 66 #[.int .i64 (row : Int), .int .i64 (col : Int), .pointer (some ⟨b0, 0, none⟩), .pointer (some ⟨b1, 0, none⟩)] wr fun e w' => ∃ p : Nat × Nat, e = .returned (.complex .f64 p.1 p.2) ∧ Q (row * 2 + col) p ∧ Below wr.heap.size wr w') :
    Calls Tryd.prog 27 #[.int .i64 2, .func (.func 66) #[] #[.pointer (some ⟨b0, 0, none⟩), .pointer (some ⟨b1, 0, none⟩)]] w fun e w' => ∃ (g : Nat) (f : Nat → Nat × Nat), e = .returned (.agg #[.int .i64 2, .slice (some ⟨g, 0, none⟩) 4 4]) ∧ Rk w' g 34 4 (fun j => cx (f j)) ∧ (∀ j, j < 4 → Q j (f j)) ∧ w.heap.size ≤ g ∧ Below w.heap.size w w' := by
  have hmk := make_c 4 (by decide)
  simp at hmk
  go_enter Tryd.func27, Tryd.ntmps27
  go_wp2_with fail
  have hR0 := (rk_made (w.alloc (.cells #[.int .i64 0, .slice none 0 0] 25)) 4 34 (.complex .f64 0 0)).below (below_new _ (.cells #[.int .i64 2, .slice (some ⟨w.heap.size + 1, 0, none⟩) 4 4] 25))
  have hb0 := ((below_new w (.cells #[.int .i64 0, .slice none 0 0] 25)).trans ((below_new _ (.cells (madeCells #[.complex .f64 0 0] 4) 34)).mono (by simp))).trans ((below_new _ (.cells #[.int .i64 2, .slice (some ⟨w.heap.size + 1, 0, none⟩) 4 4] 25)).mono (by simp; omega))
  have hr0 : (((w.alloc (.cells #[.int .i64 0, .slice none 0 0] 25)).alloc (.cells (madeCells #[.complex .f64 0 0] 4) 34)).alloc (.cells #[.int .i64 2, .slice (some ⟨w.heap.size + 1, 0, none⟩) 4 4] 25)).heap[w.heap.size]? = some (.cells #[.int .i64 0, .slice none 0 0] 25) := heap3_0 _ _ _ _
  have hm0 : (((w.alloc (.cells #[.int .i64 0, .slice none 0 0] 25)).alloc (.cells (madeCells #[.complex .f64 0 0] 4) 34)).alloc (.cells #[.int .i64 2, .slice (some ⟨w.heap.size + 1, 0, none⟩) 4 4] 25)).heap[w.heap.size + 1 + 1]? = some (.cells #[.int .i64 2, .slice (some ⟨w.heap.size + 1, 0, none⟩) 4 4] 25) := heap3_2 _ _ _ _
  rw [size_alloc w] at hR0
  generalize hW0 : ((w.alloc (.cells #[.int .i64 0, .slice none 0 0] 25)).alloc (.cells (madeCells #[.complex .f64 0 0] 4) 34)).alloc (.cells #[.int .i64 2, .slice (some ⟨w.heap.size + 1, 0, none⟩) 4 4] 25) = W0 at *
  clear hW0 hmk
  go_loopw [6, 16] (fun _ vi wr => ∃ (i : Nat) (f : Nat → Nat × Nat), vi = .int .i64 (i : Int) ∧ i ≤ 4 ∧ Rk wr (w.heap.size + 1) 34 4 (fl' f i) ∧ wr.heap[w.heap.size]? = some (.cells #[.int .i64 0, .slice none 0 0] 25) ∧ wr.heap[w.heap.size + 1 + 1]? = some (.cells #[.int .i64 2, .slice (some ⟨w.heap.size + 1, 0, none⟩) 4 4] 25) ∧ Hid (∀ j, j < i → Q j (f j)) ∧ Below w.heap.size w wr) (fun _ vi _ => 4 - (Go.RowKit.intOf vi).toNat)
  case atStart => exact ⟨0, fun _ => (0, 0), rfl, by omega, hR0, hr0, hm0, hide (fun j hj => absurd hj (by omega)), hb0⟩
  case round =>
    clear hR0 hb0 hr0 hm0
    obtain ⟨i, f, rfl, hi, hR, hr, hm, HQ, hb⟩ := hrel
    by_cases h : i < 4
    · have hd : decide ((i : Int) < 4) = true := decide_eq_true (by omega)
      have hq : (i : Int).tdiv 2 = ((i / 2 : Nat) : Int) := by rw [Int.tdiv_eq_ediv_of_nonneg (by omega)]; omega
      have hmo : (i : Int).tmod 2 = ((i % 2 : Nat) : Int) := by rw [Int.tmod_eq_emod_of_nonneg (by omega)]; omega
      have m0 := cell_of_row _ _ 0 _ _ _ hm
      have m1 := cell_of_row _ _ 1 _ _ _ hm
      simp at m0 m1
      have hbd : i / 2 < 2 := by omega
      have hbm : i % 2 < 2 := by omega
      have hwq : IntKind.i64.wrap ((i : Int) / 2) = ((i / 2 : Nat) : Int) := by rw [wrap_small _ (by omega) (by omega)]; omega
      have hwm : (i : Int) % 2 = ((i % 2 : Nat) : Int) := by omega
      have cc : ∀ W, Below w.heap.size w W → Calls Tryd.prog 66 #[.int .i64 (IntKind.i64.wrap ((i : Int) / 2)), .int .i64 ((i : Int) % 2), .pointer (some ⟨b0, 0, none⟩), .pointer (some ⟨b1, 0, none⟩)] W fun e w' => ∃ p : Nat × Nat, e = .returned (.complex .f64 p.1 p.2) ∧ Q i p ∧ Below W.heap.size W w' := by
        intro W hW
        rw [hwq, hwm]
        have c := hc W hW (i / 2) (i % 2) hbd hbm
        rw [show i / 2 * 2 + i % 2 = i by omega] at c
        exact c
      clear hwq hwm hq hmo
      have hst := store_c
      go_wp2_with fail
      go_region_with (first | (go_at_call 66; refine (cc _ hb.drew).mono ?_; rintro e w1 ⟨p, rfl, hp, hb1⟩; have hR1 : Rk w1 _ _ _ _ := Rk.below (w := wr.drew) hR hb1; have k1 := hR1.cell i h; have k2 := hR1.frozen i; have hm1 := (hb1.block _ (Array.getElem?_eq_some_iff.1 hm).1).trans hm; have hr1 := (hb1.block _ (Array.getElem?_eq_some_iff.1 hr).1).trans hr; have m11 := cell_of_row _ _ 1 _ _ _ hm1; simp only [List.getElem?_toArray, List.getElem?_cons_succ, List.getElem?_cons_zero] at m11))
      all_goals
        have hS := hR1.set i (cx p)
        rw [fl_succ] at hS
        have hr2 := (Below.heap_setCell w1 ⟨w.heap.size + 1, i, none⟩ (cx p) w.heap.size (by simp)).trans hr1
        have hm2 := (Below.heap_setCell w1 ⟨w.heap.size + 1, i, none⟩ (cx p) (w.heap.size + 1 + 1) (by simp)).trans hm1
        have hb2 := (hb.drew.trans (hb1.mono hb.size)).setCell (p := ⟨w.heap.size + 1, i, none⟩) (by simp) (cx p)
        have HQ2 : Hid (∀ j, j < i + 1 → Q j ((fun j => if j = i then p else f j) j)) := hide (fun j hj => by
          by_cases e : j = i
          · subst e; simpa using hp
          · simpa [e] using HQ.out j (by omega))
        clear hR1 hr1 hm1 hb1 hR hr hm hb hp HQ k1 k2 m11 m0 m1 cc hst
        go_wp2_with fail
        exact ⟨⟨i + 1, _, by go_num, by omega, hS, hr2, hm2, HQ2, hb2⟩, by simp [Go.RowKit.intOf]; omega⟩
    · obtain rfl : i = 4 := by omega
      clear hc
      go_wp2_with (first
        | refine wpList_load_row rfl 25 _ rfl (w.heap.size + 1 + 1) rfl 25 _ (0, 0) _ hm Tryd.underlying25 rfl (by exact infoM) ?_
        | refine wpList_store_row rfl _ _ _ rfl w.heap.size _ rfl rfl _ _ hr (by exact infoM) (by rfl) (allM _ _ _ _) ?_)
      refine bodyPost_ret (results_c rfl _ _ w.heap.size _ _ _ _ rfl (setRow_heap _ _ _ _ _ _ hr) Tryd.underlying25 rfl (by exact infoM)) rfl ?_
      refine ⟨w.heap.size + 1, f, rfl, (hR.of_block (setRow_other _ _ _ _ (by omega))).congr (fun j hj => if_pos hj), HQ.out, by omega, below_setRow hb (Nat.le_refl _) _⟩

set_option maxRecDepth 100000 in
set_option maxHeartbeats 2000000 in
theorem gFill_p4 (b0 b1 : Nat) (Q : Nat → Nat × Nat → Prop) (w : World)
    (hc : ∀ wr, Below w.heap.size w wr → ∀ row col : Nat, row < 4 → col < 4 → Calls Tryd.prog 66 #[.int .i64 (row : Int), .int .i64 (col : Int), .pointer (some ⟨b0, 0, none⟩), .pointer (some ⟨b1, 0, none⟩)] wr fun e w' => ∃ p : Nat × Nat, e = .returned (.complex .f64 p.1 p.2) ∧ Q (row * 4 + col) p ∧ Below wr.heap.size wr w') :
    Calls Tryd.prog 27 #[.int .i64 4, .func (.func 66) #[] #[.pointer (some ⟨b0, 0, none⟩), .pointer (some ⟨b1, 0, none⟩)]] w fun e w' => ∃ (g : Nat) (f : Nat → Nat × Nat), e = .returned (.agg #[.int .i64 4, .slice (some ⟨g, 0, none⟩) 16 16]) ∧ Rk w' g 34 16 (fun j => cx (f j)) ∧ (∀ j, j < 16 → Q j (f j)) ∧ w.heap.size ≤ g ∧ Below w.heap.size w w' := by
  have hmk := make_c 16 (by decide)
  simp at hmk
  go_enter Tryd.func27, Tryd.ntmps27
  go_wp2_with fail
  have hR0 := (rk_made (w.alloc (.cells #[.int .i64 0, .slice none 0 0] 25)) 16 34 (.complex .f64 0 0)).below (below_new _ (.cells #[.int .i64 4, .slice (some ⟨w.heap.size + 1, 0, none⟩) 16 16] 25))
  have hb0 := ((below_new w (.cells #[.int .i64 0, .slice none 0 0] 25)).trans ((below_new _ (.cells (madeCells #[.complex .f64 0 0] 16) 34)).mono (by simp))).trans ((below_new _ (.cells #[.int .i64 4, .slice (some ⟨w.heap.size + 1, 0, none⟩) 16 16] 25)).mono (by simp; omega))
  have hr0 : (((w.alloc (.cells #[.int .i64 0, .slice none 0 0] 25)).alloc (.cells (madeCells #[.complex .f64 0 0] 16) 34)).alloc (.cells #[.int .i64 4, .slice (some ⟨w.heap.size + 1, 0, none⟩) 16 16] 25)).heap[w.heap.size]? = some (.cells #[.int .i64 0, .slice none 0 0] 25) := heap3_0 _ _ _ _
  have hm0 : (((w.alloc (.cells #[.int .i64 0, .slice none 0 0] 25)).alloc (.cells (madeCells #[.complex .f64 0 0] 16) 34)).alloc (.cells #[.int .i64 4, .slice (some ⟨w.heap.size + 1, 0, none⟩) 16 16] 25)).heap[w.heap.size + 1 + 1]? = some (.cells #[.int .i64 4, .slice (some ⟨w.heap.size + 1, 0, none⟩) 16 16] 25) := heap3_2 _ _ _ _
  rw [size_alloc w] at hR0
  generalize hW0 : ((w.alloc (.cells #[.int .i64 0, .slice none 0 0] 25)).alloc (.cells (madeCells #[.complex .f64 0 0] 16) 34)).alloc (.cells #[.int .i64 4, .slice (some ⟨w.heap.size + 1, 0, none⟩) 16 16] 25) = W0 at *
  clear hW0 hmk
  go_loopw [6, 16] (fun _ vi wr => ∃ (i : Nat) (f : Nat → Nat × Nat), vi = .int .i64 (i : Int) ∧ i ≤ 16 ∧ Rk wr (w.heap.size + 1) 34 16 (fl' f i) ∧ wr.heap[w.heap.size]? = some (.cells #[.int .i64 0, .slice none 0 0] 25) ∧ wr.heap[w.heap.size + 1 + 1]? = some (.cells #[.int .i64 4, .slice (some ⟨w.heap.size + 1, 0, none⟩) 16 16] 25) ∧ Hid (∀ j, j < i → Q j (f j)) ∧ Below w.heap.size w wr) (fun _ vi _ => 16 - (Go.RowKit.intOf vi).toNat)
  case atStart => exact ⟨0, fun _ => (0, 0), rfl, by omega, hR0, hr0, hm0, hide (fun j hj => absurd hj (by omega)), hb0⟩
  case round =>
    clear hR0 hb0 hr0 hm0
    obtain ⟨i, f, rfl, hi, hR, hr, hm, HQ, hb⟩ := hrel
    by_cases h : i < 16
    · have hd : decide ((i : Int) < 16) = true := decide_eq_true (by omega)
      have hq : (i : Int).tdiv 4 = ((i / 4 : Nat) : Int) := by rw [Int.tdiv_eq_ediv_of_nonneg (by omega)]; omega
      have hmo : (i : Int).tmod 4 = ((i % 4 : Nat) : Int) := by rw [Int.tmod_eq_emod_of_nonneg (by omega)]; omega
      have m0 := cell_of_row _ _ 0 _ _ _ hm
      have m1 := cell_of_row _ _ 1 _ _ _ hm
      simp at m0 m1
      have hbd : i / 4 < 4 := by omega
      have hbm : i % 4 < 4 := by omega
      have hwq : IntKind.i64.wrap ((i : Int) / 4) = ((i / 4 : Nat) : Int) := by rw [wrap_small _ (by omega) (by omega)]; omega
      have hwm : (i : Int) % 4 = ((i % 4 : Nat) : Int) := by omega
      have cc : ∀ W, Below w.heap.size w W → Calls Tryd.prog 66 #[.int .i64 (IntKind.i64.wrap ((i : Int) / 4)), .int .i64 ((i : Int) % 4), .pointer (some ⟨b0, 0, none⟩), .pointer (some ⟨b1, 0, none⟩)] W fun e w' => ∃ p : Nat × Nat, e = .returned (.complex .f64 p.1 p.2) ∧ Q i p ∧ Below W.heap.size W w' := by
        intro W hW
        rw [hwq, hwm]
        have c := hc W hW (i / 4) (i % 4) hbd hbm
        rw [show i / 4 * 4 + i % 4 = i by omega] at c
        exact c
      clear hwq hwm hq hmo
      have hst := store_c
      go_wp2_with fail
      go_region_with (first | (go_at_call 66; refine (cc _ hb.drew).mono ?_; rintro e w1 ⟨p, rfl, hp, hb1⟩; have hR1 : Rk w1 _ _ _ _ := Rk.below (w := wr.drew) hR hb1; have k1 := hR1.cell i h; have k2 := hR1.frozen i; have hm1 := (hb1.block _ (Array.getElem?_eq_some_iff.1 hm).1).trans hm; have hr1 := (hb1.block _ (Array.getElem?_eq_some_iff.1 hr).1).trans hr; have m11 := cell_of_row _ _ 1 _ _ _ hm1; simp only [List.getElem?_toArray, List.getElem?_cons_succ, List.getElem?_cons_zero] at m11))
      all_goals
        have hS := hR1.set i (cx p)
        rw [fl_succ] at hS
        have hr2 := (Below.heap_setCell w1 ⟨w.heap.size + 1, i, none⟩ (cx p) w.heap.size (by simp)).trans hr1
        have hm2 := (Below.heap_setCell w1 ⟨w.heap.size + 1, i, none⟩ (cx p) (w.heap.size + 1 + 1) (by simp)).trans hm1
        have hb2 := (hb.drew.trans (hb1.mono hb.size)).setCell (p := ⟨w.heap.size + 1, i, none⟩) (by simp) (cx p)
        have HQ2 : Hid (∀ j, j < i + 1 → Q j ((fun j => if j = i then p else f j) j)) := hide (fun j hj => by
          by_cases e : j = i
          · subst e; simpa using hp
          · simpa [e] using HQ.out j (by omega))
        clear hR1 hr1 hm1 hb1 hR hr hm hb hp HQ k1 k2 m11 m0 m1 cc hst
        go_wp2_with fail
        exact ⟨⟨i + 1, _, by go_num, by omega, hS, hr2, hm2, HQ2, hb2⟩, by simp [Go.RowKit.intOf]; omega⟩
    · obtain rfl : i = 16 := by omega
      clear hc
      go_wp2_with (first
        | refine wpList_load_row rfl 25 _ rfl (w.heap.size + 1 + 1) rfl 25 _ (0, 0) _ hm Tryd.underlying25 rfl (by exact infoM) ?_
        | refine wpList_store_row rfl _ _ _ rfl w.heap.size _ rfl rfl _ _ hr (by exact infoM) (by rfl) (allM _ _ _ _) ?_)
      refine bodyPost_ret (results_c rfl _ _ w.heap.size _ _ _ _ rfl (setRow_heap _ _ _ _ _ _ hr) Tryd.underlying25 rfl (by exact infoM)) rfl ?_
      refine ⟨w.heap.size + 1, f, rfl, (hR.of_block (setRow_other _ _ _ _ (by omega))).congr (fun j hj => if_pos hj), HQ.out, by omega, below_setRow hb (Nat.le_refl _) _⟩

set_option maxRecDepth 100000 in
set_option maxHeartbeats 2000000 in
theorem gFill_p8 (b0 b1 : Nat) (Q : Nat → Nat × Nat → Prop) (w : World)
    (hc : ∀ wr, Below w.heap.size w wr → ∀ row col : Nat, row < 8 → col < 8 → Calls Tryd.prog 66 #[.int .i64 (row : Int), .int .i64 (col : Int), .pointer (some ⟨b0, 0, none⟩), .pointer (some ⟨b1, 0, none⟩)] wr fun e w' => ∃ p : Nat × Nat, e = .returned (.complex .f64 p.1 p.2) ∧ Q (row * 8 + col) p ∧ Below wr.heap.size wr w') :
    Calls Tryd.prog 27 #[.int .i64 8, .func (.func 66) #[] #[.pointer (some ⟨b0, 0, none⟩), .pointer (some ⟨b1, 0, none⟩)]] w fun e w' => ∃ (g : Nat) (f : Nat → Nat × Nat), e = .returned (.agg #[.int .i64 8, .slice (some ⟨g, 0, none⟩) 64 64]) ∧ Rk w' g 34 64 (fun j => cx (f j)) ∧ (∀ j, j < 64 → Q j (f j)) ∧ w.heap.size ≤ g ∧ Below w.heap.size w w' := by
  have hmk := make_c 64 (by decide)
  simp at hmk
  go_enter Tryd.func27, Tryd.ntmps27
  go_wp2_with fail
  have hR0 := (rk_made (w.alloc (.cells #[.int .i64 0, .slice none 0 0] 25)) 64 34 (.complex .f64 0 0)).below (below_new _ (.cells #[.int .i64 8, .slice (some ⟨w.heap.size + 1, 0, none⟩) 64 64] 25))
  have hb0 := ((below_new w (.cells #[.int .i64 0, .slice none 0 0] 25)).trans ((below_new _ (.cells (madeCells #[.complex .f64 0 0] 64) 34)).mono (by simp))).trans ((below_new _ (.cells #[.int .i64 8, .slice (some ⟨w.heap.size + 1, 0, none⟩) 64 64] 25)).mono (by simp; omega))
  have hr0 : (((w.alloc (.cells #[.int .i64 0, .slice none 0 0] 25)).alloc (.cells (madeCells #[.complex .f64 0 0] 64) 34)).alloc (.cells #[.int .i64 8, .slice (some ⟨w.heap.size + 1, 0, none⟩) 64 64] 25)).heap[w.heap.size]? = some (.cells #[.int .i64 0, .slice none 0 0] 25) := heap3_0 _ _ _ _
  have hm0 : (((w.alloc (.cells #[.int .i64 0, .slice none 0 0] 25)).alloc (.cells (madeCells #[.complex .f64 0 0] 64) 34)).alloc (.cells #[.int .i64 8, .slice (some ⟨w.heap.size + 1, 0, none⟩) 64 64] 25)).heap[w.heap.size + 1 + 1]? = some (.cells #[.int .i64 8, .slice (some ⟨w.heap.size + 1, 0, none⟩) 64 64] 25) := heap3_2 _ _ _ _
  rw [size_alloc w] at hR0
  generalize hW0 : ((w.alloc (.cells #[.int .i64 0, .slice none 0 0] 25)).alloc (.cells (madeCells #[.complex .f64 0 0] 64) 34)).alloc (.cells #[.int .i64 8, .slice (some ⟨w.heap.size + 1, 0, none⟩) 64 64] 25) = W0 at *
  clear hW0 hmk
  go_loopw [6, 16] (fun _ vi wr => ∃ (i : Nat) (f : Nat → Nat × Nat), vi = .int .i64 (i : Int) ∧ i ≤ 64 ∧ Rk wr (w.heap.size + 1) 34 64 (fl' f i) ∧ wr.heap[w.heap.size]? = some (.cells #[.int .i64 0, .slice none 0 0] 25) ∧ wr.heap[w.heap.size + 1 + 1]? = some (.cells #[.int .i64 8, .slice (some ⟨w.heap.size + 1, 0, none⟩) 64 64] 25) ∧ Hid (∀ j, j < i → Q j (f j)) ∧ Below w.heap.size w wr) (fun _ vi _ => 64 - (Go.RowKit.intOf vi).toNat)
  case atStart => exact ⟨0, fun _ => (0, 0), rfl, by omega, hR0, hr0, hm0, hide (fun j hj => absurd hj (by omega)), hb0⟩
  case round =>
    clear hR0 hb0 hr0 hm0
    obtain ⟨i, f, rfl, hi, hR, hr, hm, HQ, hb⟩ := hrel
    by_cases h : i < 64
    · have hd : decide ((i : Int) < 64) = true := decide_eq_true (by omega)
      have hq : (i : Int).tdiv 8 = ((i / 8 : Nat) : Int) := by rw [Int.tdiv_eq_ediv_of_nonneg (by omega)]; omega
      have hmo : (i : Int).tmod 8 = ((i % 8 : Nat) : Int) := by rw [Int.tmod_eq_emod_of_nonneg (by omega)]; omega
      have m0 := cell_of_row _ _ 0 _ _ _ hm
      have m1 := cell_of_row _ _ 1 _ _ _ hm
      simp at m0 m1
      have hbd : i / 8 < 8 := by omega
      have hbm : i % 8 < 8 := by omega
      have hwq : IntKind.i64.wrap ((i : Int) / 8) = ((i / 8 : Nat) : Int) := by rw [wrap_small _ (by omega) (by omega)]; omega
      have hwm : (i : Int) % 8 = ((i % 8 : Nat) : Int) := by omega
      have cc : ∀ W, Below w.heap.size w W → Calls Tryd.prog 66 #[.int .i64 (IntKind.i64.wrap ((i : Int) / 8)), .int .i64 ((i : Int) % 8), .pointer (some ⟨b0, 0, none⟩), .pointer (some ⟨b1, 0, none⟩)] W fun e w' => ∃ p : Nat × Nat, e = .returned (.complex .f64 p.1 p.2) ∧ Q i p ∧ Below W.heap.size W w' := by
        intro W hW
        rw [hwq, hwm]
        have c := hc W hW (i / 8) (i % 8) hbd hbm
        rw [show i / 8 * 8 + i % 8 = i by omega] at c
        exact c
      clear hwq hwm hq hmo
      have hst := store_c
      go_wp2_with fail
      go_region_with (first | (go_at_call 66; refine (cc _ hb.drew).mono ?_; rintro e w1 ⟨p, rfl, hp, hb1⟩; have hR1 : Rk w1 _ _ _ _ := Rk.below (w := wr.drew) hR hb1; have k1 := hR1.cell i h; have k2 := hR1.frozen i; have hm1 := (hb1.block _ (Array.getElem?_eq_some_iff.1 hm).1).trans hm; have hr1 := (hb1.block _ (Array.getElem?_eq_some_iff.1 hr).1).trans hr; have m11 := cell_of_row _ _ 1 _ _ _ hm1; simp only [List.getElem?_toArray, List.getElem?_cons_succ, List.getElem?_cons_zero] at m11))
      all_goals
        have hS := hR1.set i (cx p)
        rw [fl_succ] at hS
        have hr2 := (Below.heap_setCell w1 ⟨w.heap.size + 1, i, none⟩ (cx p) w.heap.size (by simp)).trans hr1
        have hm2 := (Below.heap_setCell w1 ⟨w.heap.size + 1, i, none⟩ (cx p) (w.heap.size + 1 + 1) (by simp)).trans hm1
        have hb2 := (hb.drew.trans (hb1.mono hb.size)).setCell (p := ⟨w.heap.size + 1, i, none⟩) (by simp) (cx p)
        have HQ2 : Hid (∀ j, j < i + 1 → Q j ((fun j => if j = i then p else f j) j)) := hide (fun j hj => by
          by_cases e : j = i
          · subst e; simpa using hp
          · simpa [e] using HQ.out j (by omega))
        clear hR1 hr1 hm1 hb1 hR hr hm hb hp HQ k1 k2 m11 m0 m1 cc hst
        go_wp2_with fail
        exact ⟨⟨i + 1, _, by go_num, by omega, hS, hr2, hm2, HQ2, hb2⟩, by simp [Go.RowKit.intOf]; omega⟩
    · obtain rfl : i = 64 := by omega
      clear hc
      go_wp2_with (first
        | refine wpList_load_row rfl 25 _ rfl (w.heap.size + 1 + 1) rfl 25 _ (0, 0) _ hm Tryd.underlying25 rfl (by exact infoM) ?_
        | refine wpList_store_row rfl _ _ _ rfl w.heap.size _ rfl rfl _ _ hr (by exact infoM) (by rfl) (allM _ _ _ _) ?_)
      refine bodyPost_ret (results_c rfl _ _ w.heap.size _ _ _ _ rfl (setRow_heap _ _ _ _ _ _ hr) Tryd.underlying25 rfl (by exact infoM)) rfl ?_
      refine ⟨w.heap.size + 1, f, rfl, (hR.of_block (setRow_other _ _ _ _ (by omega))).congr (fun j hj => if_pos hj), HQ.out, by omega, below_setRow hb (Nat.le_refl _) _⟩

end Go.Proofs.YtnhdgellckcnbaaDoor.Gt
