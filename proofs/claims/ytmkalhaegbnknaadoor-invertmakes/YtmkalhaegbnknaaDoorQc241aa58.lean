import Derived.Test.YtmkalhaegbnknaaDoorQb5b24ad9
import Derived.Test.YtmkalhaegbnknaaDoorQ3f8b13e0
import Derived.Test.YtmkalhaegbnknaaDoorQ42afcb4a
import Derived.Test.YtmkalhaegbnknaaDoorQf8c21d5e
set_option maxRecDepth 100000
set_option maxHeartbeats 1000000
namespace Go.Proofs.YtmkalhaegbnknaaDoor.Cir
open Go.RowKit Go.Shelf Go.Proofs.YtmkalhaegbnknaaDoor.Oct Go.Proofs.YtmkalhaegbnknaaDoor.Tok Go.Proofs.YtmkalhaegbnknaaDoor.Gt Go.Proofs.YtmkalhaegbnknaaDoor.Rf
theorem wG (kk : Int) (ao : Option Addr) (n c : Nat) (w : World) : Calls Tryd.prog 38 #[.int .i64 kk, .slice ao n c] w fun e w' => e = .returned (.agg #[.int .i64 1, .int .i64 kk, .slice ao n c, .int .i64 0, .int .i64 (-1), .int .i64 0]) /\ Below w.heap.size w w' := by
  have HM : Hid ((w.alloc (.cells #[.int .i64 0, .int .i64 0, .slice none 0 0, .int .i64 0, .int .i64 0, .int .i64 0] 41)).heap[w.heap.size]? = some (.cells #[.int .i64 0, .int .i64 0, .slice none 0 0, .int .i64 0, .int .i64 0, .int .i64 0] 41 (0, 0))) := hide (heap_alloc_new _ _)
  go_enter Tryd.func38, Tryd.ntmps38
  go_wp2_with (refine wpList_store_row rfl _ _ _ rfl w.heap.size _ rfl rfl _ _ HM.out (by exact infoO6) (by rfl) (by simp [Value.oneCell']) ?_)
  refine bodyPost_ret (results_c rfl _ _ w.heap.size _ _ _ _ rfl (setRow_heap _ _ _ _ _ _ HM.out) Tryd.underlying41 rfl (by exact infoO6)) rfl ?_
  exact ⟨rfl, Below.row (bnew _ _) _ _ (Nat.le_refl _)⟩
theorem ns_lit {w : World} {g : Nat} (L : List Int) (h : w.heap[g]? = some (.cells (L.map (Value.int .i64)).toArray 3 (0, 0))) : Ns w (some ⟨g, 0, none⟩) L := .inr ⟨g, 0, rfl, fun j z hj => by
  rw [Nat.zero_add, cell_of_row _ _ _ _ _ _ h]
  simp [hj]⟩
theorem ci_two {w : World} {g g1 g2 : Nat} (h : w.heap[g]? = some (.cells #[.int .i64 1, .int .i64 5, .slice (some ⟨g1, 0, none⟩) 1 1, .int .i64 0, .int .i64 (-1), .int .i64 0, .int .i64 1, .int .i64 11, .slice (some ⟨g2, 0, none⟩) 2 2, .int .i64 0, .int .i64 (-1), .int .i64 0] 41 (0, 0))) (h1 : w.heap[g1]? = some (.cells #[.int .i64 0] 3 (0, 0))) (h2 : w.heap[g2]? = some (.cells #[.int .i64 0, .int .i64 1] 3 (0, 0))) : Ci w (⟨2, 0, [⟨1, 5, [0], 0, -1, 0⟩, ⟨1, 11, [0, 1], 0, -1, 0⟩]⟩ : Circ) (some ⟨g, 0, none⟩) 2 := by
  have key : ∀ j, w.cell? ⟨g, j, none⟩ = (#[.int .i64 1, .int .i64 5, .slice (some ⟨g1, 0, none⟩) 1 1, .int .i64 0, .int .i64 (-1), .int .i64 0, .int .i64 1, .int .i64 11, .slice (some ⟨g2, 0, none⟩) 2 2, .int .i64 0, .int .i64 (-1), .int .i64 0] : Array Value)[j]? := fun j => cell_of_row _ _ _ _ _ _ h
  refine ⟨.inr ⟨g, 0, rfl, fun i o hi => ?_⟩, by decide, by decide, by decide⟩
  match i, hi with
  | 0, hi =>
    simp only [List.getElem?_cons_zero, Option.some.injEq] at hi
    subst hi
    exact ⟨some ⟨g1, 0, none⟩, 1, key 0, key 1, key 2, key 3, key 4, key 5, by decide, ns_lit [0] h1⟩
  | 1, hi =>
    simp only [List.getElem?_cons_succ, List.getElem?_cons_zero, Option.some.injEq] at hi
    subst hi
    exact ⟨some ⟨g2, 0, none⟩, 2, key 6, key 7, key 8, key 9, key 10, key 11, by decide, ns_lit [0, 1] h2⟩
  | i + 2, hi => simp at hi
theorem ci_one {w : World} {g g1 : Nat} (qq kk : Int) (L : List Int) (m : Nat) (hm : L.length = m) (hl : m <= 64) (h : w.heap[g]? = some (.cells #[.int .i64 1, .int .i64 kk, .slice (some ⟨g1, 0, none⟩) m m, .int .i64 0, .int .i64 (-1), .int .i64 0] 41 (0, 0))) (h1 : w.heap[g1]? = some (.cells (L.map (Value.int .i64)).toArray 3 (0, 0))) : Ci w ⟨qq, 0, [⟨1, kk, L, 0, -1, 0⟩]⟩ (some ⟨g, 0, none⟩) 1 := by
  subst hm
  have key : ∀ j, w.cell? ⟨g, j, none⟩ = (#[.int .i64 1, .int .i64 kk, .slice (some ⟨g1, 0, none⟩) L.length L.length, .int .i64 0, .int .i64 (-1), .int .i64 0] : Array Value)[j]? := fun j => cell_of_row _ _ _ _ _ _ h
  refine ⟨.inr ⟨g, 0, rfl, fun i o hi => ?_⟩, Nat.le_refl _, by simp, fun o ho => by simp only [List.mem_singleton] at ho; subst ho; simp only; omega⟩
  match i, hi with
  | 0, hi =>
    simp only [List.getElem?_cons_zero, Option.some.injEq] at hi
    subst hi
    exact ⟨some ⟨g1, 0, none⟩, L.length, key 0, key 1, key 2, key 3, key 4, key 5, Nat.le_refl _, ns_lit L h1⟩
  | i + 1, hi => simp at hi
theorem hd1 : ivP (⟨2, 0, [⟨1, 5, [0], 0, -1, 0⟩, ⟨1, 11, [0, 1], 0, -1, 0⟩]⟩ : Circ) = (⟨2, 0, [⟨1, 11, [0, 1], 0, -1, 0⟩, ⟨1, 6, [0], 0, -1, 0⟩]⟩, 0) := by decide +kernel
theorem hd2 : (cjP (⟨1, 0, [⟨1, 3, [0], 0, -1, 0⟩]⟩ : Circ)).2 = 0 /\ (cjP (⟨1, 0, [⟨1, 3, [0], 0, -1, 0⟩]⟩ : Circ)).1.ops.length = 5 := by decide +kernel
theorem hd3 : (poP (⟨2, 0, [⟨1, 5, [0], 0, -1, 0⟩, ⟨1, 11, [0, 1], 0, -1, 0⟩]⟩ : Circ) (-2)).2 = 0 /\ (poP (⟨2, 0, [⟨1, 5, [0], 0, -1, 0⟩, ⟨1, 11, [0, 1], 0, -1, 0⟩]⟩ : Circ) (-2)).1.ops.length = 4 := by decide +kernel
theorem hd4 : (miP (⟨2, 0, [⟨1, 5, [0], 0, -1, 0⟩, ⟨1, 11, [0, 1], 0, -1, 0⟩]⟩ : Circ)).2 = 0 /\ (miP (⟨2, 0, [⟨1, 5, [0], 0, -1, 0⟩, ⟨1, 11, [0, 1], 0, -1, 0⟩]⟩ : Circ)).1.ops.length = 4 := by decide +kernel
theorem hd5 : ctP (⟨2, 0, [⟨1, 14, [0, 1], 0, -1, 0⟩]⟩ : Circ) = (⟨3, 0, [⟨1, 20, [2, 0, 1], 0, -1, 0⟩]⟩, 0) := by decide +kernel
theorem hd6 : ctP (⟨2, 0, [⟨1, 5, [0], 0, -1, 0⟩, ⟨1, 11, [0, 1], 0, -1, 0⟩]⟩ : Circ) = (nulC, 170) := by decide +kernel
theorem szC : Szs (⟨2, 0, [⟨1, 5, [0], 0, -1, 0⟩, ⟨1, 11, [0, 1], 0, -1, 0⟩]⟩ : Circ).ops := ⟨by decide, by decide⟩
theorem OpsOwn.gates {w : World} {B n c : Nat} {ao : Option Addr} {l : List COp} (h : OpsOwn w B ao n c l) (h0 : 0 < n) : ∃ g, ao = some ⟨g, 0, none⟩ /\ g < w.heap.size /\ ∀ i o, l[i]? = some o -> w.cell? ⟨g, i * 6 + 1, none⟩ = some (.int .i64 o.gate) := by
  obtain ⟨g, rfl⟩ : ∃ g, ao = some ⟨g, 0, none⟩ := by
    obtain ⟨xs, e1, e2, e3, -⟩ := h
    obtain ⟨g, e, -⟩ := own_some e3 h0
    exact ⟨g, e⟩
  refine ⟨g, rfl, ?_, fun i o hi => (h.gate1 hi).2.2.1⟩
  obtain ⟨xs, e1, e2, e3, -⟩ := h
  exact (own_lt e3 g rfl).2
theorem wHeads (w : World) (hT : Ti w) : Calls Tryd.prog 17 #[] w fun e w' => e = .returned (.bool true) /\ Below w.heap.size w w' := by
  have P1 := hide (fun V (h : Below w.heap.size w V) xo xj (hx : Ci V (⟨2, 0, [⟨1, 5, [0], 0, -1, 0⟩, ⟨1, 11, [0, 1], 0, -1, 0⟩]⟩ : Circ) xo xj) => iInverse (⟨2, 0, [⟨1, 5, [0], 0, -1, 0⟩, ⟨1, 11, [0, 1], 0, -1, 0⟩]⟩ : Circ) xo xj szC V (hT.below h).tb hx)
  have P2 := hide (fun V (h : Below w.heap.size w V) xo xj (hx : Ci V (⟨1, 0, [⟨1, 3, [0], 0, -1, 0⟩]⟩ : Circ) xo xj) => iConj (⟨1, 0, [⟨1, 3, [0], 0, -1, 0⟩]⟩ : Circ) xo xj V (hT.below h) hx)
  have P3 := hide (fun V (h : Below w.heap.size w V) xo xj (hx : Ci V (⟨2, 0, [⟨1, 5, [0], 0, -1, 0⟩, ⟨1, 11, [0, 1], 0, -1, 0⟩]⟩ : Circ) xo xj) => iPower (⟨2, 0, [⟨1, 5, [0], 0, -1, 0⟩, ⟨1, 11, [0, 1], 0, -1, 0⟩]⟩ : Circ) xo xj (-2) szC V (hT.below h).tb hx)
  have P4 := hide (fun V (h : Below w.heap.size w V) xo xj (hx : Ci V (⟨2, 0, [⟨1, 5, [0], 0, -1, 0⟩, ⟨1, 11, [0, 1], 0, -1, 0⟩]⟩ : Circ) xo xj) => iMirror (⟨2, 0, [⟨1, 5, [0], 0, -1, 0⟩, ⟨1, 11, [0, 1], 0, -1, 0⟩]⟩ : Circ) xo xj szC V (hT.below h).tb hx)
  have P5 := hide (fun V (h : Below w.heap.size w V) xo xj (hx : Ci V (⟨2, 0, [⟨1, 14, [0, 1], 0, -1, 0⟩]⟩ : Circ) xo xj) => iControl (⟨2, 0, [⟨1, 14, [0, 1], 0, -1, 0⟩]⟩ : Circ) xo xj V (hT.below h) hx)
  have P6 := hide (fun V (h : Below w.heap.size w V) xo xj (hx : Ci V (⟨2, 0, [⟨1, 5, [0], 0, -1, 0⟩, ⟨1, 11, [0, 1], 0, -1, 0⟩]⟩ : Circ) xo xj) => iControl (⟨2, 0, [⟨1, 5, [0], 0, -1, 0⟩, ⟨1, 11, [0, 1], 0, -1, 0⟩]⟩ : Circ) xo xj V (hT.below h) hx)
  rw [hd1] at P1
  rw [hd5] at P5
  rw [hd6] at P6
  have h2 := hd2
  have h3 := hd3
  have h4 := hd4
  generalize cjP (⟨1, 0, [⟨1, 3, [0], 0, -1, 0⟩]⟩ : Circ) = R2 at *
  generalize poP (⟨2, 0, [⟨1, 5, [0], 0, -1, 0⟩, ⟨1, 11, [0, 1], 0, -1, 0⟩]⟩ : Circ) (-2) = R3 at *
  generalize miP (⟨2, 0, [⟨1, 5, [0], 0, -1, 0⟩, ⟨1, 11, [0, 1], 0, -1, 0⟩]⟩ : Circ) = R4 at *
  obtain ⟨⟨q2, b2, l2⟩, e2⟩ := R2
  obtain ⟨⟨q3, b3, l3⟩, e3⟩ := R3
  obtain ⟨⟨q4, b4, l4⟩, e4⟩ := R4
  simp only at h2 h3 h4
  obtain ⟨rfl, h2⟩ := h2
  obtain ⟨rfl, h3⟩ := h3
  obtain ⟨rfl, h4⟩ := h4
  unfold cV nulC at *
  simp only [List.length_cons, List.length_nil, Nat.zero_add, Nat.reduceAdd] at *
  rw [h2] at P2
  rw [h3] at P3
  rw [h4] at P4
  clear h2 h3 h4 hT
  have HBa : Hid (Below w.heap.size w (w.alloc (.cells #[.int .i64 0] 3)) /\ (w.alloc (.cells #[.int .i64 0] 3)).heap[w.heap.size]? = some (.cells #[.int .i64 0] 3)) := hide ⟨bnew _ _, heap_alloc_new _ _⟩
  go_enter Tryd.func17, Tryd.ntmps17
  go_wp2_with (first
    | (go_at_call 38; (with_reducible refine Calls.mono (wG 5 _ _ _ _) ?_); rintro e w1 ⟨rfl, hb1⟩; have HB1 := hide (HBa.out.1.trans (hb1.mono HBa.out.1.size)); have HF1 := hide ((hb1.block w.heap.size (by simp)).trans HBa.out.2); clear hb1)
    | (go_at_call 38; (with_reducible refine Calls.mono (wG 11 _ _ _ _) ?_); rintro e w2 ⟨rfl, hb2⟩; have ha := (bnew w1 (.cells #[.int .i64 0, .int .i64 1] 3)).trans (hb2.mono (bnew w1 (.cells #[.int .i64 0, .int .i64 1] 3)).size); have HB2 := hide (HB1.out.trans (ha.mono HB1.out.size)); have HF1b := hide ((ha.block _ (Array.getElem?_eq_some_iff.1 HF1.out).1).trans HF1.out); have HF2 := hide ((hb2.block w1.heap.size (by simp)).trans (heap_alloc_new w1 (.cells #[.int .i64 0, .int .i64 1] 3))); have HV0 : Hid (Below w2.heap.size w2 ((w2.alloc (.cells #[.int .i64 1, .int .i64 5, .slice (some ⟨w.heap.size, 0, none⟩) 1 1, .int .i64 0, .int .i64 (-1), .int .i64 0, .int .i64 1, .int .i64 11, .slice (some ⟨w1.heap.size, 0, none⟩) 2 2, .int .i64 0, .int .i64 (-1), .int .i64 0] 41)).alloc (.cells #[.int .i64 2, .int .i64 0, .slice (some ⟨w2.heap.size, 0, none⟩) 2 2] 24))) := hide ((bnew _ _).trans ((bnew _ _).mono (by simp))); have HR2 : Hid (((w2.alloc (.cells #[.int .i64 1, .int .i64 5, .slice (some ⟨w.heap.size, 0, none⟩) 1 1, .int .i64 0, .int .i64 (-1), .int .i64 0, .int .i64 1, .int .i64 11, .slice (some ⟨w1.heap.size, 0, none⟩) 2 2, .int .i64 0, .int .i64 (-1), .int .i64 0] 41)).alloc (.cells #[.int .i64 2, .int .i64 0, .slice (some ⟨w2.heap.size, 0, none⟩) 2 2] 24)).heap[w2.heap.size]? = some (.cells #[.int .i64 1, .int .i64 5, .slice (some ⟨w.heap.size, 0, none⟩) 1 1, .int .i64 0, .int .i64 (-1), .int .i64 0, .int .i64 1, .int .i64 11, .slice (some ⟨w1.heap.size, 0, none⟩) 2 2, .int .i64 0, .int .i64 (-1), .int .i64 0] 41)) := hide ((Below.heap_alloc _ _ _ (by simp)).trans (heap_alloc_new _ _)); have HCi : Hid (Ci ((w2.alloc (.cells #[.int .i64 1, .int .i64 5, .slice (some ⟨w.heap.size, 0, none⟩) 1 1, .int .i64 0, .int .i64 (-1), .int .i64 0, .int .i64 1, .int .i64 11, .slice (some ⟨w1.heap.size, 0, none⟩) 2 2, .int .i64 0, .int .i64 (-1), .int .i64 0] 41)).alloc (.cells #[.int .i64 2, .int .i64 0, .slice (some ⟨w2.heap.size, 0, none⟩) 2 2] 24)) (⟨2, 0, [⟨1, 5, [0], 0, -1, 0⟩, ⟨1, 11, [0, 1], 0, -1, 0⟩]⟩ : Circ) (some ⟨w2.heap.size, 0, none⟩) 2) := hide (ci_two HR2.out ((HV0.out.block _ (Array.getElem?_eq_some_iff.1 HF1b.out).1).trans HF1b.out) ((HV0.out.block _ (Array.getElem?_eq_some_iff.1 HF2.out).1).trans HF2.out)); have HBV := hide (HB2.out.trans (HV0.out.mono HB2.out.size)); have HCB : Hid (((w2.alloc (.cells #[.int .i64 1, .int .i64 5, .slice (some ⟨w.heap.size, 0, none⟩) 1 1, .int .i64 0, .int .i64 (-1), .int .i64 0, .int .i64 1, .int .i64 11, .slice (some ⟨w1.heap.size, 0, none⟩) 2 2, .int .i64 0, .int .i64 (-1), .int .i64 0] 41)).alloc (.cells #[.int .i64 2, .int .i64 0, .slice (some ⟨w2.heap.size, 0, none⟩) 2 2] 24)).heap[w2.heap.size + 1]? = some (.cells #[.int .i64 2, .int .i64 0, .slice (some ⟨w2.heap.size, 0, none⟩) 2 2] 24)) := hide (by have := heap_alloc_new (w2.alloc (.cells #[.int .i64 1, .int .i64 5, .slice (some ⟨w.heap.size, 0, none⟩) 1 1, .int .i64 0, .int .i64 (-1), .int .i64 0, .int .i64 1, .int .i64 11, .slice (some ⟨w1.heap.size, 0, none⟩) 2 2, .int .i64 0, .int .i64 (-1), .int .i64 0] 41)) (.cells #[.int .i64 2, .int .i64 0, .slice (some ⟨w2.heap.size, 0, none⟩) 2 2] 24); simpa using this); clear hb2 ha)
    | (go_at_call 5; (with_reducible refine Calls.mono (P1.out _ HBV.out _ _ HCi.out) ?_); rintro e w3 ⟨bo1, j1, rfl, hO1, hb3⟩; obtain ⟨ga, rfl, hga, hgt⟩ := hO1.gates (by decide); have hg0 := hgt 0 _ rfl; have hg1 := hgt 1 _ rfl; have HG0 := hide hg0; have HG1 := hide hg1; have HW3 := hide hb3; have HBW3 := hide (HBV.out.trans (hb3.mono HBV.out.size)); have HS3 : Hid (Below w3.heap.size w3 (w3.alloc (.cells #[.int .i64 2, .int .i64 0, .slice (some ⟨ga, 0, none⟩) 2 j1] 24))) := hide (bnew _ _); clear hO1 hb3 hgt hg0 hg1)
    | (go_at_call 38; (with_reducible refine Calls.mono (wG 3 _ _ _ _) ?_); rintro e w4 ⟨rfl, hb4⟩; have ha := (HS3.out.trans ((bnew (w3.alloc (.cells #[.int .i64 2, .int .i64 0, .slice (some ⟨ga, 0, none⟩) 2 j1] 24)) (.cells #[.int .i64 0] 3)).mono HS3.out.size)).trans (hb4.mono (HS3.out.trans ((bnew (w3.alloc (.cells #[.int .i64 2, .int .i64 0, .slice (some ⟨ga, 0, none⟩) 2 j1] 24)) (.cells #[.int .i64 0] 3)).mono HS3.out.size)).size); have HW4 := hide ha; have HF4 : Hid (w4.heap[w3.heap.size + 1]? = some (.cells #[.int .i64 0] 3)) := hide ((hb4.block _ (by simp)).trans (by have := heap_alloc_new (w3.alloc (.cells #[.int .i64 2, .int .i64 0, .slice (some ⟨ga, 0, none⟩) 2 j1] 24)) (.cells #[.int .i64 0] 3); simpa using this)); have HX3 : Hid (w4.heap[w3.heap.size]? = some (.cells #[.int .i64 2, .int .i64 0, .slice (some ⟨ga, 0, none⟩) 2 j1] 24)) := hide ((hb4.block _ (by simp; omega)).trans ((Below.heap_alloc _ _ _ (by simp)).trans (heap_alloc_new _ _))); have HBW4 := hide (HBW3.out.trans (ha.mono HBW3.out.size)); clear hb4 ha))
  have hRY : Below w4.heap.size w4 (w4.alloc (.cells #[.int .i64 1, .int .i64 3, .slice (some ⟨(w3.heap.size + 1), 0, none⟩) 1 1, .int .i64 0, .int .i64 (-1), .int .i64 0] 41)) := bnew _ _
  have hF4 := (hRY.block _ (Array.getElem?_eq_some_iff.1 HF4.out).1).trans HF4.out
  refine Calls.mono (P2.out (w4.alloc (.cells #[.int .i64 1, .int .i64 3, .slice (some ⟨(w3.heap.size + 1), 0, none⟩) 1 1, .int .i64 0, .int .i64 (-1), .int .i64 0] 41)) (HBW4.out.trans (hRY.mono HBW4.out.size)) _ _ (ci_one 1 3 [0] 1 rfl (by decide) (heap_alloc_new _ _) hF4)) ?_
  rintro e w5 ⟨bo2, j2, rfl, hO2, hb5⟩
  have h45 := hRY.trans (hb5.mono hRY.size)
  have h35 := HW4.out.trans (h45.mono HW4.out.size)
  have hV5 := HW3.out.trans (h35.mono HW3.out.size)
  have HK5 := hide hV5
  have HA5 := hide ((h45.block _ (Array.getElem?_eq_some_iff.1 HX3.out).1).trans HX3.out)
  have HGa5 := hide (cell_below HG0.out h35)
  have HGb5 := hide (cell_below HG1.out h35)
  have HB5 := hide (HBV.out.trans (hV5.mono HBV.out.size))
  have hcb := (hV5.block _ (Array.getElem?_eq_some_iff.1 HCB.out).1).trans HCB.out
  have hga5 : ga < w5.heap.size := Nat.lt_of_lt_of_le hga h35.size
  obtain ⟨x0, x1, x2, x3⟩ := def_cells hcb
  clear hRY hF4 hO2 hb5 h45 h35 hV5 hcb HW3 HW4 HBW3 HBW4 HF4 HX3 HG0 HG1 HS3 HF1 HF1b HF2 HBa HB1 HB2 HV0 HR2 P1 P2
  have HCI := hide (fun V (h : Below ((w2.alloc (.cells #[.int .i64 1, .int .i64 5, .slice (some ⟨w.heap.size, 0, none⟩) 1 1, .int .i64 0, .int .i64 (-1), .int .i64 0, .int .i64 1, .int .i64 11, .slice (some ⟨w1.heap.size, 0, none⟩) 2 2, .int .i64 0, .int .i64 (-1), .int .i64 0] 41)).alloc (.cells #[.int .i64 2, .int .i64 0, .slice (some ⟨w2.heap.size, 0, none⟩) 2 2] 24)).heap.size ((w2.alloc (.cells #[.int .i64 1, .int .i64 5, .slice (some ⟨w.heap.size, 0, none⟩) 1 1, .int .i64 0, .int .i64 (-1), .int .i64 0, .int .i64 1, .int .i64 11, .slice (some ⟨w1.heap.size, 0, none⟩) 2 2, .int .i64 0, .int .i64 (-1), .int .i64 0] 41)).alloc (.cells #[.int .i64 2, .int .i64 0, .slice (some ⟨w2.heap.size, 0, none⟩) 2 2] 24)) V) => HCi.out.below h)
  have HCBk := hide (fun V (h : Below ((w2.alloc (.cells #[.int .i64 1, .int .i64 5, .slice (some ⟨w.heap.size, 0, none⟩) 1 1, .int .i64 0, .int .i64 (-1), .int .i64 0, .int .i64 1, .int .i64 11, .slice (some ⟨w1.heap.size, 0, none⟩) 2 2, .int .i64 0, .int .i64 (-1), .int .i64 0] 41)).alloc (.cells #[.int .i64 2, .int .i64 0, .slice (some ⟨w2.heap.size, 0, none⟩) 2 2] 24)).heap.size ((w2.alloc (.cells #[.int .i64 1, .int .i64 5, .slice (some ⟨w.heap.size, 0, none⟩) 1 1, .int .i64 0, .int .i64 (-1), .int .i64 0, .int .i64 1, .int .i64 11, .slice (some ⟨w1.heap.size, 0, none⟩) 2 2, .int .i64 0, .int .i64 (-1), .int .i64 0] 41)).alloc (.cells #[.int .i64 2, .int .i64 0, .slice (some ⟨w2.heap.size, 0, none⟩) 2 2] 24)) V) => (h.block _ (Array.getElem?_eq_some_iff.1 HCB.out).1).trans HCB.out)
  clear HCi HCB
  generalize ((w2.alloc (.cells #[.int .i64 1, .int .i64 5, .slice (some ⟨w.heap.size, 0, none⟩) 1 1, .int .i64 0, .int .i64 (-1), .int .i64 0, .int .i64 1, .int .i64 11, .slice (some ⟨w1.heap.size, 0, none⟩) 2 2, .int .i64 0, .int .i64 (-1), .int .i64 0] 41)).alloc (.cells #[.int .i64 2, .int .i64 0, .slice (some ⟨w2.heap.size, 0, none⟩) 2 2] 24)) = W0 at *
  generalize w2.heap.size = Y2 at *
  generalize w3.heap.size = Y3 at *
  have HU5 : Hid (Below w5.heap.size w5 (w5.alloc (.cells #[.int .i64 q2, .int .i64 b2, .slice bo2 5 j2] 24))) := hide (bnew _ _)
  go_wp2_with (first
    | (go_at_call 12; (with_reducible refine Calls.mono (P3.out _ (HB5.out.trans (HU5.out.mono HB5.out.size)) _ _ (HCI.out _ (HK5.out.trans (HU5.out.mono HK5.out.size)))) ?_); rintro e w6 ⟨bo3, j3, rfl, hO3, hb6⟩; have h56 := HU5.out.trans (hb6.mono HU5.out.size); have HX5 := hide ((hb6.block w5.heap.size (by simp)).trans (heap_alloc_new w5 (.cells #[.int .i64 q2, .int .i64 b2, .slice bo2 5 j2] 24))); have HK6 := hide (HK5.out.trans (h56.mono HK5.out.size)); have HB6 := hide (HB5.out.trans (h56.mono HB5.out.size)); have H56 := hide h56; have hcb := HCBk.out _ HK6.out; obtain ⟨y0, y1, y2, y3⟩ := def_cells hcb; have HU6 : Hid (Below w6.heap.size w6 (w6.alloc (.cells #[.int .i64 q3, .int .i64 b3, .slice bo3 4 j3] 24))) := hide (bnew _ _); clear hO3 hb6 h56 hcb)
    | (go_at_call 10; (with_reducible refine Calls.mono (P4.out _ (HB6.out.trans (HU6.out.mono HB6.out.size)) _ _ (HCI.out _ (HK6.out.trans (HU6.out.mono HK6.out.size)))) ?_); rintro e w7 ⟨bo4, j4, rfl, hO4, hb7⟩; have h67 := HU6.out.trans (hb7.mono HU6.out.size); have HX6 := hide ((hb7.block w6.heap.size (by simp)).trans (heap_alloc_new w6 (.cells #[.int .i64 q3, .int .i64 b3, .slice bo3 4 j3] 24))); have HK7 := hide (HK6.out.trans (h67.mono HK6.out.size)); have HB7 := hide (HB6.out.trans (h67.mono HB6.out.size)); have H67 := hide h67; have HU7 : Hid (Below w7.heap.size w7 (w7.alloc (.cells #[.int .i64 q4, .int .i64 b4, .slice bo4 4 j4] 24))) := hide (bnew _ _); clear hO4 hb7 h67)
    | (go_at_call 38; (with_reducible refine Calls.mono (wG 14 _ _ _ _) ?_); rintro e w8 ⟨rfl, hb8⟩; have ha := (HU7.out.trans ((bnew (w7.alloc (.cells #[.int .i64 q4, .int .i64 b4, .slice bo4 4 j4] 24)) (.cells #[.int .i64 0, .int .i64 1] 3)).mono HU7.out.size)).trans (hb8.mono (HU7.out.trans ((bnew (w7.alloc (.cells #[.int .i64 q4, .int .i64 b4, .slice bo4 4 j4] 24)) (.cells #[.int .i64 0, .int .i64 1] 3)).mono HU7.out.size)).size); have H78 := hide ha; have HF8 : Hid (w8.heap[w7.heap.size + 1]? = some (.cells #[.int .i64 0, .int .i64 1] 3)) := hide ((hb8.block _ (by simp)).trans (by have := heap_alloc_new (w7.alloc (.cells #[.int .i64 q4, .int .i64 b4, .slice bo4 4 j4] 24)) (.cells #[.int .i64 0, .int .i64 1] 3); simpa using this)); have HX7 : Hid (w8.heap[w7.heap.size]? = some (.cells #[.int .i64 q4, .int .i64 b4, .slice bo4 4 j4] 24)) := hide ((hb8.block _ (by simp; omega)).trans ((Below.heap_alloc _ _ _ (by simp)).trans (heap_alloc_new _ _))); have HB8 := hide (HB7.out.trans (ha.mono HB7.out.size)); clear hb8 ha))
  have hRS : Below w8.heap.size w8 (w8.alloc (.cells #[.int .i64 1, .int .i64 14, .slice (some ⟨(w7.heap.size + 1), 0, none⟩) 2 2, .int .i64 0, .int .i64 (-1), .int .i64 0] 41)) := bnew _ _
  have hF8 := (hRS.block _ (Array.getElem?_eq_some_iff.1 HF8.out).1).trans HF8.out
  refine Calls.mono (P5.out (w8.alloc (.cells #[.int .i64 1, .int .i64 14, .slice (some ⟨(w7.heap.size + 1), 0, none⟩) 2 2, .int .i64 0, .int .i64 (-1), .int .i64 0] 41)) (HB8.out.trans (hRS.mono HB8.out.size)) _ _ (ci_one 2 14 [0, 1] 2 rfl (by decide) (heap_alloc_new _ _) hF8)) ?_
  rintro e w9 ⟨bo5, j5, rfl, hO5, hb9⟩
  obtain ⟨gx, rfl, hgx, hgt⟩ := hO5.gates (by decide)
  have h89 := hRS.trans (hb9.mono hRS.size)
  have h79 := H78.out.trans (h89.mono H78.out.size)
  have h69 := H67.out.trans (h79.mono H67.out.size)
  have h59 := H56.out.trans (h69.mono H56.out.size)
  have hU9 : Below w9.heap.size w9 (w9.alloc (.cells #[.int .i64 3, .int .i64 0, .slice (some ⟨gx, 0, none⟩) 1 j5] 24)) := bnew _ _
  have hK9 := (HK7.out.trans (h79.mono HK7.out.size))
  have hB9 := (HB7.out.trans (h79.mono HB7.out.size))
  have HK9 := hide (hK9.trans (hU9.mono hK9.size))
  have HB9 := hide (hB9.trans (hU9.mono hB9.size))
  have HA9 := hide ((h59.block _ (Array.getElem?_eq_some_iff.1 HA5.out).1).trans HA5.out)
  have HX59 := hide ((h69.block _ (Array.getElem?_eq_some_iff.1 HX5.out).1).trans HX5.out)
  have HX69 := hide ((h79.block _ (Array.getElem?_eq_some_iff.1 HX6.out).1).trans HX6.out)
  have HX79 := hide ((h89.block _ (Array.getElem?_eq_some_iff.1 HX7.out).1).trans HX7.out)
  have HGa9 := hide (cell_below HGa5.out h59)
  have HGb9 := hide (cell_below HGb5.out h59)
  have HGx9 := hide (hgt 0 _ rfl)
  have hcb9 := (hU9.block _ (Array.getElem?_eq_some_iff.1 (HCBk.out _ hK9)).1).trans (HCBk.out _ hK9)
  obtain ⟨z0, z1, z2, z3⟩ := def_cells (HCBk.out _ hK9)
  have HU9 := hide hU9
  clear hRS hF8 hO5 hb9 hgt h89 h79 h69 h59 hU9 hK9 hB9 hcb9 x0 x1 x2 x3 y0 y1 y2 y3 HF8 HX5 HX6 HX7 H56 H67 H78 HB5 HB6 HB7 HB8 HK5 HK6 HK7 HU5 HU6 HU7 HA5 HGa5 HGb5 P3 P4 P5
  go_wp2_with (go_at_call 14; (with_reducible refine Calls.mono (P6.out _ HB9.out _ _ (HCI.out _ HK9.out)) ?_); rintro e w10 ⟨bo6, j6, rfl, hO6, hb10⟩; have h910 := HU9.out.trans (hb10.mono HU9.out.size); have t1 := (h910.block _ (Array.getElem?_eq_some_iff.1 HA9.out).1).trans HA9.out; have t2 := (h910.block _ (Array.getElem?_eq_some_iff.1 HX59.out).1).trans HX59.out; have t3 := (h910.block _ (Array.getElem?_eq_some_iff.1 HX69.out).1).trans HX69.out; have t4 := (h910.block _ (Array.getElem?_eq_some_iff.1 HX79.out).1).trans HX79.out; have t5 := (hb10.block w9.heap.size (by simp)).trans (heap_alloc_new w9 (.cells #[.int .i64 3, .int .i64 0, .slice (some ⟨gx, 0, none⟩) 1 j5] 24)); obtain ⟨a0, a1, a2, a3⟩ := def_cells t1; obtain ⟨b0', b1', b2', b3'⟩ := def_cells t2; obtain ⟨c0', c1', c2', c3'⟩ := def_cells t3; obtain ⟨d0', d1', d2', d3'⟩ := def_cells t4; obtain ⟨f0', f1', f2', f3'⟩ := def_cells t5; have g0' := cell_below HGa9.out h910; have g1' := cell_below HGb9.out h910; have gx0' := cell_below HGx9.out h910; have lga := World.block_lt_of_cell? _ _ g0'; have lgx := World.block_lt_of_cell? _ _ gx0'; have HBF := hide (HB9.out.trans (hb10.mono HB9.out.size)); simp only [Nat.zero_mul, Nat.one_mul, Nat.zero_add, Nat.reduceAdd] at g0' g1' gx0'; clear hO6 hb10 h910 t1 t2 t3 t4 t5)
  go_ret
  exact ⟨rfl, HBF.out.trans ((bnew _ _).mono HBF.out.size)⟩
end Go.Proofs.YtmkalhaegbnknaaDoor.Cir
