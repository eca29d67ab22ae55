import Derived.Test.YtnghfdnlcnocjaaGreatDoorE5d5b85e9
set_option maxRecDepth 100000
set_option maxHeartbeats 4000000
namespace Go.Proofs.YtnghfdnlcnocjaaGreatDoor.Cir
open Go.RowKit Go.Shelf Go.Proofs.YtnghfdnlcnocjaaGreatDoor.Oct Go.Proofs.YtnghfdnlcnocjaaGreatDoor.Tok Go.Proofs.YtnghfdnlcnocjaaGreatDoor.Gt
theorem two_new (w : World) (c1 c2 : Array Value) (t1 t2 : TypeId) : Below w.heap.size w ((w.alloc (.cells c1 t1)).alloc (.cells c2 t2)) /\ ((w.alloc (.cells c1 t1)).alloc (.cells c2 t2)).heap[w.heap.size]? = some (.cells c1 t1 (0, 0)) /\ ((w.alloc (.cells c1 t1)).alloc (.cells c2 t2)).heap[w.heap.size + 1]? = some (.cells c2 t2 (0, 0)) := by
  obtain ⟨h1, h2⟩ := may_keep (Below.refl ((w.alloc (.cells c1 t1)).alloc (.cells c2 t2)).heap.size ((w.alloc (.cells c1 t1)).alloc (.cells c2 t2)))
  exact ⟨(bnew _ _).trans ((bnew _ _).mono (by simp)), h1, h2⟩
theorem blk_keep {w V : World} (hb : Below w.heap.size w V) {g : Nat} {o : Obj} (h : w.heap[g]? = some o) : V.heap[g]? = some o := (hb.block g (Array.getElem?_eq_some_iff.1 h).1).trans h
theorem bel_keep {w V U : World} (h1 : Below w.heap.size w V) (h2 : Below V.heap.size V U) : Below w.heap.size w U := h1.trans (h2.mono h1.size)
theorem c4_cells {w1 : World} {c : Nat} {x0 x1 x2 x3 : Value} {t : TypeId} (h : w1.heap[c]? = some (.cells #[x0, x1, x2, x3] t (0, 0))) : w1.cell? ⟨c, 0, none⟩ = some x0 /\ w1.cell? ⟨c, 1, none⟩ = some x1 /\ w1.cell? ⟨c, 2, none⟩ = some x2 /\ w1.cell? ⟨c, 3, none⟩ = some x3 /\ c < w1.heap.size := by
  refine ⟨?_, ?_, ?_, ?_, (Array.getElem?_eq_some_iff.1 h).1⟩ <;> rw [cell_of_row _ _ _ _ _ _ h] <;> rfl
theorem aAlive (w : World) (hT : Tq w) : Calls Tryz.prog 6 #[] w fun e w' => e = .returned (.bool true) /\ Below w.heap.size w w' := by
  have c1 := aParse txA (by decide) okA parA w hT
  have c3 := fun V hV => aParse txP (by decide) okP parPr V hV
  have c4 := fun V hV => aParseB V hV
  unfold str txA at c1
  unfold str at c3
  unfold str txB at c4
  have C3 := hide c3
  have C4 := hide c4
  clear c3 c4
  go_enter Tryz.func6, Tryz.ntmps6
  go_wp2_with (first
    | (go_at_call 9; refine c1.mono ?_; clear c1; rintro e w1 ⟨ao, k, rfl, hA1, hb1⟩; obtain ⟨g, gq, oq, cq, rfl, hg1, x13, x20, xq, x28, x39, hgq⟩ := hA1.cells))
  clear x13 x20 xq x28 x39 hgq hg1
  have F1 := two_new w1 #[.int .i64 3, .int .i64 2, .slice (some ⟨g, 0, none⟩) 7 k] #[.int .i64 0, .int .i64 0, .int .i64 0, .int .i64 0] 24 41
  generalize ((w1.alloc (.cells #[.int .i64 3, .int .i64 2, .slice (some ⟨g, 0, none⟩) 7 k] 24)).alloc (.cells #[.int .i64 0, .int .i64 0, .int .i64 0, .int .i64 0] 41)) = W1 at F1 ⊢
  obtain ⟨F1a, F1b, -⟩ := F1
  have H1 : Hid (∀ V, Below W1.heap.size W1 V -> V.heap[w1.heap.size]? = some (.cells #[.int .i64 3, .int .i64 2, .slice (some ⟨g, 0, none⟩) 7 k] 24 (0, 0)) /\ CA V w.heap.size (some ⟨g, 0, none⟩) k /\ Tq V /\ Below w.heap.size w V) := hide (fun V hV => ⟨blk_keep hV F1b, hA1.below (bel_keep F1a hV), hT.below (bel_keep hb1 (bel_keep F1a hV)), bel_keep hb1 (bel_keep F1a hV)⟩)
  generalize w1.heap.size = n1 at *
  clear F1a F1b hA1 hb1
  obtain ⟨-, a1, a2, -⟩ := H1.out W1 (Below.refl _ _)
  refine (aPrint (some ⟨g, 0, none⟩) k w.heap.size W1 a2 a1).mono ?_
  rintro e w2 ⟨rfl, hb2⟩
  clear a1 a2
  unfold str
  obtain ⟨-, -, a2, -⟩ := H1.out w2 hb2
  generalize (⟨txP.toArray⟩ : ByteArray) = tb at *
  go_wp2_with fail
  refine (C3.out w2 a2).mono ?_
  rintro e w3 ⟨bo, j, rfl, hA3, hb3⟩
  clear C3 a2
  go_wp2_with fail
  have F3 := two_new w3 #[.int .i64 3, .int .i64 2, .slice bo 7 j] #[.int .i64 0, .int .i64 0, .int .i64 0, .int .i64 0] 24 41
  generalize ((w3.alloc (.cells #[.int .i64 3, .int .i64 2, .slice bo 7 j] 24)).alloc (.cells #[.int .i64 0, .int .i64 0, .int .i64 0, .int .i64 0] 41)) = W3 at F3 ⊢
  obtain ⟨F3a, F3b, F3c⟩ := F3
  have H3 : Hid (∀ V, Below W3.heap.size W3 V -> V.heap[w3.heap.size]? = some (.cells #[.int .i64 3, .int .i64 2, .slice bo 7 j] 24 (0, 0)) /\ V.heap[w3.heap.size + 1]? = some (.cells #[.int .i64 0, .int .i64 0, .int .i64 0, .int .i64 0] 41 (0, 0)) /\ CA V w2.heap.size bo j /\ Below W1.heap.size W1 V) := hide (fun V hV => ⟨blk_keep hV F3b, blk_keep hV F3c, hA3.below (bel_keep F3a hV), bel_keep hb2 (bel_keep hb3 (bel_keep F3a hV))⟩)
  generalize w3.heap.size = n3 at *
  clear F3a F3b F3c hA3 hb2 hb3
  obtain ⟨-, -, -, a3⟩ := H3.out W3 (Below.refl _ _)
  obtain ⟨-, -, a2, -⟩ := H1.out W3 a3
  refine (C4.out W3 a2).mono ?_
  rintro e w4 ⟨rfl, hb4⟩
  clear C4 a2 a3
  go_wp2_with fail
  have F4 := two_new w4 #[.int .i64 0, .int .i64 0, .slice none 0 0] #[.int .i64 85, .int .i64 25, .int .i64 1, .int .i64 26] 24 41
  have F5 := two_new ((w4.alloc (.cells #[.int .i64 0, .int .i64 0, .slice none 0 0] 24)).alloc (.cells #[.int .i64 85, .int .i64 25, .int .i64 1, .int .i64 26] 41)) #[.int .i64 1] #[.int .i64 3, .int .i64 0, .slice (some ⟨w4.heap.size + 1 + 1, 0, none⟩) 1 1, .int .i64 0, .int .i64 (-1), .int .i64 0] 3 34
  have z5 : ((w4.alloc (.cells #[.int .i64 0, .int .i64 0, .slice none 0 0] 24)).alloc (.cells #[.int .i64 85, .int .i64 25, .int .i64 1, .int .i64 26] 41)).heap.size = w4.heap.size + 1 + 1 := by simp
  rw [z5] at F5
  generalize hW5 : ((((w4.alloc (.cells #[.int .i64 0, .int .i64 0, .slice none 0 0] 24)).alloc (.cells #[.int .i64 85, .int .i64 25, .int .i64 1, .int .i64 26] 41)).alloc (.cells #[.int .i64 1] 3)).alloc (.cells #[.int .i64 3, .int .i64 0, .slice (some ⟨w4.heap.size + 1 + 1, 0, none⟩) 1 1, .int .i64 0, .int .i64 (-1), .int .i64 0] 34)) = W5 at F5 ⊢
  obtain ⟨F4a, -, F4c⟩ := F4
  obtain ⟨F5a, F5b, F5c⟩ := F5
  have F5d : Below ((w4.alloc (.cells #[.int .i64 0, .int .i64 0, .slice none 0 0] 24)).alloc (.cells #[.int .i64 85, .int .i64 25, .int .i64 1, .int .i64 26] 41)).heap.size ((w4.alloc (.cells #[.int .i64 0, .int .i64 0, .slice none 0 0] 24)).alloc (.cells #[.int .i64 85, .int .i64 25, .int .i64 1, .int .i64 26] 41)) W5 := by rw [z5]; exact F5a
  have H4 : Hid (∀ V, Below W5.heap.size W5 V -> V.heap[w4.heap.size + 1]? = some (.cells #[.int .i64 85, .int .i64 25, .int .i64 1, .int .i64 26] 41 (0, 0)) /\ Below W3.heap.size W3 V) := hide (fun V hV => ⟨blk_keep (bel_keep F5d hV) F4c, bel_keep hb4 (bel_keep F4a (bel_keep F5d hV))⟩)
  clear F4a F4c F5a F5d z5 hW5 hb4
  generalize w4.heap.size = n4 at *
  obtain ⟨-, a4⟩ := H4.out W5 (Below.refl _ _)
  obtain ⟨-, -, -, a3⟩ := H3.out W5 a4
  obtain ⟨-, -, a2, -⟩ := H1.out W5 a3
  refine (aCheck (n4 + 1 + 1 + 1) (n4 + 1 + 1) W5 a2 F5c F5b).mono ?_
  clear F5b F5c a2 a3 a4
  rintro e w5 ⟨rfl, hb5⟩
  obtain ⟨-, a4⟩ := H4.out w5 hb5
  obtain ⟨m3, -, d3, a3⟩ := H3.out w5 a4
  obtain ⟨m1, d1, a2, -⟩ := H1.out w5 a3
  obtain ⟨x0, x1, x2, x3⟩ := def_cells m1
  obtain ⟨y0, y1, y2, y3⟩ := def_cells m3
  go_wp2_with fail
  clear x0 x1 x2 x3 y0 y1 y2 y3 m1 m3
  refine (aAppend _ _ _ _ _ _ w5 a2 d1 d3).mono ?_
  rintro e w6 ⟨gj, capj, rfl, hb6⟩
  clear a2 d1 d3 a3 a4
  have F6 := bnew w6 (.cells #[.int .i64 3, .int .i64 2, .slice (some ⟨gj, 0, none⟩) 14 capj] 24)
  have F6b := heap_alloc_new w6 (.cells #[.int .i64 3, .int .i64 2, .slice (some ⟨gj, 0, none⟩) 14 capj] 24)
  have H6 : Hid (∀ V, Below w6.heap.size w6 V -> Below W5.heap.size W5 V) := hide (fun V hV => bel_keep hb5 (bel_keep hb6 hV))
  obtain ⟨-, a4⟩ := H4.out _ (H6.out _ F6)
  obtain ⟨-, -, -, a3⟩ := H3.out _ a4
  obtain ⟨m1, d1, a2, -⟩ := H1.out _ a3
  obtain ⟨x0, x1, x2, x3⟩ := def_cells m1
  clear hb5 hb6
  go_wp2_with fail
  clear x0 x1 x2 x3 m1 a3 a4
  refine (aEmbed _ _ _ _ a2 d1).mono ?_
  rintro e w7 ⟨rfl, hb7⟩
  clear a2 d1
  have F7 := bnew w7 (.cells #[.int .i64 0, .int .i64 0, .slice none 0 0] 24)
  have H7 : Hid (∀ V, Below w7.heap.size w7 V -> V.heap[w6.heap.size]? = some (.cells #[.int .i64 3, .int .i64 2, .slice (some ⟨gj, 0, none⟩) 14 capj] 24 (0, 0)) /\ Below W5.heap.size W5 V) := hide (fun V hV => ⟨blk_keep (bel_keep hb7 hV) F6b, H6.out V (bel_keep F6 (bel_keep hb7 hV))⟩)
  clear F6b F6 H6 hb7
  generalize w6.heap.size = n6 at *
  have HA : Hid (∀ V, Below w7.heap.size w7 V -> CA V w.heap.size (some ⟨g, 0, none⟩) k /\ CA V w2.heap.size bo j /\ Tq V /\ Below w.heap.size w V) := hide (fun V hV => by
    obtain ⟨-, b5⟩ := H7.out V hV
    obtain ⟨-, b4⟩ := H4.out V b5
    obtain ⟨-, -, p1, b3⟩ := H3.out V b4
    obtain ⟨-, p2, p3, p4⟩ := H1.out V b3
    exact ⟨p2, p1, p3, p4⟩)
  have HC : Hid (∀ V, Below w7.heap.size w7 V -> (V.cell? ⟨n1, 0, none⟩ = some (.int .i64 3) /\ V.cell? ⟨n1, 1, none⟩ = some (.int .i64 2) /\ V.cell? ⟨n1, 2, none⟩ = some (.slice (some ⟨g, 0, none⟩) 7 k) /\ n1 < V.heap.size) /\ (V.cell? ⟨n3, 0, none⟩ = some (.int .i64 3) /\ V.cell? ⟨n3, 1, none⟩ = some (.int .i64 2) /\ V.cell? ⟨n3, 2, none⟩ = some (.slice bo 7 j) /\ n3 < V.heap.size) /\ (V.cell? ⟨n3 + 1, 0, none⟩ = some (.int .i64 0) /\ V.cell? ⟨n3 + 1, 1, none⟩ = some (.int .i64 0) /\ V.cell? ⟨n3 + 1, 2, none⟩ = some (.int .i64 0) /\ V.cell? ⟨n3 + 1, 3, none⟩ = some (.int .i64 0) /\ n3 + 1 < V.heap.size) /\ (V.cell? ⟨n4 + 1, 0, none⟩ = some (.int .i64 85) /\ V.cell? ⟨n4 + 1, 1, none⟩ = some (.int .i64 25) /\ V.cell? ⟨n4 + 1, 2, none⟩ = some (.int .i64 1) /\ V.cell? ⟨n4 + 1, 3, none⟩ = some (.int .i64 26) /\ n4 + 1 < V.heap.size) /\ (V.cell? ⟨n6, 0, none⟩ = some (.int .i64 3) /\ V.cell? ⟨n6, 1, none⟩ = some (.int .i64 2) /\ V.cell? ⟨n6, 2, none⟩ = some (.slice (some ⟨gj, 0, none⟩) 14 capj) /\ n6 < V.heap.size)) := hide (fun V hV => by
    obtain ⟨p6, b5⟩ := H7.out V hV
    obtain ⟨p4, b4⟩ := H4.out V b5
    obtain ⟨p3, p3', -, b3⟩ := H3.out V b4
    obtain ⟨p1, -, -, -⟩ := H1.out V b3
    exact ⟨def_cells p1, def_cells p3, c4_cells p3', c4_cells p4, def_cells p6⟩)
  clear H7 H4 H3 H1
  obtain ⟨⟨x0, x1, x2, x3⟩, -⟩ := HC.out _ F7
  go_wp2_with fail
  clear x0 x1 x2 x3
  obtain ⟨d1, -, a2, -⟩ := HA.out _ F7
  refine (aCounts _ _ _ _ a2 d1).mono ?_
  rintro e w8 ⟨gn, rfl, hcn, hgn, hb8⟩
  have hb8' := bel_keep F7 hb8
  clear d1 a2 hb8 F7
  have HS : Hid (∀ V, Below w8.heap.size w8 V -> Below w8.heap.size w8 V /\ V.cell? ⟨n1, 0, none⟩ = some (.int .i64 3) /\ V.cell? ⟨n1, 1, none⟩ = some (.int .i64 2) /\ V.cell? ⟨n1, 2, none⟩ = some (.slice (some ⟨g, 0, none⟩) 7 k) /\ V.cell? ⟨n3, 0, none⟩ = some (.int .i64 3) /\ V.cell? ⟨n3, 1, none⟩ = some (.int .i64 2) /\ V.cell? ⟨n3, 2, none⟩ = some (.slice bo 7 j) /\ V.cell? ⟨n3 + 1, 0, none⟩ = some (.int .i64 0) /\ V.cell? ⟨n3 + 1, 1, none⟩ = some (.int .i64 0) /\ V.cell? ⟨n3 + 1, 2, none⟩ = some (.int .i64 0) /\ V.cell? ⟨n3 + 1, 3, none⟩ = some (.int .i64 0) /\ V.cell? ⟨n4 + 1, 0, none⟩ = some (.int .i64 85) /\ V.cell? ⟨n4 + 1, 1, none⟩ = some (.int .i64 25) /\ V.cell? ⟨n6, 2, none⟩ = some (.slice (some ⟨gj, 0, none⟩) 14 capj) /\ V.cell? ⟨gn, 2, none⟩ = some (.int .i64 2)) := hide (fun V hV => by
    obtain ⟨⟨x0, x1, x2, -⟩, ⟨y0, y1, y2, -⟩, ⟨z0, z1, z2, z3, -⟩, ⟨r0, r1, -⟩, ⟨-, -, t2, -⟩⟩ := HC.out _ (bel_keep hb8' hV)
    exact ⟨hV, x0, x1, x2, y0, y1, y2, z0, z1, z2, z3, r0, r1, t2, (hV.cell (p := ⟨gn, 2, none⟩) hgn).trans hcn⟩)
  have HCa : Hid (∀ V, Below w8.heap.size w8 V -> CA V w.heap.size (some ⟨g, 0, none⟩) k /\ CA V w2.heap.size bo j /\ Tq V /\ Below w.heap.size w V) := hide (fun V hV => HA.out V (bel_keep hb8' hV))
  have HS1 := hide (fun V (hV : Below w8.heap.size w8 V) => aSame _ _ _ _ _ _ V (HCa.out V hV).1 (HCa.out V hV).2.1)
  have HS2 := hide (fun V bo2 j2 B2 (hV : Below w8.heap.size w8 V) (h2 : CA V B2 bo2 j2) => aSame _ _ _ _ _ _ V (HCa.out V hV).1 h2)
  have HS3 := hide (fun V (hV : Below w8.heap.size w8 V) => aCopy _ _ _ V (HCa.out V hV).1)
  have HS4 := hide (fun V (hV : Below w8.heap.size w8 V) => aHalves _ _ _ V (HCa.out V hV).2.2.1 (HCa.out V hV).1)
  have HS5 := hide (fun V (hV : Below w8.heap.size w8 V) => aUnitary _ _ _ V (HCa.out V hV).1)
  have HS6 := hide (fun V (hV : Below w8.heap.size w8 V) => aClifford _ _ _ V (HCa.out V hV).2.2.1 (HCa.out V hV).1)
  have hbD : Below w8.heap.size w8 w8.drew := (Below.refl _ _).drew
  clear HA HC hcn hgn hb8'
  go_wp2_with fail
  simp only [List.append_eq, List.cons_append, List.nil_append]
  go_region_held3 (fun V => Below w8.heap.size w8 V /\ V.cell? ⟨n1, 0, none⟩ = some (.int .i64 3) /\ V.cell? ⟨n1, 1, none⟩ = some (.int .i64 2) /\ V.cell? ⟨n1, 2, none⟩ = some (.slice (some ⟨g, 0, none⟩) 7 k) /\ V.cell? ⟨n3, 0, none⟩ = some (.int .i64 3) /\ V.cell? ⟨n3, 1, none⟩ = some (.int .i64 2) /\ V.cell? ⟨n3, 2, none⟩ = some (.slice bo 7 j) /\ V.cell? ⟨n3 + 1, 0, none⟩ = some (.int .i64 0) /\ V.cell? ⟨n3 + 1, 1, none⟩ = some (.int .i64 0) /\ V.cell? ⟨n3 + 1, 2, none⟩ = some (.int .i64 0) /\ V.cell? ⟨n3 + 1, 3, none⟩ = some (.int .i64 0) /\ V.cell? ⟨n4 + 1, 0, none⟩ = some (.int .i64 85) /\ V.cell? ⟨n4 + 1, 1, none⟩ = some (.int .i64 25) /\ V.cell? ⟨n6, 2, none⟩ = some (.slice (some ⟨gj, 0, none⟩) 14 capj) /\ V.cell? ⟨gn, 2, none⟩ = some (.int .i64 2))
    (first | (with_reducible exact HS.out _ (by assumption)) | (with_reducible assumption))
    (first
      | (go_at_call 5; (with_reducible refine Calls.mono (aNum _ _) ?_); rintro e v ⟨rfl, rfl⟩)
      | (go_at_call 11; (with_reducible refine Calls.mono (HS1.out _ (‹Below w8.heap.size w8 _ /\ _›.1)) ?_); rintro e v ⟨rfl, q⟩; have hbx := bel_keep (‹Below w8.heap.size w8 _ /\ _›.1) q)
      | (go_at_call 11; (with_reducible refine Calls.mono (HS2.out _ _ _ _ (‹Below w8.heap.size w8 _ /\ _›.1) hcp) ?_); rintro e v ⟨rfl, q⟩; have hbx := bel_keep (‹Below w8.heap.size w8 _ /\ _›.1) q)
      | (go_at_call 18; (with_reducible refine Calls.mono (HS3.out _ (‹Below w8.heap.size w8 _ /\ _›.1)) ?_); rintro e v ⟨bo2, j2, rfl, hcp, q⟩; have hbx := bel_keep (‹Below w8.heap.size w8 _ /\ _›.1) q)
      | (go_at_call 19; (with_reducible refine Calls.mono (HS4.out _ (‹Below w8.heap.size w8 _ /\ _›.1)) ?_); rintro e v ⟨rfl, q⟩; have hbx := bel_keep (‹Below w8.heap.size w8 _ /\ _›.1) q)
      | (go_at_call 20; (with_reducible refine Calls.mono (HS5.out _ (‹Below w8.heap.size w8 _ /\ _›.1)) ?_); rintro e v ⟨rfl, q⟩; have hbx := bel_keep (‹Below w8.heap.size w8 _ /\ _›.1) q)
      | (go_at_call 21; (with_reducible refine Calls.mono (HS6.out _ (‹Below w8.heap.size w8 _ /\ _›.1)) ?_); rintro e v ⟨rfl, q⟩; have hbx := bel_keep (‹Below w8.heap.size w8 _ /\ _›.1) q))
  go_wp2_with fail
  go_ret
  exact ⟨rfl, (HCa.out _ hbx).2.2.2⟩
end Go.Proofs.YtnghfdnlcnocjaaGreatDoor.Cir
