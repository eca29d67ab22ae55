import Derived.Test.YtkbodljmkhnebaaGreatDoorS694d3df5
set_option maxRecDepth 100000
set_option maxHeartbeats 4000000
namespace Go.Proofs.YtkbodljmkhnebaaGreatDoor.Cir
open Go.RowKit Go.Shelf Go.Proofs.YtkbodljmkhnebaaGreatDoor.Oct Go.Proofs.YtkbodljmkhnebaaGreatDoor.Tok Go.Proofs.YtkbodljmkhnebaaGreatDoor.Gt
def SAp (x : Nat) (q1 b1 q2 b2 : Int) (v1 v2 : Value) (V : World) : Prop := V.cell? ⟨x, 0, none⟩ = some (.int .i64 q1) /\ V.cell? ⟨x, 1, none⟩ = some (.int .i64 b1) /\ V.cell? ⟨x, 2, none⟩ = some v1 /\ V.cell? ⟨x + 1, 0, none⟩ = some (.int .i64 q2) /\ V.cell? ⟨x + 1, 1, none⟩ = some (.int .i64 b2) /\ V.cell? ⟨x + 1, 2, none⟩ = some v2
theorem SAp.kept {x : Nat} {q1 b1 q2 b2 : Int} {v1 v2 : Value} {V V' : World} (h : SAp x q1 b1 q2 b2 v1 v2 V) (hk : ∀ b, b = x ∨ b = x + 1 -> b < V.heap.size -> V'.heap[b]? = V.heap[b]?) : SAp x q1 b1 q2 b2 v1 v2 V' := by
  obtain ⟨h0, h1, h2, h3, h4, h5⟩ := h
  have k0 := hk x (.inl rfl) (World.block_lt_of_cell? _ _ h0)
  have k1 := hk (x + 1) (.inr rfl) (World.block_lt_of_cell? _ _ h3)
  exact ⟨(World.cell?_of_block (w := V) k0).trans h0, (World.cell?_of_block (w := V) k0).trans h1, (World.cell?_of_block (w := V) k0).trans h2, (World.cell?_of_block (w := V) k1).trans h3, (World.cell?_of_block (w := V) k1).trans h4, (World.cell?_of_block (w := V) k1).trans h5⟩
theorem opC_one {w : World} {ys : List (COp × Value)} (h : ∀ x ∈ ys, IsI w x.2 x.1.qs) : ∀ u ∈ ys.flatMap opC, u.oneCell' = true := by
  intro u hu
  obtain ⟨x, hx, hux⟩ := List.mem_flatMap.1 hu
  obtain ⟨aq, cq, hv, _⟩ := (h x hx).ns
  unfold opC at hux
  rw [hv] at hux
  simp only [List.mem_cons, List.not_mem_nil, or_false] at hux
  rcases hux with rfl | rfl | rfl | rfl | rfl | rfl <;> rfl
theorem OpsAt.join {w w' : World} {B g1 n1 c1 n2 g cap : Nat} {l1 l2 : List COp} {ys2 : List (COp × Value)} (h1 : OpsAt w B (some ⟨g1, 0, none⟩) n1 c1 l1) (e2 : l2 = ys2.map (·.1)) (hn2 : n2 = ys2.length) (hI2 : ∀ x ∈ ys2, IsI w x.2 x.1.qs) (hg : w.grownBy w' (some g1)) (ho : w'.ownsRow B 40 6 (.slice (some ⟨g, 0, none⟩) (n1 + n2) cap) (n1 + n2) ((h1.choose).flatMap opC ++ ys2.flatMap opC)) : OpsAt w' B (some ⟨g, 0, none⟩) (n1 + n2) cap (l1 ++ l2) := by
  obtain ⟨a1, a2, a3, a4⟩ := h1.choose_spec
  obtain ⟨gc, gf, hgc⟩ := own_cells' a3 (k := g1) rfl
  have hk : ∀ (b : Nat) (cs : Array Value) (fr : Nat × Nat), w.heap[b]? = some (Obj.cells cs 3 fr) -> w'.heap[b]? = w.heap[b]? := fun b cs fr hb => hg.block b (Array.getElem?_eq_some_iff.1 hb).1 (fun e => by
    cases e
    rw [hgc] at hb
    simp at hb)
  refine ⟨h1.choose ++ ys2, by rw [List.length_append, ← a1, ← hn2], by rw [List.map_append, ← a2, ← e2], by rw [List.flatMap_append]; exact ho, fun x hx => ?_⟩
  rcases List.mem_append.1 hx with hx | hx
  . exact (a4 x hx).block hk
  . exact (hI2 x hx).block hk
theorem cAppend (a b : Circ) (ao bo : Option Addr) (k j : Nat) (ha : (chkC a).2 = 0) (hb : (chkC b).2 = 0) (hl : a.ops.length + b.ops.length <= 4096) (h0 : 0 < b.ops.length) (hSa : Sml a.ops) (hSb : Sml b.ops) (w : World) (hT : Tb w) (hA : Ci w a ao k) (hB : Ci w b bo j) : Calls Tryz.prog 46 #[cV a ao k, cV b bo j] w fun e w' => ∃ (g cap : Nat), e = .returned (.tuple #[.agg #[.int .i64 (max a.q b.q), .int .i64 (max a.b b.b), .slice (some ⟨g, 0, none⟩) (a.ops.length + b.ops.length) cap], .int .i64 0]) /\ OpsAt w' w.heap.size (some ⟨g, 0, none⟩) (a.ops.length + b.ops.length) cap (a.ops ++ b.ops) /\ Below w.heap.size w w' := by
  have c1 := fun V (h : Below w.heap.size w V) => cCheck a ao k V (hT.below h) (hA.below h)
  have c2 := fun V (h : Below w.heap.size w V) => cCheck b bo j V (hT.below h) (hB.below h)
  have c3 := fun V (h : Below w.heap.size w V) => cCopyOps a.ops ao k hSa V (hA.ops.below h)
  have c4 := fun V (h : Below w.heap.size w V) => cCopyOps b.ops bo j hSb V (hB.ops.below h)
  rw [ha] at c1
  rw [hb] at c2
  obtain ⟨q1, b1, l1⟩ := a
  obtain ⟨q2, b2, l2⟩ := b
  unfold cV at *
  simp only at *
  generalize (chkC ⟨q1, b1, l1⟩).1 = z1 at *
  generalize (chkC ⟨q2, b2, l2⟩).1 = z2 at *
  generalize hn1 : l1.length = n1 at *
  generalize hn2 : l2.length = n2 at *
  have hwr : IntKind.i64.wrap ((n1 : Int) + (n2 : Int)) = (n1 : Int) + (n2 : Int) := wrapN _ (by omega) (by omega)
  have d1 : decide ((n1 : Int) + (n2 : Int) > 4096) = false := decide_eq_false (by omega)
  have d2 : decide ((4096 : Int) < (n1 : Int) + (n2 : Int)) = false := decide_eq_false (by omega)
  obtain ⟨i0, hi, hz0, hz1, hz2⟩ := info_parts infoOp
  have HN2 := hide hn2
  clear hA hB hSa hSb ha hb hn1 hn2
  have hW : Below w.heap.size w (((w.alloc (.cells #[.int .i64 q1, .int .i64 b1, .slice ao n1 k] 24)).alloc (.cells #[.int .i64 q2, .int .i64 b2, .slice bo n2 j] 24)).alloc (.cells #[.int .i64 0, .int .i64 0, .slice none 0 0] 24)) /\ (((w.alloc (.cells #[.int .i64 q1, .int .i64 b1, .slice ao n1 k] 24)).alloc (.cells #[.int .i64 q2, .int .i64 b2, .slice bo n2 j] 24)).alloc (.cells #[.int .i64 0, .int .i64 0, .slice none 0 0] 24)).heap[w.heap.size]? = some (.cells #[.int .i64 q1, .int .i64 b1, .slice ao n1 k] 24) /\ (((w.alloc (.cells #[.int .i64 q1, .int .i64 b1, .slice ao n1 k] 24)).alloc (.cells #[.int .i64 q2, .int .i64 b2, .slice bo n2 j] 24)).alloc (.cells #[.int .i64 0, .int .i64 0, .slice none 0 0] 24)).heap[w.heap.size + 1]? = some (.cells #[.int .i64 q2, .int .i64 b2, .slice bo n2 j] 24) /\ (((w.alloc (.cells #[.int .i64 q1, .int .i64 b1, .slice ao n1 k] 24)).alloc (.cells #[.int .i64 q2, .int .i64 b2, .slice bo n2 j] 24)).alloc (.cells #[.int .i64 0, .int .i64 0, .slice none 0 0] 24)).heap[w.heap.size + 1 + 1]? = some (.cells #[.int .i64 0, .int .i64 0, .slice none 0 0] 24) := by
    refine ⟨(bnew _ _).trans (((bnew _ _).trans ((bnew _ _).mono (by simp))).mono (by simp)), (Below.heap_alloc _ _ _ (by simp; omega)).trans ((Below.heap_alloc _ _ _ (by simp)).trans (heap_alloc_new _ _)), (Below.heap_alloc _ _ _ (by simp)).trans ?_, ?_⟩
    . have := heap_alloc_new (w.alloc (.cells #[.int .i64 q1, .int .i64 b1, .slice ao n1 k] 24)) (.cells #[.int .i64 q2, .int .i64 b2, .slice bo n2 j] 24); simpa using this
    . have := heap_alloc_new ((w.alloc (.cells #[.int .i64 q1, .int .i64 b1, .slice ao n1 k] 24)).alloc (.cells #[.int .i64 q2, .int .i64 b2, .slice bo n2 j] 24)) (.cells #[.int .i64 0, .int .i64 0, .slice none 0 0] 24); simpa using this
  have HW := hide hW
  have HP : Hid (∀ V, Below (((w.alloc (.cells #[.int .i64 q1, .int .i64 b1, .slice ao n1 k] 24)).alloc (.cells #[.int .i64 q2, .int .i64 b2, .slice bo n2 j] 24)).alloc (.cells #[.int .i64 0, .int .i64 0, .slice none 0 0] 24)).heap.size (((w.alloc (.cells #[.int .i64 q1, .int .i64 b1, .slice ao n1 k] 24)).alloc (.cells #[.int .i64 q2, .int .i64 b2, .slice bo n2 j] 24)).alloc (.cells #[.int .i64 0, .int .i64 0, .slice none 0 0] 24)) V -> Below w.heap.size w V /\ V.heap[w.heap.size]? = some (.cells #[.int .i64 q1, .int .i64 b1, .slice ao n1 k] 24) /\ V.heap[w.heap.size + 1]? = some (.cells #[.int .i64 q2, .int .i64 b2, .slice bo n2 j] 24) /\ V.heap[w.heap.size + 1 + 1]? = some (.cells #[.int .i64 0, .int .i64 0, .slice none 0 0] 24) /\ w.heap.size + 3 <= V.heap.size) := hide (fun V h => ⟨hW.1.trans (h.mono hW.1.size), (h.block _ (by simp; omega)).trans hW.2.1, (h.block _ (by simp)).trans hW.2.2.1, (h.block _ (by simp)).trans hW.2.2.2, by have := h.size; simpa using this⟩)
  clear hW
  go_enter Tryz.func46, Tryz.ntmps46
  go_wp2_with (first
    | (go_at_call_of 9 (Value.agg #[.int .i64 q1, .int .i64 b1, .slice ao n1 k]); refine (c1 _ HW.out.1).mono ?_; clear c1; rintro e w1 ⟨rfl, hb1⟩; obtain ⟨p1, m1, m2, m3, m4⟩ := HP.out w1 hb1; obtain ⟨x0, x1, x2, x3⟩ := def_cells m1; obtain ⟨y0, y1, y2, y3⟩ := def_cells m2)
    | (go_at_call 9; refine (c2 _ p1).mono ?_; rintro e w2 ⟨rfl, hb2⟩; have hb2' := Below.trans hb1 (hb2.mono hb1.size); obtain ⟨p2, m1, m2, m3, m4⟩ := HP.out w2 hb2'; obtain ⟨x0, x1, x2, x3⟩ := def_cells m1; obtain ⟨y0, y1, y2, y3⟩ := def_cells m2))
  have hS0 : SAp w.heap.size q1 b1 q2 b2 (.slice ao n1 k) (.slice bo n2 j) w2.drew := ⟨x0, x1, x2, y0, y1, y2⟩
  have HM3 := hide m3
  have HP2 := hide p2
  have c3' := c3 w2.drew (p2.drew)
  refine wp_region_held_drew (S := SAp w.heap.size q1 b1 q2 b2 (.slice ao n1 k) (.slice bo n2 j)) (by kernel_rfl) hS0 (fun hHeld => ?_)
  refine take_to (i := 0) (d := 37) (v := ?_) rfl rfl (by kernel_rfl) (by kernel_rfl) (by kernel_rfl) (fun _ _ _ h => h) (Or.inl ⟨by rfl, ?_⟩) (by assumption) ?_
  rotate_left 1
  . intro W hSw
    obtain ⟨s0, s1, s2, t0, t1, t2⟩ := hSw
    go_simp
    with_reducible rfl
  simp only [Act.put, List.setIfInBounds_toArray, List.set_cons_zero, List.set_cons_succ]
  refine take_to (i := 1) (d := 38) (v := ?_) rfl rfl (by kernel_rfl) (by kernel_rfl) (by kernel_rfl) (fun _ _ _ h => h) (Or.inl ⟨by rfl, ?_⟩) (by assumption) ?_
  rotate_left 1
  . intro W hSw
    obtain ⟨s0, s1, s2, t0, t1, t2⟩ := hSw
    go_simp
    with_reducible rfl
  simp only [Act.put, List.setIfInBounds_toArray, List.set_cons_zero, List.set_cons_succ]
  refine take_to (i := 2) (d := 39) (v := ?_) rfl rfl (by kernel_rfl) (by kernel_rfl) (by kernel_rfl) (fun _ _ _ h => h) (Or.inl ⟨by rfl, ?_⟩) (by assumption) ?_
  rotate_left 1
  . intro W hSw
    obtain ⟨s0, s1, s2, t0, t1, t2⟩ := hSw
    go_simp
    with_reducible rfl
  simp only [Act.put, List.setIfInBounds_toArray, List.set_cons_zero, List.set_cons_succ]
  refine take_to (i := 3) (d := 40) (v := ?_) rfl rfl (by kernel_rfl) (by kernel_rfl) (by kernel_rfl) (fun _ _ _ h => h) (Or.inl ⟨by rfl, ?_⟩) (by assumption) ?_
  rotate_left 1
  . intro W hSw
    obtain ⟨s0, s1, s2, t0, t1, t2⟩ := hSw
    go_simp
    with_reducible rfl
  simp only [Act.put, List.setIfInBounds_toArray, List.set_cons_zero, List.set_cons_succ]
  refine take_to (i := 4) (d := 41) (v := ?_) rfl rfl (by kernel_rfl) (by kernel_rfl) (by kernel_rfl) (fun _ _ _ h => h) (Or.inl ⟨by rfl, ?_⟩) (by assumption) ?_
  rotate_left 1
  . intro W hSw
    obtain ⟨s0, s1, s2, t0, t1, t2⟩ := hSw
    go_simp
    with_reducible rfl
  simp only [Act.put, List.setIfInBounds_toArray, List.set_cons_zero, List.set_cons_succ]
  refine take_to (i := 5) (d := 42) (v := ?_) rfl rfl (by kernel_rfl) (by kernel_rfl) (by kernel_rfl) (fun _ _ _ h => h) (Or.inl ⟨by rfl, ?_⟩) (by assumption) ?_
  rotate_left 1
  . intro W hSw
    obtain ⟨s0, s1, s2, t0, t1, t2⟩ := hSw
    go_simp
    with_reducible rfl
  simp only [Act.put, List.setIfInBounds_toArray, List.set_cons_zero, List.set_cons_succ]
  refine take_to (i := 6) (d := 43) (v := ?_) rfl rfl (by kernel_rfl) (by kernel_rfl) (by kernel_rfl) (fun _ _ _ h => h) (Or.inl ⟨by rfl, ?_⟩) (by assumption) ?_
  rotate_left 1
  . intro W hSw
    obtain ⟨s0, s1, s2, t0, t1, t2⟩ := hSw
    go_simp
    with_reducible rfl
  simp only [Act.put, List.setIfInBounds_toArray, List.set_cons_zero, List.set_cons_succ]
  refine take_to (i := 7) (d := 44) (v := ?_) rfl rfl (by kernel_rfl) (by kernel_rfl) (by kernel_rfl) (fun _ _ _ h => h) (Or.inl ⟨by rfl, ?_⟩) (by assumption) ?_
  rotate_left 1
  . intro W hSw
    obtain ⟨s0, s1, s2, t0, t1, t2⟩ := hSw
    go_simp
    with_reducible rfl
  simp only [Act.put, List.setIfInBounds_toArray, List.set_cons_zero, List.set_cons_succ]
  refine take_to (i := 8) (d := 45) (v := ?_) rfl rfl (by kernel_rfl) (by kernel_rfl) (by kernel_rfl) (fun _ _ _ h => h) (Or.inl ⟨by rfl, ?_⟩) (by assumption) ?_
  rotate_left 1
  . intro W hSw
    obtain ⟨s0, s1, s2, t0, t1, t2⟩ := hSw
    go_simp
    with_reducible rfl
  simp only [Act.put, List.setIfInBounds_toArray, List.set_cons_zero, List.set_cons_succ]
  refine take_to (i := 9) (d := 46) (v := ?_) rfl rfl (by kernel_rfl) (by kernel_rfl) (by kernel_rfl) (fun _ _ _ h => h) (Or.inl ⟨by rfl, ?_⟩) (by assumption) ?_
  rotate_left 1
  . intro W hSw
    obtain ⟨s0, s1, s2, t0, t1, t2⟩ := hSw
    go_simp
    with_reducible rfl
  simp only [Act.put, List.setIfInBounds_toArray, List.set_cons_zero, List.set_cons_succ]
  refine take_to (i := 10) (d := 47) (v := ?_) rfl rfl (by kernel_rfl) (by kernel_rfl) (by kernel_rfl) (fun _ _ _ h => h) (Or.inl ⟨by rfl, ?_⟩) (by assumption) ?_
  rotate_left 1
  . intro W hSw
    obtain ⟨s0, s1, s2, t0, t1, t2⟩ := hSw
    go_simp
    with_reducible rfl
  simp only [Act.put, List.setIfInBounds_toArray, List.set_cons_zero, List.set_cons_succ]
  refine take_to (i := 11) (d := 48) (v := ?_) rfl rfl (by kernel_rfl) (by kernel_rfl) (by kernel_rfl) (fun _ _ _ h => h) (Or.inl ⟨by rfl, ?_⟩) (by assumption) ?_
  rotate_left 1
  . intro W hSw
    obtain ⟨s0, s1, s2, t0, t1, t2⟩ := hSw
    go_simp
    with_reducible rfl
  simp only [Act.put, List.setIfInBounds_toArray, List.set_cons_zero, List.set_cons_succ]
  refine take_to (i := 13) (d := 50) (v := ?_) rfl rfl (by kernel_rfl) (by kernel_rfl) (by kernel_rfl) (fun _ _ _ h => h) (Or.inl ⟨by rfl, ?_⟩) (by assumption) ?_
  rotate_left 1
  . intro W hSw
    obtain ⟨s0, s1, s2, t0, t1, t2⟩ := hSw
    go_simp
    with_reducible rfl
  simp only [Act.put, List.setIfInBounds_toArray, List.set_cons_zero, List.set_cons_succ]
  refine take_to (i := 14) (d := 51) (v := ?_) rfl rfl (by kernel_rfl) (by kernel_rfl) (by kernel_rfl) (fun _ _ _ h => h) (Or.inl ⟨by rfl, ?_⟩) (by assumption) ?_
  rotate_left 1
  . intro W hSw
    obtain ⟨s0, s1, s2, t0, t1, t2⟩ := hSw
    go_simp
    with_reducible rfl
  simp only [Act.put, List.setIfInBounds_toArray, List.set_cons_zero, List.set_cons_succ]
  refine wpAnyH_ready (rs := [12]) (by kernel_rfl) (by simp) ?_
  refine AllReadyH.cons (o := { dst := some 49, op := Op.call { callee := Callee.value (Operand.func 44), args := #[Operand.tmp 48], argTypes := #[22] }, type := 22, pos := "join.go:19", after := #[{ on := 11, ground := Ground.data }], guard := none }) rfl (fun K hK => ?_) AllReadyH.nil
  go_simp
  go_at_call 44
  refine Calls.mono c3' ?_
  rintro e w3 ⟨g3, rfl, hO3, hb3⟩
  go_wp2_with fail
  refine hK.out _ _ (SAp.kept (by assumption) (fun b _ hl => hb3.block b hl)) (fun hHeld => ?_)
  clear hK K
  refine wpAnyH_ready (rs := [15]) (by kernel_rfl) (by simp) ?_
  refine AllReadyH.cons (o := { dst := some 52, op := Op.call { callee := Callee.value (Operand.func 44), args := #[Operand.tmp 51], argTypes := #[22] }, type := 22, pos := "join.go:19", after := #[{ on := 14, ground := Ground.data }, { on := 12, ground := Ground.chain }], guard := none }) rfl (fun K hK => ?_) AllReadyH.nil
  have p3 : Below w.heap.size w w3 := HP2.out.trans ((show Below w2.heap.size w2 w3 from ⟨hb3.os, hb3.tape, hb3.output, hb3.size, hb3.block⟩).mono HP2.out.size)
  have c4' := c4 w3 p3
  go_simp
  go_at_call 44
  refine Calls.mono c4' ?_
  rintro e w4 ⟨g4, rfl, hO4, hb4⟩
  go_wp2_with fail
  refine hK.out _ _ (SAp.kept (by assumption) (fun b _ hl => hb4.block b hl)) (fun hHeld => ?_)
  clear hK K
  have hO5 := (hO3.base (show w.heap.size <= w2.drew.heap.size from HP2.out.size)).below hb4
  have z3 := hb3.size
  have z4 := hb4.size
  have m5 : w4.heap[w.heap.size + 1 + 1]? = some (.cells #[.int .i64 0, .int .i64 0, .slice none 0 0] 24) := (hb4.block _ (by have := (Array.getElem?_eq_some_iff.1 HM3.out).1; have : w2.heap.size <= w3.heap.size := z3; omega)).trans ((hb3.block _ (Array.getElem?_eq_some_iff.1 HM3.out).1).trans HM3.out)
  have hsv := hHeld
  refine wpAnyH_ready (rs := [16]) (by kernel_rfl) (by simp) ?_
  refine AllReadyH.cons (o := { dst := some 53, op := Op.call { callee := Callee.builtin Builtin.append, args := #[Operand.tmp 49, Operand.tmp 52], argTypes := #[22, 22] }, type := 22, pos := "join.go:16", after := #[{ on := 12, ground := Ground.data }, { on := 15, ground := Ground.data }, { on := 15, ground := Ground.chain }], guard := none }) rfl (fun K hK => ?_) AllReadyH.nil
  obtain ⟨ys2, f1, f2, f3, f4⟩ := id hO4
  have F1 := hide f1
  have F2 := hide f2
  clear f1 f2
  refine step_append_lies w4 rfl (.tmp 49) (.tmp 52) 22 rfl w.heap.size 40 i0 _ 6 64 Tryz.underlying22 hi hz0 hz1 hz2 rfl (by decide) (.slice (some ⟨g3, 0, none⟩) n1 n1) n1 _ (by rfl) hO5.choose_spec.2.2.1 ⟨g4, 0, none⟩ n2 n2 (ys2.flatMap opC) (by rfl) f3.1 (fun j u hu => by rw [Addr.add_lit, Nat.zero_add]; exact own_at f3 _ _ hu) (opC_one f4) h0 (by unfold maxLen; omega) (by omega) (by have := HP2.out.size; have : w2.heap.size <= w3.heap.size := z3; omega) w4.heap.size rfl ?_
  intro g5 cap w5 hown5 hg5 hat5 hlt5
  have hO6 : OpsAt w5 w.heap.size (some ⟨g5, 0, none⟩) (n1 + n2) cap (l1 ++ l2) := hO5.join F2.out F1.out f4 hg5 hown5
  obtain ⟨gc, gf, hgc⟩ := own_cells' hO5.choose_spec.2.2.1 (k := g3) rfl
  have hneb : ∀ (b : Nat) (cs : Array Value) (t : TypeId) (fr : Nat × Nat), w4.heap[b]? = some (Obj.cells cs t fr) -> t ≠ 40 -> w5.heap[b]? = w4.heap[b]? := fun b cs t fr hbb ht => hg5.block b (Array.getElem?_eq_some_iff.1 hbb).1 (fun e => by
    cases e
    rw [hgc] at hbb
    simp only [Option.some.injEq, Obj.cells.injEq] at hbb
    exact ht hbb.2.1.symm)
  have p4 : Below w.heap.size w w4 := p3.trans (hb4.mono p3.size)
  have a4 : w4.heap[w.heap.size]? = some (.cells #[.int .i64 q1, .int .i64 b1, .slice ao n1 k] 24) := (HP.out w4 (by
    have := hb2'.trans ((show Below w2.heap.size w2 w3 from ⟨hb3.os, hb3.tape, hb3.output, hb3.size, hb3.block⟩).mono hb2'.size)
    exact this.trans (hb4.mono this.size))).2.1
  have b4 : w4.heap[w.heap.size + 1]? = some (.cells #[.int .i64 q2, .int .i64 b2, .slice bo n2 j] 24) := (HP.out w4 (by
    have := hb2'.trans ((show Below w2.heap.size w2 w3 from ⟨hb3.os, hb3.tape, hb3.output, hb3.size, hb3.block⟩).mono hb2'.size)
    exact this.trans (hb4.mono this.size))).2.2.1
  have hS5 : SAp w.heap.size q1 b1 q2 b2 (.slice ao n1 k) (.slice bo n2 j) w5 := hsv.kept fun b hbx _ => by
    rcases hbx with rfl | rfl
    . exact hneb _ _ _ _ a4 (by decide)
    . exact hneb _ _ _ _ b4 (by decide)
  have m6 := (hneb _ _ _ _ m5 (by decide)).trans m5
  obtain ⟨u0, u1, u2, u3⟩ := def_cells m6
  have uf : ∀ i, w5.frozen? ⟨w.heap.size + 1 + 1, i, none⟩ = false := fun i => by simp [World.frozen?, m6]
  have p5 : Below w.heap.size w w5 := p4.grown hg5 p4.size (fun q hq => by
    have := (own_lt hO5.choose_spec.2.2.1 q hq).1
    exact this)
  refine hK.out _ _ hS5 (fun hHeld => ?_)
  clear hK K
  simp only [Act.put, List.setIfInBounds_toArray, List.set_cons_zero, List.set_cons_succ]
  refine take_to (i := 17) (d := 54) (v := ?_) rfl rfl (by kernel_rfl) (by kernel_rfl) (by kernel_rfl) (fun _ _ _ h => h) (Or.inl ⟨by rfl, ?_⟩) (by assumption) ?_
  rotate_left 1
  . intro W hSw
    obtain ⟨s0, s1, s2, t0, t1, t2⟩ := hSw
    go_simp
    with_reducible rfl
  simp only [Act.put, List.setIfInBounds_toArray, List.set_cons_zero, List.set_cons_succ]
  refine wpAnyH_ready (rs := [18]) (by kernel_rfl) (by simp) ?_
  refine AllReadyH.cons (o := { dst := none, op := Op.store 24 (Operand.tmp 4) (Operand.tmp 54), type := 0, pos := "join.go:16", after := #[{ on := 17, ground := Ground.data }, { on := 16, ground := Ground.chain }, { on := 0, ground := Ground.phase }, { on := 1, ground := Ground.phase }, { on := 2, ground := Ground.phase }, { on := 3, ground := Ground.phase }, { on := 4, ground := Ground.phase }, { on := 5, ground := Ground.phase }, { on := 6, ground := Ground.phase }, { on := 7, ground := Ground.phase }, { on := 8, ground := Ground.phase }, { on := 9, ground := Ground.phase }, { on := 10, ground := Ground.phase }, { on := 11, ground := Ground.phase }, { on := 12, ground := Ground.phase }, { on := 13, ground := Ground.phase }, { on := 14, ground := Ground.phase }, { on := 15, ground := Ground.phase }, { on := 16, ground := Ground.phase }, { on := 17, ground := Ground.phase }], guard := none }) rfl (fun K hK => ?_) AllReadyH.nil
  go_simp
  refine hK.out _ _ (SAp.kept (by assumption) (fun b hbx _ => by
    have hne : b ≠ w.heap.size + 1 + 1 := by omega
    rw [Below.heap_setCell _ _ _ _ hne, Below.heap_setCell _ _ _ _ hne, Below.heap_setCell _ _ _ _ hne])) (fun hHeld => ?_)
  clear hK K
  try simp only [Act.put, List.setIfInBounds_toArray, List.set_cons_zero, List.set_cons_succ]
  refine take_to (i := 19) (d := 5) (v := ?_) rfl rfl (by kernel_rfl) (by kernel_rfl) (by kernel_rfl) (fun _ _ _ h => h) (Or.inl ⟨by rfl, ?_⟩) (by assumption) ?_
  rotate_left 1
  . intro W hSw
    obtain ⟨s0, s1, s2, t0, t1, t2⟩ := hSw
    go_simp
    with_reducible rfl
  simp only [Act.put, List.setIfInBounds_toArray, List.set_cons_zero, List.set_cons_succ]
  refine wpAnyH_done (by kernel_rfl) ?_ _
  rw [c3_set w5 _ _ _ _ _ _ _ _ m6]
  go_wp2_with fail
  refine bodyPost_ret (results_ct rfl _ _ (w.heap.size + 1 + 1) _ #[.int .i64 (max q1 q2), .int .i64 (max b1 b2), .slice (some ⟨g5, 0, none⟩) (n1 + n2) cap] _ _ rfl (setRow_heap _ _ _ _ _ _ m6) Tryz.underlying24 rfl (by exact infoCi)) rfl ?_
  exact ⟨g5, cap, rfl, hO6.row m6 (by decide) (by decide) _, Below.row p5 _ _ (by omega)⟩
def txA : List UInt8 := (([79, 80, 69, 78, 81, 65, 83, 77, 32, 50, 46, 48, 59, 32, 113, 114, 101, 103, 32, 97, 91, 50, 93, 59, 32, 113, 114, 101, 103, 32, 98, 91, 49, 93].append [59, 32, 99, 114, 101, 103, 32, 99, 91, 50, 93, 59, 32, 103, 97, 116, 101, 32, 98, 101, 108, 108, 32, 112, 44, 32, 114, 32, 123, 32, 115, 121, 32, 112, 59]).append ([32, 99, 120, 32, 112, 44, 32, 114, 59, 32, 125, 32, 120, 32, 97, 59, 32, 98, 101, 108, 108, 32, 97, 91, 49, 93, 44, 32, 98, 91, 48, 93, 59, 32].append [105, 102, 32, 40, 99, 91, 49, 93, 32, 61, 61, 32, 49, 41, 32, 115, 32, 98, 59, 32, 109, 101, 97, 115, 117, 114, 101, 32, 97, 32, 45, 62, 32, 99, 59]))
def txB : List UInt8 := [79, 80, 69, 78, 81, 65, 83, 77, 32, 50, 46, 48, 59, 32, 113, 114, 101, 103, 32, 97, 91, 50, 93, 59, 32, 99, 120, 32, 97, 91, 48, 93, 44, 32, 97, 91, 48, 93, 59]
def txP : List UInt8 := [79, 80, 69, 78, 81, 65, 83, 77, 32, 50, 46, 48, 59, 10, 105, 110, 99, 108, 117, 100, 101, 32, 34, 113, 101, 108, 105, 98, 49, 46, 105, 110, 99, 34, 59, 10, 113, 114, 101, 103, 32, 113, 91, 51, 93, 59, 10, 99, 114, 101, 103, 32, 99, 91, 50, 93, 59, 10, 120, 32, 113, 91, 48, 93, 59, 10, 120, 32, 113, 91, 49, 93, 59, 10, 115, 121, 32, 113, 91, 49, 93, 59, 10, 99, 120, 32, 113, 91, 49, 93, 44, 32, 113, 91, 50, 93, 59, 10, 105, 102, 32, 40, 99, 91, 49, 93, 32, 61, 61, 32, 49, 41, 32, 115, 32, 113, 91, 50, 93, 59, 10, 109, 101, 97, 115, 117, 114, 101, 32, 113, 91, 48, 93, 32, 45, 62, 32, 99, 91, 48, 93, 59, 10, 109, 101, 97, 115, 117, 114, 101, 32, 113, 91, 49, 93, 32, 45, 62, 32, 99, 91, 49, 93, 59, 10]
def cA : Circ := ⟨3, 2, [⟨1, 2, [0], 0, -1, 0⟩, ⟨1, 2, [1], 0, -1, 0⟩, ⟨1, 9, [1], 0, -1, 0⟩, ⟨1, 11, [1, 2], 0, -1, 0⟩, ⟨1, 5, [2], 0, 1, 1⟩, ⟨2, 0, [0], 0, -1, 0⟩, ⟨2, 0, [1], 1, -1, 0⟩]⟩
def endsB : List T -> Bool
  | [] => false
  | t :: r => (decide (t.kind = 0) && r.isEmpty) || (decide (t.kind ≠ 0) && endsB r)
theorem ends_of : ∀ ts : List T, endsB ts = true -> Ends ts
  | [], h => by cases h
  | t :: r, h => by
    rw [endsB, Bool.or_eq_true, Bool.and_eq_true, Bool.and_eq_true] at h
    rcases h with ⟨h1, h2⟩ | ⟨h1, h2⟩
    . exact .inl ⟨of_decide_eq_true h1, by simpa using h2⟩
    . exact .inr ⟨of_decide_eq_true h1, ends_of r h2⟩
def okB (l : List UInt8) : Bool := match scanAll l with
  | .bad f => decide (f.code ≠ 0)
  | .ok ts => endsB ts && decide (ts.length <= 4398046511104) && ts.all fun t => decide (t.text.length <= 4398046511104) && decide (t.text ≠ kwX 7) && decide (t.text ≠ kwX 8)
theorem okB_bad {l : List UInt8} (h : okB l = true) : ∀ f, scanAll l = .bad f -> f.code ≠ 0 := by
  intro f hf
  unfold okB at h
  rw [hf] at h
  exact of_decide_eq_true h
theorem okB_ok {l : List UInt8} (h : okB l = true) : ∀ ts, scanAll l = .ok ts -> Fine ts /\ (∀ t ∈ ts, t.text = kwX 7 -> RsOk) /\ (∀ t ∈ ts, t.text = kwX 8 -> BrOk) := by
  intro ts hs
  unfold okB at h
  rw [hs] at h
  simp only [Bool.and_eq_true, decide_eq_true_eq, List.all_eq_true] at h
  obtain ⟨⟨h1, h2⟩, h3⟩ := h
  exact ⟨⟨ends_of ts h1, h2, fun t ht => (h3 t ht).1.1⟩, fun t ht e => absurd e (h3 t ht).1.2, fun t ht e => absurd e (h3 t ht).2⟩
theorem okA : okB txA = true := by decide +kernel
theorem okBB : okB txB = true := by decide +kernel
theorem okP : okB txP = true := by decide +kernel
theorem parA : parP txA = .ok cA := by decide +kernel
theorem parB : parP txB = .bad ⟨85, 25, 1, 26⟩ := by decide +kernel
theorem parPr : parP txP = .ok cA := by decide +kernel
theorem chkA : (chkC cA).2 = 0 := by decide +kernel
structure Tq (w : World) : Prop where
  tx : Tx w
  tb : Tb w
  te : Te8 w
theorem Tq.below {w w' : World} (h : Tq w) (hb : Below w.heap.size w w') : Tq w' := ⟨h.tx.below hb, h.tb.below hb, h.te.below (World.block_lt_of_cell? _ _ h.te) hb⟩
theorem prA : prP cA = txP := by decide +kernel
theorem own_cell8 {w : World} {B e size n m c : Nat} {ao : Option Addr} {xs : List Value} (h : w.ownsRow B e size (.slice ao m c) n xs) (hn : n ≠ 0) : ∃ g, ao = some ⟨g, 0, none⟩ /\ ∀ j v, xs[j]? = some v -> w.cell? ⟨g, j, none⟩ = some v := by
  rcases h.2 with ⟨_, h0⟩ | ⟨g, cap, cur, hv, _⟩
  . exact absurd h0 hn
  . simp only [Value.slice.injEq] at hv
    refine ⟨g, hv.1, fun j v hj => ?_⟩
    have hc := h.cells (g := g) (by rw [ob_eq, hv.1]; rfl) j v hj
    rw [Addr.add_lit, Nat.zero_add] at hc
    exact hc
structure CA (w : World) (B : Nat) (ao : Option Addr) (k : Nat) : Prop where
  ops : OpsAt w B ao 7 k cA.ops
  cells : ∃ g gq oq cq, ao = some ⟨g, 0, none⟩ /\ g < w.heap.size /\ w.cell? ⟨g, 13, none⟩ = some (.int .i64 9) /\ w.cell? ⟨g, 20, none⟩ = some (.slice (some ⟨gq, oq, none⟩) 2 cq) /\ w.cell? ⟨gq, oq + 1, none⟩ = some (.int .i64 2) /\ w.cell? ⟨g, 28, none⟩ = some (.int .i64 1) /\ w.cell? ⟨g, 39, none⟩ = some (.int .i64 1) /\ gq < w.heap.size
theorem CA.of {w : World} {B : Nat} {ao : Option Addr} {k : Nat} (h : OpsAt w B ao 7 k cA.ops) : CA w B ao k := by
  refine ⟨h, ?_⟩
  obtain ⟨xs, h1, h2, h3, h4⟩ := h
  obtain ⟨g, rfl, hc⟩ := own_cell8 h3 (by decide)
  match xs, h1 with
  | [x0, x1, x2, x3, x4, x5, x6], _ =>
    simp only [cA, List.map_cons, List.map_nil, List.cons.injEq, and_true] at h2
    obtain ⟨e0, e1, e2, e3, e4, e5, e6⟩ := h2
    have hI := h4 x3 (by simp)
    rw [← e3] at hI
    rcases hI with ⟨hn, _⟩ | ⟨gq, oq, cq, cs, fr, hv, hl, hg, hz⟩
    . cases hn
    . refine ⟨g, gq, oq, cq, rfl, (own_lt h3 g rfl).2, ?_, ?_, ?_, ?_, ?_, (Array.getElem?_eq_some_iff.1 hg).1⟩
      . refine hc 13 _ ?_
        show some (Value.int .i64 x2.1.gate) = _
        rw [← e2]
      . refine hc 20 _ ?_
        show some x3.2 = _
        rw [hv]
        rfl
      . rw [cell_of_row _ _ _ _ _ _ hg]
        exact hz 1 2 rfl
      . refine hc 28 _ ?_
        show some (Value.int .i64 x4.1.cond) = _
        rw [← e4]
      . refine hc 39 _ ?_
        show some (Value.int .i64 x6.1.bit) = _
        rw [← e6]
theorem CA.below {w w' : World} {B : Nat} {ao : Option Addr} {k : Nat} (h : CA w B ao k) (hb : Below w.heap.size w w') : CA w' B ao k := CA.of (h.ops.below hb)
theorem CA.ci {w : World} {B : Nat} {ao : Option Addr} {k : Nat} (h : CA w B ao k) : Ci w cA ao k := ⟨h.ops.rd.1, h.ops.rd.2, by decide, by decide⟩
theorem aParse (l : List UInt8) (hl : l.length <= 1000) (hk : okB l = true) (hp : parP l = .ok cA) (w : World) (hT : Tq w) : Calls Tryz.prog 25 #[str l] w fun e w' => ∃ ao k, e = .returned (.tuple #[.agg #[.int .i64 3, .int .i64 2, .slice ao 7 k], .agg #[.int .i64 0, .int .i64 0, .int .i64 0, .int .i64 0]]) /\ CA w' w.heap.size ao k /\ Below w.heap.size w w' := by
  refine (cParse l (by omega) w hT.tx.tw hT.tb hT.te (okB_bad hk) (okB_ok hk)).mono ?_
  intro e w' h
  unfold PPa at h
  rw [hp] at h
  obtain ⟨hb, ao, k, rfl, ho⟩ := h
  exact ⟨ao, k, rfl, CA.of ho, hb⟩
theorem aParseB (w : World) (hT : Tq w) : Calls Tryz.prog 25 #[str txB] w fun e w' => e = .returned (.tuple #[.agg #[.int .i64 0, .int .i64 0, .slice none 0 0], .agg #[.int .i64 85, .int .i64 25, .int .i64 1, .int .i64 26]]) /\ Below w.heap.size w w' := by
  refine (cParse txB (by decide) w hT.tx.tw hT.tb hT.te (okB_bad okBB) (okB_ok okBB)).mono ?_
  intro e w' h
  unfold PPa at h
  rw [parB] at h
  exact ⟨h.2, h.1⟩
theorem aPrint (ao : Option Addr) (k B : Nat) (w : World) (hT : Tq w) (hC : CA w B ao k) : Calls Tryz.prog 27 #[.agg #[.int .i64 3, .int .i64 2, .slice ao 7 k]] w fun e w' => e = .returned (.tuple #[str txP, .int .i64 0]) /\ Below w.heap.size w w' := by
  have h := cPrint cA ao k chkA w hT.tb hT.tx.ten hC.ci
  rw [prA] at h
  exact h
def cN : Circ := ⟨1, 0, [⟨3, 0, [1], 0, -1, 0⟩]⟩
theorem chkN : chkC cN = (0, 80) := by decide +kernel
theorem aCheck (g gq : Nat) (w : World) (hT : Tq w) (hg : w.heap[g]? = some (.cells #[.int .i64 3, .int .i64 0, .slice (some ⟨gq, 0, none⟩) 1 1, .int .i64 0, .int .i64 (-1), .int .i64 0] 40 (0, 0))) (hq : w.heap[gq]? = some (.cells #[.int .i64 1] 3 (0, 0))) : Calls Tryz.prog 9 #[.agg #[.int .i64 1, .int .i64 0, .slice (some ⟨g, 0, none⟩) 1 1]] w fun e w' => e = .returned (.tuple #[.int .i64 0, .int .i64 80]) /\ Below w.heap.size w w' := by
  obtain ⟨y0, y1, y2, y3, y4, y5, y6⟩ := op6_cells hg
  have h := cCheck cN (some ⟨g, 0, none⟩) 1 w hT.tb ⟨.inr ⟨g, 0, rfl, fun i o ho => by
    match i, ho with
    | 0, ho =>
      simp only [cN, List.getElem?_cons_zero, Option.some.injEq] at ho
      subst ho
      refine ⟨some ⟨gq, 0, none⟩, 1, y0, y1, y2, y3, y4, y5, Nat.le_refl _, .inr ⟨gq, 0, rfl, fun j z hz => ?_⟩⟩
      match j, hz with
      | 0, hz =>
        simp only [List.getElem?_cons_zero, Option.some.injEq] at hz
        subst hz
        rw [cell_of_row _ _ _ _ _ _ hq]
        rfl
      | j + 1, hz => simp at hz
    | i + 1, ho => simp [cN] at ho⟩, by decide, by decide, by decide⟩
  rw [chkN] at h
  exact h
theorem smlA : Sml cA.ops := by unfold Sml; decide
theorem aAppend (ao bo : Option Addr) (k j B B' : Nat) (w : World) (hT : Tq w) (hA : CA w B ao k) (hD : CA w B' bo j) : Calls Tryz.prog 46 #[.agg #[.int .i64 3, .int .i64 2, .slice ao 7 k], .agg #[.int .i64 3, .int .i64 2, .slice bo 7 j]] w fun e w' => ∃ (g cap : Nat), e = .returned (.tuple #[.agg #[.int .i64 3, .int .i64 2, .slice (some ⟨g, 0, none⟩) 14 cap], .int .i64 0]) /\ Below w.heap.size w w' := by
  refine (cAppend cA cA ao bo k j chkA chkA (by decide) (by decide) smlA smlA w hT.tb hA.ci hD.ci).mono ?_
  rintro e w' ⟨g, cap, rfl, _, hb⟩
  exact ⟨g, cap, rfl, hb⟩
theorem aEmbed (ao : Option Addr) (k B : Nat) (w : World) (hT : Tq w) (hA : CA w B ao k) : Calls Tryz.prog 47 #[.agg #[.int .i64 3, .int .i64 2, .slice ao 7 k], .slice none 0 0, .slice none 0 0, .int .i64 3, .int .i64 2] w fun e w' => e = .returned (.tuple #[.agg #[.int .i64 0, .int .i64 0, .slice none 0 0], .int .i64 2]) /\ Below w.heap.size w w' :=
  cEmbed_no cA ao k none none 0 0 0 0 3 2 chkA (by decide) w hT.tb hA.ci
theorem cntA : cntF cA.ops 2 = .int .i64 2 := by kernel_rfl
theorem aCounts (ao : Option Addr) (k B : Nat) (w : World) (hT : Tq w) (hA : CA w B ao k) : Calls Tryz.prog 11 #[.agg #[.int .i64 3, .int .i64 2, .slice ao 7 k]] w fun e w' => ∃ g, e = .returned (.slice (some ⟨g, 0, none⟩) 21 21) /\ w'.cell? ⟨g, 2, none⟩ = some (.int .i64 2) /\ g < w'.heap.size /\ Below w.heap.size w w' := by
  refine (cCounts cA ao k w hT.tb hA.ci).mono ?_
  rintro e w' ⟨g, rfl, hR, _, hb⟩
  exact ⟨g, rfl, (hR.cell 2 (by decide)).trans (by rw [cntA]), hR.lt, hb⟩
theorem aSame (ao bo : Option Addr) (k j B B' : Nat) (w : World) (hA : CA w B ao k) (hD : CA w B' bo j) : Calls Tryz.prog 24 #[.agg #[.int .i64 3, .int .i64 2, .slice ao 7 k], .agg #[.int .i64 3, .int .i64 2, .slice bo 7 j]] w fun e w' => e = .returned (.bool true) /\ Below w.heap.size w w' := by
  have h := cSame cA cA ao bo k j w hA.ci hD.ci
  rw [decide_eq_true rfl] at h
  exact h
theorem aCopy (ao : Option Addr) (k B : Nat) (w : World) (hA : CA w B ao k) : Calls Tryz.prog 20 #[.agg #[.int .i64 3, .int .i64 2, .slice ao 7 k]] w fun e w' => ∃ bo j, e = .returned (.agg #[.int .i64 3, .int .i64 2, .slice bo 7 j]) /\ CA w' w.heap.size bo j /\ Below w.heap.size w w' := by
  refine (cCopy cA ao k smlA w hA.ci).mono ?_
  rintro e w' ⟨bo, j, rfl, ho, hb⟩
  exact ⟨bo, j, rfl, CA.of ho, hb⟩
theorem aHalves (ao : Option Addr) (k B : Nat) (w : World) (hT : Tq w) (hA : CA w B ao k) : Calls Tryz.prog 14 #[.agg #[.int .i64 3, .int .i64 2, .slice ao 7 k]] w fun e w' => e = .returned (.int .i64 1) /\ Below w.heap.size w w' := by
  have h := cHalves cA ao k w hT.tb hA.ci
  rw [show hlvP cA.ops = 1 by decide +kernel] at h
  exact h
theorem aUnitary (ao : Option Addr) (k B : Nat) (w : World) (hA : CA w B ao k) : Calls Tryz.prog 16 #[.agg #[.int .i64 3, .int .i64 2, .slice ao 7 k]] w fun e w' => e = .returned (.bool false) /\ Below w.heap.size w w' := by
  have h := cUnitary cA ao k w hA.ci
  rw [show (!cA.ops.any unO) = false by decide +kernel] at h
  exact h
theorem aClifford (ao : Option Addr) (k B : Nat) (w : World) (hT : Tq w) (hA : CA w B ao k) : Calls Tryz.prog 18 #[.agg #[.int .i64 3, .int .i64 2, .slice ao 7 k]] w fun e w' => e = .returned (.bool true) /\ Below w.heap.size w w' := by
  have h := cClifford cA ao k w hT.tb hA.ci
  rw [show (!cA.ops.any clO) = true by decide +kernel] at h
  exact h
theorem aNum (z : Int) (w : World) : Calls Tryz.prog 13 #[.int .i64 z] w fun e w' => e = .returned (.int .i64 z) /\ w' = w := by
  go_enter Tryz.func13, Tryz.ntmps13
  go_wp2_with fail
  go_ret
  exact ⟨rfl, rfl⟩
end Go.Proofs.YtkbodljmkhnebaaGreatDoor.Cir
