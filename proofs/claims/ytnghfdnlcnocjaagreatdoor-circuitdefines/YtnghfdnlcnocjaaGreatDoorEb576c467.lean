import Derived.StillTail
import Derived.Lib.SlicesCompact
import Derived.Test.YtnghfdnlcnocjaaGreatDoorE06ae520f
set_option maxRecDepth 100000
set_option maxHeartbeats 4000000
namespace Go.Proofs.YtnghfdnlcnocjaaGreatDoor.Cir
open Go.RowKit Go.Shelf Go.Proofs.YtnghfdnlcnocjaaGreatDoor.Oct Go.Proofs.YtnghfdnlcnocjaaGreatDoor.Tok Go.Proofs.YtnghfdnlcnocjaaGreatDoor.Gt
def RowO (w : World) (B : Nat) (v : Value) (l : List Int) : Prop := ∃ ao c, v = .slice ao l.length c /\ w.ownsRow B 3 1 (.slice ao l.length c) l.length (l.map (Value.int .i64))
theorem RowO.block {w w' : World} {B : Nat} {v : Value} {l : List Int} (h : RowO w B v l) (hk : ∀ (g : Nat) (cs : Array Value) (fr : Nat × Nat), w.heap[g]? = some (Obj.cells cs 3 fr) -> w'.heap[g]? = w.heap[g]?) : RowO w' B v l := by
  obtain ⟨ao, c, e, h⟩ := h
  refine ⟨ao, c, e, own_of_block h fun k hk' => ?_⟩
  obtain ⟨cs, fr, hg⟩ := own_cells' h hk'
  exact hk k cs fr hg
theorem RowO.below {w w' : World} {B : Nat} {v : Value} {l : List Int} (h : RowO w B v l) (hb : Below w.heap.size w w') : RowO w' B v l := h.block fun g _ _ hg => hb.block g (Array.getElem?_eq_some_iff.1 hg).1
theorem RowO.base {w : World} {B B' : Nat} {v : Value} {l : List Int} (h : RowO w B v l) (hb : B' <= B) : RowO w B' v l := by
  obtain ⟨ao, c, e, h1, h2⟩ := h
  refine ⟨ao, c, e, h1, ?_⟩
  rcases h2 with h2 | ⟨g, cap, cur, e1, e2, e3⟩
  . exact .inl h2
  . exact .inr ⟨g, cap, cur, e1, Nat.le_trans hb e2, e3⟩
theorem RowO.lt {w : World} {B : Nat} {v : Value} {l : List Int} (h : RowO w B v l) {g : Nat} (hg : v.ownBlock = some g) : B <= g /\ g < w.heap.size := by
  obtain ⟨ao, c, e, h⟩ := h
  subst e
  exact own_lt h g (by rw [← ob_eq]; exact hg)
theorem RowO.isI {w : World} {B : Nat} {v : Value} {l : List Int} (h : RowO w B v l) : IsI w v l := by
  obtain ⟨ao, c, e, h⟩ := h
  rcases h.2 with ⟨hv, h0⟩ | ⟨g, cap, cur, hv, -⟩
  . exact .inl ⟨List.length_eq_zero_iff.1 h0, ao, c, by rw [e, h0]⟩
  . simp only [Value.slice.injEq] at hv
    obtain ⟨rfl, -, rfl⟩ := hv
    rw [e]
    exact IsI.of_own h
def Pw (ys : List (COp × Value)) : Prop := ys.Pairwise fun x y => ∀ g, x.2.ownBlock = some g -> y.2.ownBlock = some g -> False
theorem Pw.snoc {ys : List (COp × Value)} {y : COp × Value} (h : Pw ys) (hn : ∀ x ∈ ys, ∀ g, x.2.ownBlock = some g -> y.2.ownBlock = some g -> False) : Pw (ys ++ [y]) := by
  unfold Pw
  rw [List.pairwise_append]
  exact ⟨h, List.pairwise_singleton _ _, fun a ha b hb => by rw [List.mem_singleton] at hb; subst hb; exact hn a ha⟩
def OpsOwn (w : World) (B : Nat) (ao : Option Addr) (n c : Nat) (ops : List COp) : Prop := ∃ xs : List (COp × Value), n = xs.length /\ ops = xs.map (·.1) /\ w.ownsRow B 34 6 (.slice ao n c) n (xs.flatMap opC) /\ (∀ x ∈ xs, RowO w B x.2 x.1.qs) /\ Pw xs
theorem OpsOwn.at {w : World} {B : Nat} {ao : Option Addr} {n c : Nat} {ops : List COp} (h : OpsOwn w B ao n c ops) : OpsAt w B ao n c ops := by
  obtain ⟨xs, h1, h2, h3, h4, -⟩ := h
  exact ⟨xs, h1, h2, h3, fun x hx => (h4 x hx).isI⟩
theorem OpsOwn.kept {w w' : World} {B : Nat} {ao : Option Addr} {n c : Nat} {ops : List COp} (h : OpsOwn w B ao n c ops) (hb : ∀ g, B <= g -> g < w.heap.size -> w'.heap[g]? = w.heap[g]?) : OpsOwn w' B ao n c ops := by
  obtain ⟨xs, h1, h2, h3, h4, h5⟩ := h
  refine ⟨xs, h1, h2, own_of_block h3 (fun k hk => hb k (own_lt h3 k hk).1 (own_lt h3 k hk).2), fun x hx => ?_, h5⟩
  obtain ⟨ao, c, e, h⟩ := h4 x hx
  exact ⟨ao, c, e, own_of_block h (fun k hk => hb k (own_lt h k hk).1 (own_lt h k hk).2)⟩
theorem OpsOwn.base {w : World} {B B' : Nat} {ao : Option Addr} {n c : Nat} {ops : List COp} (h : OpsOwn w B ao n c ops) (hb : B' <= B) : OpsOwn w B' ao n c ops := by
  obtain ⟨xs, h1, h2, h3, h4, h5⟩ := h
  refine ⟨xs, h1, h2, ⟨h3.1, ?_⟩, fun x hx => (h4 x hx).base hb, h5⟩
  rcases h3.2 with h2 | ⟨g, cap, cur, e1, e2, e3⟩
  . exact .inl h2
  . exact .inr ⟨g, cap, cur, e1, Nat.le_trans hb e2, e3⟩
theorem OpsOwn.below {w w' : World} {B : Nat} {ao : Option Addr} {n c : Nat} {ops : List COp} (h : OpsOwn w B ao n c ops) (hb : Below w.heap.size w w') : OpsOwn w' B ao n c ops := h.kept fun g _ hg => hb.block g hg
theorem OpsOwn.row {w : World} {B : Nat} {ao : Option Addr} {n c : Nat} {ops : List COp} (h : OpsOwn w B ao n c ops) {g : Nat} {cs : Array Value} {t : TypeId} {fr : Nat × Nat} (hg : w.heap[g]? = some (.cells cs t fr)) (h1 : t ≠ 34) (h2 : t ≠ 3) (cs' : Array Value) : OpsOwn (w.setRow g cs') B ao n c ops := by
  obtain ⟨xs, e1, e2, e3, e4, e5⟩ := h
  refine ⟨xs, e1, e2, own_of_block e3 (fun k hk => setRow_other _ _ _ _ (fun e => ?_)), fun x hx => (e4 x hx).block (fun b cs2 fr2 hb => setRow_other _ _ _ _ (fun e => ?_)), e5⟩
  . subst e
    exact own_ne e3 hg h1 hk
  . subst e
    rw [hg] at hb
    cases hb
    exact h2 rfl
theorem OpsOwn.push {w w' : World} {B : Nat} {ao : Option Addr} {n c : Nat} {ops : List COp} {xs : List (COp × Value)} (h1 : n = xs.length) (h2 : ops = xs.map (·.1)) (h3 : w.ownsRow B 34 6 (.slice ao n c) n (xs.flatMap opC)) (h4 : ∀ x ∈ xs, RowO w B x.2 x.1.qs) (h5 : Pw xs) (op : COp) (v : Value) (hv : RowO w B v op.qs) (hnew : ∀ x ∈ xs, ∀ g, x.2.ownBlock = some g -> v.ownBlock = some g -> False) {g cap : Nat} (hg : w.grownBy w' (ob ao))
    (ho : w'.ownsRow B 34 6 (.slice (some ⟨g, 0, none⟩) (n + 1) cap) (n + 1) (xs.flatMap opC ++ opC (op, v))) : OpsOwn w' B (some ⟨g, 0, none⟩) (n + 1) cap (ops ++ [op]) := by
  have hno : ∀ (b : Nat) (cs : Array Value) (fr : Nat × Nat), w.heap[b]? = some (Obj.cells cs 3 fr) -> w'.heap[b]? = w.heap[b]? := fun b cs fr hb => hg.block b (Array.getElem?_eq_some_iff.1 hb).1 (own_ne h3 hb (by decide)).symm
  refine ⟨xs ++ [(op, v)], by rw [List.length_append, ← h1]; rfl, by rw [List.map_append, ← h2]; rfl, by rw [List.flatMap_append]; simpa using ho, fun x hx => ?_, h5.snoc hnew⟩
  rcases List.mem_append.1 hx with e | e
  . exact (h4 x e).block hno
  . rw [List.mem_singleton] at e
    rw [e]
    exact hv.block hno
def DOwn (w : World) (B E : Nat) (bo : Option Addr) (n j : Nat) (ls : List Nat) : Prop := ∃ xs, w.ownsRow B 34 6 (.slice bo n j) n xs /\ (∀ g, ob bo = some g -> g < E) /\ n = ls.length /\ ∀ i m, ls[i]? = some m -> ∃ ao c ys, xs[i * 6 + 2]? = some (.slice ao m c) /\ w.ownsRow B 3 1 (.slice ao m c) m ys /\ ∀ g, ob ao = some g -> g < E
theorem DOwn.kept {w w' : World} {B E : Nat} {bo : Option Addr} {n j : Nat} {ls : List Nat} (h : DOwn w B E bo n j ls) (hb : ∀ g, B <= g -> g < E -> w'.heap[g]? = w.heap[g]?) : DOwn w' B E bo n j ls := by
  obtain ⟨xs, h1, h2, h3, h4⟩ := h
  refine ⟨xs, own_of_block h1 (fun k hk => hb k (own_lt h1 k hk).1 (h2 k hk)), h2, h3, fun i m hm => ?_⟩
  obtain ⟨ao, c, ys, e1, e2, e3⟩ := h4 i m hm
  exact ⟨ao, c, ys, e1, own_of_block e2 (fun k hk => hb k (own_lt e2 k hk).1 (e3 k hk)), e3⟩
theorem own_some {w : World} {B e size n : Nat} {ao : Option Addr} {m c : Nat} {xs : List Value} (h : w.ownsRow B e size (.slice ao m c) n xs) (h0 : 0 < n) : ∃ g, ao = some ⟨g, 0, none⟩ /\ m = n := by
  rcases h.2 with ⟨hv, h0'⟩ | ⟨g', cap, cur, hv, -⟩
  . omega
  . simp only [Value.slice.injEq] at hv
    exact ⟨g', hv.1, hv.2.1⟩
def SAp (x : Nat) (q1 b1 q2 b2 : Int) (v1 v2 : Value) (V : World) : Prop := V.cell? ⟨x, 0, none⟩ = some (.int .i64 q1) /\ V.cell? ⟨x, 1, none⟩ = some (.int .i64 b1) /\ V.cell? ⟨x, 2, none⟩ = some v1 /\ V.cell? ⟨x + 1, 0, none⟩ = some (.int .i64 q2) /\ V.cell? ⟨x + 1, 1, none⟩ = some (.int .i64 b2) /\ V.cell? ⟨x + 1, 2, none⟩ = some v2
theorem SAp.kept {x : Nat} {q1 b1 q2 b2 : Int} {v1 v2 : Value} {V V' : World} (h : SAp x q1 b1 q2 b2 v1 v2 V) (hk : ∀ b, b = x ∨ b = x + 1 -> b < V.heap.size -> V'.heap[b]? = V.heap[b]?) : SAp x q1 b1 q2 b2 v1 v2 V' := by
  obtain ⟨h0, h1, h2, h3, h4, h5⟩ := h
  have k0 := hk x (.inl rfl) (World.block_lt_of_cell? _ _ h0)
  have k1 := hk (x + 1) (.inr rfl) (World.block_lt_of_cell? _ _ h3)
  exact ⟨(World.cell?_of_block (w := V) k0).trans h0, (World.cell?_of_block (w := V) k0).trans h1, (World.cell?_of_block (w := V) k0).trans h2, (World.cell?_of_block (w := V) k1).trans h3, (World.cell?_of_block (w := V) k1).trans h4, (World.cell?_of_block (w := V) k1).trans h5⟩
theorem opC_one {w : World} {ys : List (COp × Value)} (h : ∀ x ∈ ys, IsI w x.2 x.1.qs) : ∀ u ∈ ys.flatMap opC, u.oneCell' = true := by
  intro u hu
  obtain ⟨x, hx, hux⟩ := List.mem_flatMap.1 hu
  obtain ⟨aq, cq, hv, _⟩ := (h x hx).ns
  unfold opC at hux
  rw [hv] at hux
  simp only [List.mem_cons, List.not_mem_nil, or_false] at hux
  rcases hux with rfl | rfl | rfl | rfl | rfl | rfl <;> rfl
theorem OpsAt.join {w w' : World} {B g1 n1 c1 n2 g cap : Nat} {l1 l2 : List COp} {ys2 : List (COp × Value)} (h1 : OpsAt w B (some ⟨g1, 0, none⟩) n1 c1 l1) (e2 : l2 = ys2.map (·.1)) (hn2 : n2 = ys2.length) (hI2 : ∀ x ∈ ys2, IsI w x.2 x.1.qs) (hg : w.grownBy w' (some g1)) (ho : w'.ownsRow B 34 6 (.slice (some ⟨g, 0, none⟩) (n1 + n2) cap) (n1 + n2) ((h1.choose).flatMap opC ++ ys2.flatMap opC)) : OpsAt w' B (some ⟨g, 0, none⟩) (n1 + n2) cap (l1 ++ l2) := by
  obtain ⟨a1, a2, a3, a4⟩ := h1.choose_spec
  obtain ⟨gc, gf, hgc⟩ := own_cells' a3 (k := g1) rfl
  have hk : ∀ (b : Nat) (cs : Array Value) (fr : Nat × Nat), w.heap[b]? = some (Obj.cells cs 3 fr) -> w'.heap[b]? = w.heap[b]? := fun b cs fr hb => hg.block b (Array.getElem?_eq_some_iff.1 hb).1 (fun e => by
    cases e
    rw [hgc] at hb
    simp at hb)
  refine ⟨h1.choose ++ ys2, by rw [List.length_append, ← a1, ← hn2], by rw [List.map_append, ← a2, ← e2], by rw [List.flatMap_append]; exact ho, fun x hx => ?_⟩
  rcases List.mem_append.1 hx with hx | hx
  . exact (a4 x hx).block hk
  . exact (hI2 x hx).block hk
theorem cAppend (a b : Circ) (ao bo : Option Addr) (k j : Nat) (ha : (chkC a).2 = 0) (hb : (chkC b).2 = 0) (hl : a.ops.length + b.ops.length <= 4096) (h0 : 0 < b.ops.length) (hSa : Sml a.ops) (hSb : Sml b.ops) (w : World) (hT : Tb w) (hA : Ci w a ao k) (hB : Ci w b bo j) : Calls Tryz.prog 15 #[cV a ao k, cV b bo j] w fun e w' => ∃ (g cap : Nat), e = .returned (.tuple #[.agg #[.int .i64 (max a.q b.q), .int .i64 (max a.b b.b), .slice (some ⟨g, 0, none⟩) (a.ops.length + b.ops.length) cap], .int .i64 0]) /\ OpsAt w' w.heap.size (some ⟨g, 0, none⟩) (a.ops.length + b.ops.length) cap (a.ops ++ b.ops) /\ Below w.heap.size w w' := by
  have c1 := fun V (h : Below w.heap.size w V) => cCheck a ao k V (hT.below h) (hA.below h)
  have c2 := fun V (h : Below w.heap.size w V) => cCheck b bo j V (hT.below h) (hB.below h)
  have c3 := fun V (h : Below w.heap.size w V) => cCopyOps a.ops ao k hSa V (hA.ops.below h)
  have c4 := fun V (h : Below w.heap.size w V) => cCopyOps b.ops bo j hSb V (hB.ops.below h)
  rw [ha] at c1
  rw [hb] at c2
  obtain ⟨q1, b1, l1⟩ := a
  obtain ⟨q2, b2, l2⟩ := b
  unfold cV at *
  simp only at *
  generalize (chkC ⟨q1, b1, l1⟩).1 = z1 at *
  generalize (chkC ⟨q2, b2, l2⟩).1 = z2 at *
  generalize hn1 : l1.length = n1 at *
  generalize hn2 : l2.length = n2 at *
  have hwr : IntKind.i64.wrap ((n1 : Int) + (n2 : Int)) = (n1 : Int) + (n2 : Int) := wrapN _ (by omega) (by omega)
  have d1 : decide ((n1 : Int) + (n2 : Int) > 4096) = false := decide_eq_false (by omega)
  have d2 : decide ((4096 : Int) < (n1 : Int) + (n2 : Int)) = false := decide_eq_false (by omega)
  obtain ⟨i0, hi, hz0, hz1, hz2⟩ := info_parts infoOp
  have HN2 := hide hn2
  clear hA hB hSa hSb ha hb hn1 hn2
  have hW : Below w.heap.size w (((w.alloc (.cells #[.int .i64 q1, .int .i64 b1, .slice ao n1 k] 24)).alloc (.cells #[.int .i64 q2, .int .i64 b2, .slice bo n2 j] 24)).alloc (.cells #[.int .i64 0, .int .i64 0, .slice none 0 0] 24)) /\ (((w.alloc (.cells #[.int .i64 q1, .int .i64 b1, .slice ao n1 k] 24)).alloc (.cells #[.int .i64 q2, .int .i64 b2, .slice bo n2 j] 24)).alloc (.cells #[.int .i64 0, .int .i64 0, .slice none 0 0] 24)).heap[w.heap.size]? = some (.cells #[.int .i64 q1, .int .i64 b1, .slice ao n1 k] 24) /\ (((w.alloc (.cells #[.int .i64 q1, .int .i64 b1, .slice ao n1 k] 24)).alloc (.cells #[.int .i64 q2, .int .i64 b2, .slice bo n2 j] 24)).alloc (.cells #[.int .i64 0, .int .i64 0, .slice none 0 0] 24)).heap[w.heap.size + 1]? = some (.cells #[.int .i64 q2, .int .i64 b2, .slice bo n2 j] 24) /\ (((w.alloc (.cells #[.int .i64 q1, .int .i64 b1, .slice ao n1 k] 24)).alloc (.cells #[.int .i64 q2, .int .i64 b2, .slice bo n2 j] 24)).alloc (.cells #[.int .i64 0, .int .i64 0, .slice none 0 0] 24)).heap[w.heap.size + 1 + 1]? = some (.cells #[.int .i64 0, .int .i64 0, .slice none 0 0] 24) := by
    refine ⟨(bnew _ _).trans (((bnew _ _).trans ((bnew _ _).mono (by simp))).mono (by simp)), (Below.heap_alloc _ _ _ (by simp; omega)).trans ((Below.heap_alloc _ _ _ (by simp)).trans (heap_alloc_new _ _)), (Below.heap_alloc _ _ _ (by simp)).trans ?_, ?_⟩
    . have := heap_alloc_new (w.alloc (.cells #[.int .i64 q1, .int .i64 b1, .slice ao n1 k] 24)) (.cells #[.int .i64 q2, .int .i64 b2, .slice bo n2 j] 24); simpa using this
    . have := heap_alloc_new ((w.alloc (.cells #[.int .i64 q1, .int .i64 b1, .slice ao n1 k] 24)).alloc (.cells #[.int .i64 q2, .int .i64 b2, .slice bo n2 j] 24)) (.cells #[.int .i64 0, .int .i64 0, .slice none 0 0] 24); simpa using this
  have HW := hide hW
  have HP : Hid (∀ V, Below (((w.alloc (.cells #[.int .i64 q1, .int .i64 b1, .slice ao n1 k] 24)).alloc (.cells #[.int .i64 q2, .int .i64 b2, .slice bo n2 j] 24)).alloc (.cells #[.int .i64 0, .int .i64 0, .slice none 0 0] 24)).heap.size (((w.alloc (.cells #[.int .i64 q1, .int .i64 b1, .slice ao n1 k] 24)).alloc (.cells #[.int .i64 q2, .int .i64 b2, .slice bo n2 j] 24)).alloc (.cells #[.int .i64 0, .int .i64 0, .slice none 0 0] 24)) V -> Below w.heap.size w V /\ V.heap[w.heap.size]? = some (.cells #[.int .i64 q1, .int .i64 b1, .slice ao n1 k] 24) /\ V.heap[w.heap.size + 1]? = some (.cells #[.int .i64 q2, .int .i64 b2, .slice bo n2 j] 24) /\ V.heap[w.heap.size + 1 + 1]? = some (.cells #[.int .i64 0, .int .i64 0, .slice none 0 0] 24) /\ w.heap.size + 3 <= V.heap.size) := hide (fun V h => ⟨hW.1.trans (h.mono hW.1.size), (h.block _ (by simp; omega)).trans hW.2.1, (h.block _ (by simp)).trans hW.2.2.1, (h.block _ (by simp)).trans hW.2.2.2, by have := h.size; simpa using this⟩)
  clear hW
  go_enter Tryz.func15, Tryz.ntmps15
  go_wp2_with (first
    | (go_at_call_of 4 (Value.agg #[.int .i64 q1, .int .i64 b1, .slice ao n1 k]); refine (c1 _ HW.out.1).mono ?_; clear c1; rintro e w1 ⟨rfl, hb1⟩; obtain ⟨p1, m1, m2, m3, m4⟩ := HP.out w1 hb1; obtain ⟨x0, x1, x2, x3⟩ := def_cells m1; obtain ⟨y0, y1, y2, y3⟩ := def_cells m2)
    | (go_at_call 4; refine (c2 _ p1).mono ?_; rintro e w2 ⟨rfl, hb2⟩; have hb2' := Below.trans hb1 (hb2.mono hb1.size); obtain ⟨p2, m1, m2, m3, m4⟩ := HP.out w2 hb2'; obtain ⟨x0, x1, x2, x3⟩ := def_cells m1; obtain ⟨y0, y1, y2, y3⟩ := def_cells m2))
  have hS0 : SAp w.heap.size q1 b1 q2 b2 (.slice ao n1 k) (.slice bo n2 j) w2.drew := ⟨x0, x1, x2, y0, y1, y2⟩
  have HM3 := hide m3
  have HP2 := hide p2
  have c3' := c3 w2.drew (p2.drew)
  refine wp_region_held_drew (S := SAp w.heap.size q1 b1 q2 b2 (.slice ao n1 k) (.slice bo n2 j)) (by kernel_rfl) hS0 (fun hHeld => ?_)
  refine take_to (i := 0) (d := 37) (v := ?_) rfl rfl (by kernel_rfl) (by kernel_rfl) (by kernel_rfl) (fun _ _ _ h => h) (Or.inl ⟨by rfl, ?_⟩) (by assumption) ?_
  rotate_left 1
  . intro W hSw
    obtain ⟨s0, s1, s2, t0, t1, t2⟩ := hSw
    go_simp
    with_reducible rfl
  simp only [Act.put, List.setIfInBounds_toArray, List.set_cons_zero, List.set_cons_succ]
  refine take_to (i := 1) (d := 38) (v := ?_) rfl rfl (by kernel_rfl) (by kernel_rfl) (by kernel_rfl) (fun _ _ _ h => h) (Or.inl ⟨by rfl, ?_⟩) (by assumption) ?_
  rotate_left 1
  . intro W hSw
    obtain ⟨s0, s1, s2, t0, t1, t2⟩ := hSw
    go_simp
    with_reducible rfl
  simp only [Act.put, List.setIfInBounds_toArray, List.set_cons_zero, List.set_cons_succ]
  refine take_to (i := 2) (d := 39) (v := ?_) rfl rfl (by kernel_rfl) (by kernel_rfl) (by kernel_rfl) (fun _ _ _ h => h) (Or.inl ⟨by rfl, ?_⟩) (by assumption) ?_
  rotate_left 1
  . intro W hSw
    obtain ⟨s0, s1, s2, t0, t1, t2⟩ := hSw
    go_simp
    with_reducible rfl
  simp only [Act.put, List.setIfInBounds_toArray, List.set_cons_zero, List.set_cons_succ]
  refine take_to (i := 3) (d := 40) (v := ?_) rfl rfl (by kernel_rfl) (by kernel_rfl) (by kernel_rfl) (fun _ _ _ h => h) (Or.inl ⟨by rfl, ?_⟩) (by assumption) ?_
  rotate_left 1
  . intro W hSw
    obtain ⟨s0, s1, s2, t0, t1, t2⟩ := hSw
    go_simp
    with_reducible rfl
  simp only [Act.put, List.setIfInBounds_toArray, List.set_cons_zero, List.set_cons_succ]
  refine take_to (i := 4) (d := 41) (v := ?_) rfl rfl (by kernel_rfl) (by kernel_rfl) (by kernel_rfl) (fun _ _ _ h => h) (Or.inl ⟨by rfl, ?_⟩) (by assumption) ?_
  rotate_left 1
  . intro W hSw
    obtain ⟨s0, s1, s2, t0, t1, t2⟩ := hSw
    go_simp
    with_reducible rfl
  simp only [Act.put, List.setIfInBounds_toArray, List.set_cons_zero, List.set_cons_succ]
  refine take_to (i := 5) (d := 42) (v := ?_) rfl rfl (by kernel_rfl) (by kernel_rfl) (by kernel_rfl) (fun _ _ _ h => h) (Or.inl ⟨by rfl, ?_⟩) (by assumption) ?_
  rotate_left 1
  . intro W hSw
    obtain ⟨s0, s1, s2, t0, t1, t2⟩ := hSw
    go_simp
    with_reducible rfl
  simp only [Act.put, List.setIfInBounds_toArray, List.set_cons_zero, List.set_cons_succ]
  refine take_to (i := 6) (d := 43) (v := ?_) rfl rfl (by kernel_rfl) (by kernel_rfl) (by kernel_rfl) (fun _ _ _ h => h) (Or.inl ⟨by rfl, ?_⟩) (by assumption) ?_
  rotate_left 1
  . intro W hSw
    obtain ⟨s0, s1, s2, t0, t1, t2⟩ := hSw
    go_simp
    with_reducible rfl
  simp only [Act.put, List.setIfInBounds_toArray, List.set_cons_zero, List.set_cons_succ]
  refine take_to (i := 7) (d := 44) (v := ?_) rfl rfl (by kernel_rfl) (by kernel_rfl) (by kernel_rfl) (fun _ _ _ h => h) (Or.inl ⟨by rfl, ?_⟩) (by assumption) ?_
  rotate_left 1
  . intro W hSw
    obtain ⟨s0, s1, s2, t0, t1, t2⟩ := hSw
    go_simp
    with_reducible rfl
  simp only [Act.put, List.setIfInBounds_toArray, List.set_cons_zero, List.set_cons_succ]
  refine take_to (i := 8) (d := 45) (v := ?_) rfl rfl (by kernel_rfl) (by kernel_rfl) (by kernel_rfl) (fun _ _ _ h => h) (Or.inl ⟨by rfl, ?_⟩) (by assumption) ?_
  rotate_left 1
  . intro W hSw
    obtain ⟨s0, s1, s2, t0, t1, t2⟩ := hSw
    go_simp
    with_reducible rfl
  simp only [Act.put, List.setIfInBounds_toArray, List.set_cons_zero, List.set_cons_succ]
  refine take_to (i := 9) (d := 46) (v := ?_) rfl rfl (by kernel_rfl) (by kernel_rfl) (by kernel_rfl) (fun _ _ _ h => h) (Or.inl ⟨by rfl, ?_⟩) (by assumption) ?_
  rotate_left 1
  . intro W hSw
    obtain ⟨s0, s1, s2, t0, t1, t2⟩ := hSw
    go_simp
    with_reducible rfl
  simp only [Act.put, List.setIfInBounds_toArray, List.set_cons_zero, List.set_cons_succ]
  refine take_to (i := 10) (d := 47) (v := ?_) rfl rfl (by kernel_rfl) (by kernel_rfl) (by kernel_rfl) (fun _ _ _ h => h) (Or.inl ⟨by rfl, ?_⟩) (by assumption) ?_
  rotate_left 1
  . intro W hSw
    obtain ⟨s0, s1, s2, t0, t1, t2⟩ := hSw
    go_simp
    with_reducible rfl
  simp only [Act.put, List.setIfInBounds_toArray, List.set_cons_zero, List.set_cons_succ]
  refine take_to (i := 11) (d := 48) (v := ?_) rfl rfl (by kernel_rfl) (by kernel_rfl) (by kernel_rfl) (fun _ _ _ h => h) (Or.inl ⟨by rfl, ?_⟩) (by assumption) ?_
  rotate_left 1
  . intro W hSw
    obtain ⟨s0, s1, s2, t0, t1, t2⟩ := hSw
    go_simp
    with_reducible rfl
  simp only [Act.put, List.setIfInBounds_toArray, List.set_cons_zero, List.set_cons_succ]
  refine take_to (i := 13) (d := 50) (v := ?_) rfl rfl (by kernel_rfl) (by kernel_rfl) (by kernel_rfl) (fun _ _ _ h => h) (Or.inl ⟨by rfl, ?_⟩) (by assumption) ?_
  rotate_left 1
  . intro W hSw
    obtain ⟨s0, s1, s2, t0, t1, t2⟩ := hSw
    go_simp
    with_reducible rfl
  simp only [Act.put, List.setIfInBounds_toArray, List.set_cons_zero, List.set_cons_succ]
  refine take_to (i := 14) (d := 51) (v := ?_) rfl rfl (by kernel_rfl) (by kernel_rfl) (by kernel_rfl) (fun _ _ _ h => h) (Or.inl ⟨by rfl, ?_⟩) (by assumption) ?_
  rotate_left 1
  . intro W hSw
    obtain ⟨s0, s1, s2, t0, t1, t2⟩ := hSw
    go_simp
    with_reducible rfl
  simp only [Act.put, List.setIfInBounds_toArray, List.set_cons_zero, List.set_cons_succ]
  refine wpAnyH_ready (rs := [12]) (by kernel_rfl) (by simp) ?_
  refine AllReadyH.cons (o := { dst := some 49, op := Op.call { callee := Callee.value (Operand.func 37), args := #[Operand.tmp 48], argTypes := #[22] }, type := 22, pos := "join.go:19", after := #[{ on := 11, ground := Ground.data }], guard := none }) rfl (fun K hK => ?_) AllReadyH.nil
  go_simp
  go_at_call 37
  refine Calls.mono c3' ?_
  rintro e w3 ⟨g3, rfl, hO3, hb3⟩
  go_wp2_with fail
  refine hK.out _ _ (SAp.kept (by assumption) (fun b _ hl => hb3.block b hl)) (fun hHeld => ?_)
  clear hK K
  refine wpAnyH_ready (rs := [15]) (by kernel_rfl) (by simp) ?_
  refine AllReadyH.cons (o := { dst := some 52, op := Op.call { callee := Callee.value (Operand.func 37), args := #[Operand.tmp 51], argTypes := #[22] }, type := 22, pos := "join.go:19", after := #[{ on := 14, ground := Ground.data }, { on := 12, ground := Ground.chain }], guard := none }) rfl (fun K hK => ?_) AllReadyH.nil
  have p3 : Below w.heap.size w w3 := HP2.out.trans ((show Below w2.heap.size w2 w3 from ⟨hb3.os, hb3.tape, hb3.output, hb3.size, hb3.block⟩).mono HP2.out.size)
  have c4' := c4 w3 p3
  go_simp
  go_at_call 37
  refine Calls.mono c4' ?_
  rintro e w4 ⟨g4, rfl, hO4, hb4⟩
  go_wp2_with fail
  refine hK.out _ _ (SAp.kept (by assumption) (fun b _ hl => hb4.block b hl)) (fun hHeld => ?_)
  clear hK K
  have hO5 := (hO3.base (show w.heap.size <= w2.drew.heap.size from HP2.out.size)).below hb4
  have z3 := hb3.size
  have z4 := hb4.size
  have m5 : w4.heap[w.heap.size + 1 + 1]? = some (.cells #[.int .i64 0, .int .i64 0, .slice none 0 0] 24) := (hb4.block _ (by have := (Array.getElem?_eq_some_iff.1 HM3.out).1; have : w2.heap.size <= w3.heap.size := z3; omega)).trans ((hb3.block _ (Array.getElem?_eq_some_iff.1 HM3.out).1).trans HM3.out)
  have hsv := hHeld
  refine wpAnyH_ready (rs := [16]) (by kernel_rfl) (by simp) ?_
  refine AllReadyH.cons (o := { dst := some 53, op := Op.call { callee := Callee.builtin Builtin.append, args := #[Operand.tmp 49, Operand.tmp 52], argTypes := #[22, 22] }, type := 22, pos := "join.go:16", after := #[{ on := 12, ground := Ground.data }, { on := 15, ground := Ground.data }, { on := 15, ground := Ground.chain }], guard := none }) rfl (fun K hK => ?_) AllReadyH.nil
  obtain ⟨ys2, f1, f2, f3, f4⟩ := id hO4
  have F1 := hide f1
  have F2 := hide f2
  clear f1 f2
  refine step_append_lies w4 rfl (.tmp 49) (.tmp 52) 22 rfl w.heap.size 34 i0 _ 6 64 Tryz.underlying22 hi hz0 hz1 hz2 rfl (by decide) (.slice (some ⟨g3, 0, none⟩) n1 n1) n1 _ (by rfl) hO5.choose_spec.2.2.1 ⟨g4, 0, none⟩ n2 n2 (ys2.flatMap opC) (by rfl) f3.1 (fun j u hu => by rw [Addr.add_lit, Nat.zero_add]; exact own_at f3 _ _ hu) (opC_one f4) h0 (by unfold maxLen; omega) (by omega) (by have := HP2.out.size; have : w2.heap.size <= w3.heap.size := z3; omega) w4.heap.size rfl ?_
  intro g5 cap w5 hown5 hg5 hat5 hlt5
  have hO6 : OpsAt w5 w.heap.size (some ⟨g5, 0, none⟩) (n1 + n2) cap (l1 ++ l2) := hO5.join F2.out F1.out f4 hg5 hown5
  obtain ⟨gc, gf, hgc⟩ := own_cells' hO5.choose_spec.2.2.1 (k := g3) rfl
  have hneb : ∀ (b : Nat) (cs : Array Value) (t : TypeId) (fr : Nat × Nat), w4.heap[b]? = some (Obj.cells cs t fr) -> t ≠ 34 -> w5.heap[b]? = w4.heap[b]? := fun b cs t fr hbb ht => hg5.block b (Array.getElem?_eq_some_iff.1 hbb).1 (fun e => by
    cases e
    rw [hgc] at hbb
    simp only [Option.some.injEq, Obj.cells.injEq] at hbb
    exact ht hbb.2.1.symm)
  have p4 : Below w.heap.size w w4 := p3.trans (hb4.mono p3.size)
  have a4 : w4.heap[w.heap.size]? = some (.cells #[.int .i64 q1, .int .i64 b1, .slice ao n1 k] 24) := (HP.out w4 (by
    have := hb2'.trans ((show Below w2.heap.size w2 w3 from ⟨hb3.os, hb3.tape, hb3.output, hb3.size, hb3.block⟩).mono hb2'.size)
    exact this.trans (hb4.mono this.size))).2.1
  have b4 : w4.heap[w.heap.size + 1]? = some (.cells #[.int .i64 q2, .int .i64 b2, .slice bo n2 j] 24) := (HP.out w4 (by
    have := hb2'.trans ((show Below w2.heap.size w2 w3 from ⟨hb3.os, hb3.tape, hb3.output, hb3.size, hb3.block⟩).mono hb2'.size)
    exact this.trans (hb4.mono this.size))).2.2.1
  have hS5 : SAp w.heap.size q1 b1 q2 b2 (.slice ao n1 k) (.slice bo n2 j) w5 := hsv.kept fun b hbx _ => by
    rcases hbx with rfl | rfl
    . exact hneb _ _ _ _ a4 (by decide)
    . exact hneb _ _ _ _ b4 (by decide)
  have m6 := (hneb _ _ _ _ m5 (by decide)).trans m5
  obtain ⟨u0, u1, u2, u3⟩ := def_cells m6
  have uf : ∀ i, w5.frozen? ⟨w.heap.size + 1 + 1, i, none⟩ = false := fun i => by simp [World.frozen?, m6]
  have p5 : Below w.heap.size w w5 := p4.grown hg5 p4.size (fun q hq => by
    have := (own_lt hO5.choose_spec.2.2.1 q hq).1
    exact this)
  refine hK.out _ _ hS5 (fun hHeld => ?_)
  clear hK K
  simp only [Act.put, List.setIfInBounds_toArray, List.set_cons_zero, List.set_cons_succ]
  refine take_to (i := 17) (d := 54) (v := ?_) rfl rfl (by kernel_rfl) (by kernel_rfl) (by kernel_rfl) (fun _ _ _ h => h) (Or.inl ⟨by rfl, ?_⟩) (by assumption) ?_
  rotate_left 1
  . intro W hSw
    obtain ⟨s0, s1, s2, t0, t1, t2⟩ := hSw
    go_simp
    with_reducible rfl
  simp only [Act.put, List.setIfInBounds_toArray, List.set_cons_zero, List.set_cons_succ]
  refine wpAnyH_ready (rs := [18]) (by kernel_rfl) (by simp) ?_
  refine AllReadyH.cons (o := { dst := none, op := Op.store 24 (Operand.tmp 4) (Operand.tmp 54), type := 0, pos := "join.go:16", after := #[{ on := 17, ground := Ground.data }, { on := 16, ground := Ground.chain }, { on := 0, ground := Ground.phase }, { on := 1, ground := Ground.phase }, { on := 2, ground := Ground.phase }, { on := 3, ground := Ground.phase }, { on := 4, ground := Ground.phase }, { on := 5, ground := Ground.phase }, { on := 6, ground := Ground.phase }, { on := 7, ground := Ground.phase }, { on := 8, ground := Ground.phase }, { on := 9, ground := Ground.phase }, { on := 10, ground := Ground.phase }, { on := 11, ground := Ground.phase }, { on := 12, ground := Ground.phase }, { on := 13, ground := Ground.phase }, { on := 14, ground := Ground.phase }, { on := 15, ground := Ground.phase }, { on := 16, ground := Ground.phase }, { on := 17, ground := Ground.phase }], guard := none }) rfl (fun K hK => ?_) AllReadyH.nil
  go_simp
  refine hK.out _ _ (SAp.kept (by assumption) (fun b hbx _ => by
    have hne : b ≠ w.heap.size + 1 + 1 := by omega
    rw [Below.heap_setCell _ _ _ _ hne, Below.heap_setCell _ _ _ _ hne, Below.heap_setCell _ _ _ _ hne])) (fun hHeld => ?_)
  clear hK K
  try simp only [Act.put, List.setIfInBounds_toArray, List.set_cons_zero, List.set_cons_succ]
  refine take_to (i := 19) (d := 5) (v := ?_) rfl rfl (by kernel_rfl) (by kernel_rfl) (by kernel_rfl) (fun _ _ _ h => h) (Or.inl ⟨by rfl, ?_⟩) (by assumption) ?_
  rotate_left 1
  . intro W hSw
    obtain ⟨s0, s1, s2, t0, t1, t2⟩ := hSw
    go_simp
    with_reducible rfl
  simp only [Act.put, List.setIfInBounds_toArray, List.set_cons_zero, List.set_cons_succ]
  refine wpAnyH_done (by kernel_rfl) ?_ _
  rw [c3_set w5 _ _ _ _ _ _ _ _ m6]
  go_wp2_with fail
  refine bodyPost_ret (results_ct rfl _ _ (w.heap.size + 1 + 1) _ #[.int .i64 (max q1 q2), .int .i64 (max b1 b2), .slice (some ⟨g5, 0, none⟩) (n1 + n2) cap] _ _ rfl (setRow_heap _ _ _ _ _ _ m6) Tryz.underlying24 rfl (by exact infoCi)) rfl ?_
  exact ⟨g5, cap, rfl, hO6.row m6 (by decide) (by decide) _, Below.row p5 _ _ (by omega)⟩
theorem OpsOwn.nil (w : World) (B : Nat) : OpsOwn w B none 0 0 [] := ⟨[], rfl, rfl, ⟨rfl, .inl ⟨rfl, rfl⟩⟩, (fun _ h => absurd h List.not_mem_nil), List.Pairwise.nil⟩
theorem opC_len (x : COp × Value) : (opC x).length = 6 := rfl
theorem flat_set (xs : List (COp × Value)) : ∀ (i : Nat) (x x' : COp × Value) (j : Nat) (u : Value), xs[i]? = some x -> j < 6 -> opC x' = (opC x).set j u -> (xs.flatMap opC).set (i * 6 + j) u = (xs.set i x').flatMap opC := by
  induction xs with
  | nil => intro i x x' j u h; simp at h
  | cons a r ih =>
    intro i x x' j u h hj hx
    cases i with
    | zero =>
      simp at h
      subst h
      rw [List.set_cons_zero, List.flatMap_cons, List.flatMap_cons, hx, Nat.zero_mul, Nat.zero_add, List.set_append_left _ _ (by rw [opC_len]; exact hj)]
    | succ i =>
      rw [List.set_cons_succ, List.flatMap_cons, List.flatMap_cons, List.set_append_right _ _ (by rw [opC_len]; omega), opC_len, show (i + 1) * 6 + j - 6 = i * 6 + j by omega, ih i x x' j u (by simpa using h) hj hx]
theorem flat_same (xs : List (COp × Value)) : ∀ (i : Nat) (x x' : COp × Value), xs[i]? = some x -> opC x' = opC x -> (xs.set i x').flatMap opC = xs.flatMap opC := by
  induction xs with
  | nil => intro i x x' h; simp at h
  | cons a r ih =>
    intro i x x' h hx
    cases i with
    | zero =>
      simp at h
      subst h
      rw [List.set_cons_zero, List.flatMap_cons, List.flatMap_cons, hx]
    | succ i => rw [List.set_cons_succ, List.flatMap_cons, List.flatMap_cons, ih i x x' (by simpa using h) hx]
theorem Pw.set {xs : List (COp × Value)} (h : Pw xs) {i : Nat} {x : COp × Value} (hx : xs[i]? = some x) (o : COp) : Pw (xs.set i (o, x.2)) := by
  have key : ∀ ys : List (COp × Value), Pw ys ↔ (ys.map (·.2)).Pairwise (fun a b => ∀ g, a.ownBlock = some g -> b.ownBlock = some g -> False) := fun ys => by unfold Pw; rw [List.pairwise_map]
  rw [key] at h ⊢
  have e : (xs.set i (o, x.2)).map (·.2) = xs.map (·.2) := by
    rw [List.map_set]
    apply List.ext_getElem?
    intro j
    rw [List.getElem?_set]
    split
    . rename_i e
      subst e
      split
      . rw [List.getElem?_map, hx]; rfl
      . rename_i hn
        rw [List.getElem?_eq_none (by omega)]
    . rfl
  rw [e]
  exact h
theorem Pw.apart {xs : List (COp × Value)} (h : Pw xs) {i j : Nat} {x y : COp × Value} (hx : xs[i]? = some x) (hy : xs[j]? = some y) (hne : i ≠ j) (g : Nat) (h1 : x.2.ownBlock = some g) (h2 : y.2.ownBlock = some g) : False := by
  unfold Pw at h
  rw [List.pairwise_iff_getElem] at h
  obtain ⟨hi, rfl⟩ := List.getElem?_eq_some_iff.1 hx
  obtain ⟨hj, rfl⟩ := List.getElem?_eq_some_iff.1 hy
  rcases Nat.lt_or_gt_of_ne hne with hlt | hlt
  . exact h i j hi hj hlt g h1 h2
  . exact h j i hj hi hlt g h2 h1
theorem mem_set {α : Type} {l : List α} {i : Nat} {a x : α} (h : x ∈ l.set i a) : x = a ∨ ∃ j, j ≠ i /\ l[j]? = some x := by
  obtain ⟨j, hj, e⟩ := List.getElem_of_mem h
  have e' : (l.set i a)[j]? = some x := by rw [List.getElem?_eq_getElem hj, e]
  rw [List.getElem?_set] at e'
  split at e'
  . left
    have e2 := e'
    simp at e2
    exact e2.2.symm
  . rename_i hij
    exact .inr ⟨j, fun e => hij e.symm, e'⟩
theorem OpsOwn.one {w : World} {B g n c : Nat} {l : List COp} (h : OpsOwn w B (some ⟨g, 0, none⟩) n c l) {i : Nat} {o : COp} (hi : l[i]? = some o) : ∃ ao cr, B <= g /\ g < w.heap.size /\ w.cell? ⟨g, i * 6, none⟩ = some (.int .i64 o.kind) /\ w.cell? ⟨g, i * 6 + 2, none⟩ = some (.slice ao o.qs.length cr) /\ w.cell? ⟨g, i * 6 + 3, none⟩ = some (.int .i64 o.bit) /\ w.cell? ⟨g, i * 6 + 4, none⟩ = some (.int .i64 o.cond) /\ (∀ k, w.frozen? ⟨g, k, none⟩ = false) /\
    (∀ v, OpsOwn (w.setCell ⟨g, i * 6 + 3, none⟩ (.int .i64 v)) B (some ⟨g, 0, none⟩) n c (l.set i { o with bit := v })) /\
    (∀ v, OpsOwn (w.setCell ⟨g, i * 6 + 4, none⟩ (.int .i64 v)) B (some ⟨g, 0, none⟩) n c (l.set i { o with cond := v })) /\
    ∀ (k : Nat) (z : Int), o.qs[k]? = some z -> ∃ gr, ao = some ⟨gr, 0, none⟩ /\ B <= gr /\ gr < w.heap.size /\ gr ≠ g /\ w.cell? ⟨gr, k, none⟩ = some (.int .i64 z) /\ w.frozen? ⟨gr, k, none⟩ = false /\ ∀ v, OpsOwn (w.setCell ⟨gr, k, none⟩ (.int .i64 v)) B (some ⟨g, 0, none⟩) n c (l.set i { o with qs := o.qs.set k v }) := by
  obtain ⟨xs, h1, h2, h3, h4, h5⟩ := h
  rw [h2, List.getElem?_map] at hi
  obtain ⟨x, hx, rfl⟩ := Option.map_eq_some_iff.1 hi
  obtain ⟨ao, cr, e, hrow⟩ := h4 x (List.mem_of_getElem? hx)
  obtain ⟨gcs, gfr, hgc⟩ := own_cells' h3 (k := g) rfl
  have hg := own_lt h3 g rfl
  have at' : ∀ j u, (opC x)[j]? = some u -> w.cell? ⟨g, i * 6 + j, none⟩ = some u := fun j u hu => own_at h3 _ _ (opC_at xs i x hx j u hu)
  have hwr : ∀ (j : Nat) (v : Int) (o' : COp), j < 6 -> o'.qs = x.1.qs -> opC (o', x.2) = (opC x).set j (.int .i64 v) -> OpsOwn (w.setCell ⟨g, i * 6 + j, none⟩ (.int .i64 v)) B (some ⟨g, 0, none⟩) n c (l.set i o') := fun j v o' hj hq hc => by
    refine ⟨xs.set i (o', x.2), by rw [List.length_set]; exact h1, by rw [h2, List.map_set], ?_, fun y hy => ?_, h5.set hx o'⟩
    . rw [← flat_set xs i x (o', x.2) j _ hx hj hc]
      exact own_set h3 _ _
    . have hk : ∀ (b : Nat) (cs : Array Value) (fr : Nat × Nat), w.heap[b]? = some (Obj.cells cs 3 fr) -> (w.setCell ⟨g, i * 6 + j, none⟩ (.int .i64 v)).heap[b]? = w.heap[b]? := fun b cs fr hb => Below.heap_setCell _ _ _ _ (fun e => by
        have e' : b = g := e
        rw [e', hgc] at hb
        simp at hb)
      rcases mem_set hy with rfl | ⟨j', -, hj'⟩
      . rw [hq]
        exact (h4 x (List.mem_of_getElem? hx)).block hk
      . exact (h4 y (List.mem_of_getElem? hj')).block hk
  refine ⟨ao, cr, hg.1, hg.2, at' 0 _ rfl, by rw [at' 2 x.2 rfl, e], at' 3 _ rfl, at' 4 _ rfl, own_free h3, fun v => hwr 3 v _ (by decide) rfl rfl, fun v => hwr 4 v _ (by decide) rfl rfl, fun k z hk => ?_⟩
  have hkl : k < x.1.qs.length := (List.getElem?_eq_some_iff.1 hk).1
  obtain ⟨gr, rfl, -⟩ := own_some hrow (by omega)
  have hgr := own_lt hrow gr rfl
  obtain ⟨rcs, rfr, hrc⟩ := own_cells' hrow (k := gr) rfl
  have hne : gr ≠ g := fun e' => by
    rw [e', hgc] at hrc
    simp at hrc
  refine ⟨gr, rfl, hgr.1, hgr.2, hne, own_at hrow _ _ (by rw [List.getElem?_map, hk]; rfl), own_free hrow _, fun v => ?_⟩
  have hxb : x.2.ownBlock = some gr := by rw [e]; rfl
  refine ⟨xs.set i ({ x.1 with qs := x.1.qs.set k v }, x.2), by rw [List.length_set]; exact h1, by rw [h2, List.map_set], ?_, fun y hy => ?_, h5.set hx _⟩
  . rw [show (xs.set i (({ x.1 with qs := x.1.qs.set k v } : COp), x.2)).flatMap opC = xs.flatMap opC from flat_same xs i x _ hx rfl]
    exact own_of_block h3 (fun b hb => Below.heap_setCell _ _ _ _ (fun e' => by
      have e'' : b = gr := e'
      simp [ob] at hb
      omega))
  . rcases mem_set hy with rfl | ⟨j', hne', hj'⟩
    . refine ⟨some ⟨gr, 0, none⟩, cr, by rw [List.length_set]; exact e, ?_⟩
      rw [List.length_set, List.map_set]
      exact own_set hrow k _
    . obtain ⟨ao', c', e', hrow'⟩ := h4 y (List.mem_of_getElem? hj')
      refine ⟨ao', c', e', own_of_block hrow' (fun b hb => Below.heap_setCell _ _ _ _ (fun e'' => ?_))⟩
      have e3 : b = gr := e''
      subst e3
      exact h5.apart hx hj' (fun e4 => hne' e4.symm) b hxb (by rw [e', ob_eq]; exact hb)
end Go.Proofs.YtnghfdnlcnocjaaGreatDoor.Cir
namespace Go.Proofs.YtnghfdnlcnocjaaGreatDoor.Gt
open Go
section
variable {P : Program} {C : World -> Prop} {Q : Exit -> Act -> World -> Prop} {md : Region.Mode} {ops : Array Oper} {N : Nat}
structure Front (md : Region.Mode) (ops : Array Oper) (N : Nat) : Prop where
  size : ops.size = N + 1
  low : ∀ i o, i < N -> ops[i]? = some o -> o.guard = none /\ ∀ e ∈ o.after, e.on < i
  last : ∃ o, ops[N]? = some o /\ (∀ e ∈ o.after, e.on < N) /\ ∀ j, j < N -> ∃ e ∈ o.after, Region.binds md e = true /\ e.on = j
structure HidP (p : Prop) : Prop where
  out : p
end
end Go.Proofs.YtnghfdnlcnocjaaGreatDoor.Gt
namespace Go.Proofs.YtnghfdnlcnocjaaGreatDoor.Cir
open Go.RowKit Go.Shelf Go.Proofs.YtnghfdnlcnocjaaGreatDoor.Oct Go.Proofs.YtnghfdnlcnocjaaGreatDoor.Tok Go.Proofs.YtnghfdnlcnocjaaGreatDoor.Gt
theorem chk_rng (k : Int) (l : List Int) (n : Int) (h : chkP k l n = 0) : ∀ z ∈ l, 0 <= z /\ z < n := by
  unfold chkP at h
  split at h
  . cases h
  . split at h
    . cases h
    . rename_i ha
      split at h
      . cases h
      . rename_i hm
        have ha' : apP (rw' k).q l = true := by simpa using ha
        unfold apP at ha'
        rw [Bool.and_eq_true, decide_eq_true_eq] at ha'
        intro z hz
        obtain ⟨j, hj, rfl⟩ := List.getElem_of_mem hz
        have e : l[j] = l.getD j 0 := by simp [List.getD, List.getElem?_eq_getElem hj]
        have a1 := apG_pos l l.length 0 ha'.2 j (by omega) (by omega)
        have a2 := mxG_bd l n _ hm j (by omega)
        rw [e]
        exact ⟨a1, a2⟩
def fitP (c : Circ) (qs bs : List Int) (n m : Int) : Prop := (qs.length : Int) = c.q /\ (bs.length : Int) = c.b /\ cntP n m = true /\ apaP qs n = true /\ apaP bs m = true
instance (c : Circ) (qs bs : List Int) (n m : Int) : Decidable (fitP c qs bs n m) := by unfold fitP; infer_instance
theorem apG_of (l : List Int) : ∀ m i, (∀ j, i <= j -> j < i + m -> 0 <= l.getD j 0 /\ l.getD j 0 ∉ l.take j) -> apG l m i = true
  | 0, _, _ => rfl
  | m + 1, i, h => by
    unfold apG
    have h0 := h i (Nat.le_refl _) (by omega)
    rw [Bool.and_eq_true, Bool.and_eq_true, decide_eq_true_eq]
    refine ⟨⟨h0.1, by simpa using h0.2⟩, apG_of l m (i + 1) fun j h1 h2 => h j (by omega) (by omega)⟩
theorem mxG_lt (l : List Int) (n : Int) : ∀ m, (∀ j, j <= m -> l.getD j 0 < n) -> mxG l m < n
  | 0, h => h 0 (Nat.le_refl _)
  | m + 1, h => by
    unfold mxG
    split
    . exact h (m + 1) (Nat.le_refl _)
    . exact mxG_lt l n m fun j hj => h j (by omega)
theorem nodup_map {l : List Int} {f : Int -> Int} (h : l.Nodup) (hf : ∀ x ∈ l, ∀ y ∈ l, f x = f y -> x = y) : (l.map f).Nodup := by
  rw [List.nodup_iff_pairwise_ne] at h ⊢
  rw [List.pairwise_map]
  exact h.imp_of_mem fun ha hb hab e => hab (hf _ ha _ hb e)
theorem apG_nod (l : List Int) (h : apG l l.length 0 = true) : l.Nodup := by
  have key : ∀ m i, apG l m i = true -> ∀ j, i <= j -> j < i + m -> l.getD j 0 ∉ l.take j := by
    intro m
    induction m with
    | zero => intro i _ j h1 h2; omega
    | succ m ih =>
      intro i hm j h1 h2
      unfold apG at hm
      rw [Bool.and_eq_true, Bool.and_eq_true] at hm
      by_cases e : i = j
      . subst e
        simpa using hm.1.2
      . exact ih (i + 1) hm.2 j (by omega) (by omega)
  rw [List.nodup_iff_pairwise_ne, List.pairwise_iff_getElem]
  intro i j hi hj hij e
  refine key l.length 0 h j (by omega) (by omega) ?_
  have e2 : l.getD j 0 = l[j] := by simp [List.getD, List.getElem?_eq_getElem hj]
  rw [e2, ← e]
  exact List.mem_take_iff_getElem.2 ⟨i, by omega, rfl⟩
theorem chk_map (k : Int) (l : List Int) (n n' : Int) (f : Int -> Int) (h : chkP k l n = 0) (hf : ∀ x ∈ l, ∀ y ∈ l, f x = f y -> x = y) (hr : ∀ x ∈ l, 0 <= f x /\ f x < n') : chkP k (l.map f) n' = 0 := by
  unfold chkP at h ⊢
  split at h
  . cases h
  . rename_i hk
    rw [if_neg hk]
    split at h
    . cases h
    . rename_i ha
      have ha' : apP (rw' k).q l = true := by simpa using ha
      unfold apP at ha'
      rw [Bool.and_eq_true, decide_eq_true_eq] at ha'
      have hkn : 0 < (rw' k).q := by
        have : knB (rw' k) = true := by simpa using hk
        unfold knB at this
        exact of_decide_eq_true this
      have hlen : 0 < l.length := by omega
      have hg : ∀ j, j < l.length -> ∃ x ∈ l, (l.map f).getD j 0 = f x := fun j hj => ⟨l[j], List.getElem_mem hj, by simp [List.getD, List.getElem?_eq_getElem hj]⟩
      have hnd := nodup_map (apG_nod l ha'.2) hf
      have hap : apP (rw' k).q (l.map f) = true := by
        unfold apP
        rw [Bool.and_eq_true, decide_eq_true_eq, List.length_map]
        refine ⟨ha'.1, apG_of _ _ _ fun j _ hj => ?_⟩
        have hj' : j < l.length := by omega
        obtain ⟨x, hx, e⟩ := hg j hj'
        refine ⟨by rw [e]; exact (hr x hx).1, fun hm => ?_⟩
        obtain ⟨i, hi, e2⟩ := List.mem_take_iff_getElem.1 hm
        have hlm : j < (l.map f).length := by simpa using hj'
        have e3 : (l.map f).getD j 0 = (l.map f)[j] := by simp [List.getD, List.getElem?_eq_getElem hj']
        rw [List.nodup_iff_pairwise_ne, List.pairwise_iff_getElem] at hnd
        exact hnd i j (by omega) hlm (by omega) (by rw [e2, e3])
      rw [if_neg (by simp [hap]), List.length_map, if_neg]
      have := mxG_lt (l.map f) n' (l.length - 1) fun j hj => by
        obtain ⟨x, hx, e⟩ := hg j (by omega)
        rw [e]
        exact (hr x hx).2
      omega
end Go.Proofs.YtnghfdnlcnocjaaGreatDoor.Cir
namespace Go.Proofs.YtnghfdnlcnocjaaGreatDoor.Cir
open Go.Proofs.YtnghfdnlcnocjaaGreatDoor.Tok Go.Proofs.YtnghfdnlcnocjaaGreatDoor.Gt
theorem getD_at {l : List Nat} {i : Nat} (hi : i < l.length) : l.getD i 0 = l[i] := by
  rw [List.getD_eq_getElem?_getD, List.getElem?_eq_getElem hi]
  rfl
theorem getD_inj {l : List Nat} (hd : l.Nodup) {i j : Nat} (hi : i < l.length) (hj : j < l.length) (h : l.getD i 0 = l.getD j 0) : i = j := by
  rw [getD_at hi, getD_at hj] at h
  exact (List.getElem_inj hd).1 h
theorem getD_mem {l : List Nat} {i : Nat} (hi : i < l.length) : l.getD i 0 ∈ l := by
  rw [getD_at hi]
  exact List.getElem_mem hi
theorem pk_map (l ns : List Nat) : (pk l ns).map Int.ofNat = (ns.map Int.ofNat).map fun z => Int.ofNat (l.getD z.toNat 0) := by
  unfold pk
  simp only [List.map_map]
  rfl
theorem chk_pk {k : Int} {l ns : List Nat} {m : Nat} (h : chkP k (ns.map Int.ofNat) (l.length : Int) = 0) (hd : l.Nodup) (hm : ∀ i ∈ l, i < m) : chkP k ((pk l ns).map Int.ofNat) (m : Int) = 0 := by
  rw [pk_map]
  have hr := chk_rng k _ _ h
  refine chk_map k _ _ _ _ h (fun x hx y hy e => ?_) (fun x hx => ?_)
  . have h1 := hr x hx
    have h2 := hr y hy
    have e' : l.getD x.toNat 0 = l.getD y.toNat 0 := Int.ofNat.inj e
    have := getD_inj hd (by omega) (by omega) e'
    omega
  . have h1 := hr x hx
    have := hm _ (getD_mem (l := l) (i := x.toNat) (by omega))
    refine ⟨Int.natCast_nonneg _, ?_⟩
    show ((l.getD x.toNat 0 : Nat) : Int) < (m : Int)
    omega
theorem nd_pk {l ns : List Nat} {m : Nat} (h : ns.Nodup) (hn : ∀ i ∈ ns, i < l.length) (hd : l.Nodup) (hm : ∀ i ∈ l, i < m) : (pk l ns).Nodup /\ ∀ i ∈ pk l ns, i < m := by
  refine ⟨?_, fun i hi => ?_⟩
  . unfold pk
    induction ns with
    | nil => simp
    | cons a r ih =>
      obtain ⟨h1, h2⟩ := List.nodup_cons.1 h
      rw [List.map_cons, List.nodup_cons]
      refine ⟨fun hm => h1 ?_, ih h2 (fun i hi => hn i (by simp [hi]))⟩
      obtain ⟨b, hb, e⟩ := List.mem_map.1 hm
      have := getD_inj hd (hn b (by simp [hb])) (hn a (by simp)) e
      rw [← this]
      exact hb
  . unfold pk at hi
    obtain ⟨b, hb, rfl⟩ := List.mem_map.1 hi
    exact hm _ (getD_mem (hn b hb))
def PoOk (n : Nat) (o : PO) : Prop := (o.kind = 1 /\ chkP (o.gate : Int) (o.ns.map Int.ofNat) (n : Int) = 0) ∨ (o.kind = 4 /\ o.gate = 0 /\ o.ns ≠ [] /\ o.ns.Nodup /\ ∀ i ∈ o.ns, i < n)
theorem PoOk.on {n m : Nat} {o : PO} {l : List Nat} (h : PoOk n o) (hl : l.length = n) (hd : l.Nodup) (hm : ∀ i ∈ l, i < m) : PoOk m (onP l o) := by
  subst hl
  rcases h with ⟨h1, h2⟩ | ⟨h1, h2, h3, h4, h5⟩
  . exact .inl ⟨h1, chk_pk h2 hd hm⟩
  . refine .inr ⟨h1, h2, ?_, (nd_pk h4 h5 hd hm).1, (nd_pk h4 h5 hd hm).2⟩
    show pk l o.ns ≠ []
    unfold pk
    simpa using h3
def DfO (d : Dc) : Prop := ∀ x g, d.defs x = some g -> ∀ o ∈ g.ops, PoOk g.names o
structure Jv (s : St) : Prop where
  iv : Iv s
  df : DfO s.d
  may : ∀ o ∈ s.ops, mayP (s.d.q.size : Int) (s.d.b.size : Int) o = true
end Go.Proofs.YtnghfdnlcnocjaaGreatDoor.Cir
