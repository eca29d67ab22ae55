import Derived.Test.YtmkalhaegbnknaaDoorQ63a714a2
import Derived.Stop.Asserts
namespace Go.Proofs.YtmkalhaegbnknaaDoor.Cir
open Go.RowKit Go.Shelf Go.Proofs.YtmkalhaegbnknaaDoor.Oct Go.Proofs.YtmkalhaegbnknaaDoor.Tok Go.Proofs.YtmkalhaegbnknaaDoor.Gt
def SAp (x : Nat) (q1 b1 q2 b2 : Int) (v1 v2 : Value) (V : World) : Prop := V.cell? ⟨x, 0, none⟩ = some (.int .i64 q1) /\ V.cell? ⟨x, 1, none⟩ = some (.int .i64 b1) /\ V.cell? ⟨x, 2, none⟩ = some v1 /\ V.cell? ⟨x + 1, 0, none⟩ = some (.int .i64 q2) /\ V.cell? ⟨x + 1, 1, none⟩ = some (.int .i64 b2) /\ V.cell? ⟨x + 1, 2, none⟩ = some v2
theorem SAp.kept {x : Nat} {q1 b1 q2 b2 : Int} {v1 v2 : Value} {V V' : World} (h : SAp x q1 b1 q2 b2 v1 v2 V) (hk : ∀ b, b = x ∨ b = x + 1 -> b < V.heap.size -> V'.heap[b]? = V.heap[b]?) : SAp x q1 b1 q2 b2 v1 v2 V' := by
  obtain ⟨h0, h1, h2, h3, h4, h5⟩ := h
  have k0 := hk x (.inl rfl) (World.block_lt_of_cell? _ _ h0)
  have k1 := hk (x + 1) (.inr rfl) (World.block_lt_of_cell? _ _ h3)
  exact ⟨(World.cell?_of_block (w := V) k0).trans h0, (World.cell?_of_block (w := V) k0).trans h1, (World.cell?_of_block (w := V) k0).trans h2, (World.cell?_of_block (w := V) k1).trans h3, (World.cell?_of_block (w := V) k1).trans h4, (World.cell?_of_block (w := V) k1).trans h5⟩
theorem opC_one {w : World} {ys : List (COp × Value)} (h : ∀ x ∈ ys, IsI w x.2 x.1.qs) : ∀ u ∈ ys.flatMap opC, u.oneCell' = true := by
  intro u hu
  obtain ⟨x, hx, hux⟩ := List.mem_flatMap.1 hu
  obtain ⟨aq, cq, hv, _⟩ := (h x hx).ns
  unfold opC at hux
  rw [hv] at hux
  simp only [List.mem_cons, List.not_mem_nil, or_false] at hux
  rcases hux with rfl | rfl | rfl | rfl | rfl | rfl <;> rfl
theorem OpsAt.join {w w' : World} {B g1 n1 c1 n2 g cap : Nat} {l1 l2 : List COp} {ys2 : List (COp × Value)} (h1 : OpsAt w B (some ⟨g1, 0, none⟩) n1 c1 l1) (e2 : l2 = ys2.map (·.1)) (hn2 : n2 = ys2.length) (hI2 : ∀ x ∈ ys2, IsI w x.2 x.1.qs) (hg : w.grownBy w' (some g1)) (ho : w'.ownsRow B 41 6 (.slice (some ⟨g, 0, none⟩) (n1 + n2) cap) (n1 + n2) ((h1.choose).flatMap opC ++ ys2.flatMap opC)) : OpsAt w' B (some ⟨g, 0, none⟩) (n1 + n2) cap (l1 ++ l2) := by
  obtain ⟨a1, a2, a3, a4⟩ := h1.choose_spec
  obtain ⟨gc, gf, hgc⟩ := own_cells' a3 (k := g1) rfl
  have hk : ∀ (b : Nat) (cs : Array Value) (fr : Nat × Nat), w.heap[b]? = some (Obj.cells cs 3 fr) -> w'.heap[b]? = w.heap[b]? := fun b cs fr hb => hg.block b (Array.getElem?_eq_some_iff.1 hb).1 (fun e => by
    cases e
    rw [hgc] at hb
    simp at hb)
  refine ⟨h1.choose ++ ys2, by rw [List.length_append, ← a1, ← hn2], by rw [List.map_append, ← a2, ← e2], by rw [List.flatMap_append]; exact ho, fun x hx => ?_⟩
  rcases List.mem_append.1 hx with hx | hx
  . exact (a4 x hx).block hk
  . exact (hI2 x hx).block hk
end Go.Proofs.YtmkalhaegbnknaaDoor.Cir
