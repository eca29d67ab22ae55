import Derived.Test.YthndpbjplcphpaaDoorL03c0f94f
namespace Go.Proofs.YthndpbjplcphpaaDoor.Cir
open Go.RowKit Go.Shelf Go.Proofs.YthndpbjplcphpaaDoor.Oct Go.Proofs.YthndpbjplcphpaaDoor.Tok Go.Proofs.YthndpbjplcphpaaDoor.Gt
def cA : Circ := ⟨3, 2, [⟨1, 2, [0], 0, -1, 0⟩, ⟨1, 2, [1], 0, -1, 0⟩, ⟨1, 9, [1], 0, -1, 0⟩, ⟨1, 11, [1, 2], 0, -1, 0⟩, ⟨1, 5, [2], 0, 1, 1⟩, ⟨2, 0, [0], 0, -1, 0⟩, ⟨2, 0, [1], 1, -1, 0⟩]⟩
theorem own_cell8 {w : World} {B e size n m c : Nat} {ao : Option Addr} {xs : List Value} (h : w.ownsRow B e size (.slice ao m c) n xs) (hn : n ≠ 0) : ∃ g, ao = some ⟨g, 0, none⟩ /\ ∀ j v, xs[j]? = some v -> w.cell? ⟨g, j, none⟩ = some v := by
  rcases h.2 with ⟨_, h0⟩ | ⟨g, cap, cur, hv, _⟩
  . exact absurd h0 hn
  . simp only [Value.slice.injEq] at hv
    refine ⟨g, hv.1, fun j v hj => ?_⟩
    have hc := h.cells (g := g) (by rw [ob_eq, hv.1]; rfl) j v hj
    rw [Addr.add_lit, Nat.zero_add] at hc
    exact hc
structure CA (w : World) (B : Nat) (ao : Option Addr) (k : Nat) : Prop where
  ops : OpsAt w B ao 7 k cA.ops
  cells : ∃ g gq oq cq, ao = some ⟨g, 0, none⟩ /\ g < w.heap.size /\ w.cell? ⟨g, 13, none⟩ = some (.int .i64 9) /\ w.cell? ⟨g, 20, none⟩ = some (.slice (some ⟨gq, oq, none⟩) 2 cq) /\ w.cell? ⟨gq, oq + 1, none⟩ = some (.int .i64 2) /\ w.cell? ⟨g, 28, none⟩ = some (.int .i64 1) /\ w.cell? ⟨g, 39, none⟩ = some (.int .i64 1) /\ gq < w.heap.size
theorem CA.of {w : World} {B : Nat} {ao : Option Addr} {k : Nat} (h : OpsAt w B ao 7 k cA.ops) : CA w B ao k := by
  refine ⟨h, ?_⟩
  obtain ⟨xs, h1, h2, h3, h4⟩ := h
  obtain ⟨g, rfl, hc⟩ := own_cell8 h3 (by decide)
  match xs, h1 with
  | [x0, x1, x2, x3, x4, x5, x6], _ =>
    simp only [cA, List.map_cons, List.map_nil, List.cons.injEq, and_true] at h2
    obtain ⟨e0, e1, e2, e3, e4, e5, e6⟩ := h2
    have hI := h4 x3 (by simp)
    rw [← e3] at hI
    rcases hI with ⟨hn, _⟩ | ⟨gq, oq, cq, cs, fr, hv, hl, hg, hz⟩
    . cases hn
    . refine ⟨g, gq, oq, cq, rfl, (own_lt h3 g rfl).2, ?_, ?_, ?_, ?_, ?_, (Array.getElem?_eq_some_iff.1 hg).1⟩
      . refine hc 13 _ ?_
        show some (Value.int .i64 x2.1.gate) = _
        rw [← e2]
      . refine hc 20 _ ?_
        show some x3.2 = _
        rw [hv]
        rfl
      . rw [cell_of_row _ _ _ _ _ _ hg]
        exact hz 1 2 rfl
      . refine hc 28 _ ?_
        show some (Value.int .i64 x4.1.cond) = _
        rw [← e4]
      . refine hc 39 _ ?_
        show some (Value.int .i64 x6.1.bit) = _
        rw [← e6]
theorem CA.below {w w' : World} {B : Nat} {ao : Option Addr} {k : Nat} (h : CA w B ao k) (hb : Below w.heap.size w w') : CA w' B ao k := CA.of (h.ops.below hb)
end Go.Proofs.YthndpbjplcphpaaDoor.Cir
