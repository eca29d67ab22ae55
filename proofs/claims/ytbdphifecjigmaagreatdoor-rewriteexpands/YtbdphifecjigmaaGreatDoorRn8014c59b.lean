import Derived.Test.YtbdphifecjigmaaGreatDoorRn3ffe9627
import Derived.Test.YtbdphifecjigmaaGreatDoorRnfe45d2cd
namespace Go.Proofs.YtbdphifecjigmaaGreatDoor.Gt
end Go.Proofs.YtbdphifecjigmaaGreatDoor.Gt
namespace Go.Proofs.YtbdphifecjigmaaGreatDoor.Oct
end Go.Proofs.YtbdphifecjigmaaGreatDoor.Oct
namespace Go.Proofs.YtbdphifecjigmaaGreatDoor.Tok
end Go.Proofs.YtbdphifecjigmaaGreatDoor.Tok
namespace Go.Proofs.YtbdphifecjigmaaGreatDoor.Cir
open Go.RowKit Go.Shelf Go.Proofs.YtbdphifecjigmaaGreatDoor.Oct Go.Proofs.YtbdphifecjigmaaGreatDoor.Tok Go.Proofs.YtbdphifecjigmaaGreatDoor.Gt
section
variable {P : Program}
end
theorem own_set {w : World} {B e size n g c : Nat} {xs : List Value} (h : w.ownsRow B e size (.slice (some ⟨g, 0, none⟩) n c) n xs) (i : Nat) (v : Value) : (w.setCell ⟨g, i, none⟩ v).ownsRow B e size (.slice (some ⟨g, 0, none⟩) n c) n (xs.set i v) := by
  refine ⟨by rw [List.length_set]; exact h.1, ?_⟩
  rcases h.2 with ⟨hv, _⟩ | ⟨g', cap, cur, hv, hbg, hg, h1, h2, h3, h4⟩
  . cases hv
  . simp only [Value.slice.injEq, Option.some.injEq, Addr.mk.injEq] at hv
    obtain ⟨⟨rfl, -⟩, -, rfl⟩ := hv
    refine .inr ⟨g, c, cur.setIfInBounds i v, rfl, hbg, ?_, h1, h2, by simpa using h3, ?_⟩
    . rw [setCell_eq_setRow _ _ i _ _ _ _ hg]
      exact setRow_heap _ _ _ _ _ _ hg
    . rw [Array.toList_setIfInBounds, List.take_set, h4]
theorem own_at {w : World} {B e size n g c : Nat} {xs : List Value} (h : w.ownsRow B e size (.slice (some ⟨g, 0, none⟩) n c) n xs) (i : Nat) (v : Value) (hi : xs[i]? = some v) : w.cell? ⟨g, i, none⟩ = some v := by
  rcases h.2 with ⟨hv, _⟩ | ⟨g', cap, cur, hv, hbg, hg, h1, h2, h3, h4⟩
  . cases hv
  . simp only [Value.slice.injEq, Option.some.injEq, Addr.mk.injEq] at hv
    obtain ⟨⟨rfl, -⟩, -, rfl⟩ := hv
    rw [← h4, List.getElem?_take] at hi
    split at hi
    . exact (cell_of_row _ _ _ _ _ _ hg).trans (by simpa using hi)
    . cases hi
theorem own_free {w : World} {B e size n g c : Nat} {xs : List Value} (h : w.ownsRow B e size (.slice (some ⟨g, 0, none⟩) n c) n xs) (i : Nat) : w.frozen? ⟨g, i, none⟩ = false := by
  rcases h.2 with ⟨hv, _⟩ | ⟨g', cap, cur, hv, hbg, hg, _⟩
  . cases hv
  . simp only [Value.slice.injEq, Option.some.injEq, Addr.mk.injEq] at hv
    obtain ⟨⟨rfl, -⟩, -, rfl⟩ := hv
    simp [World.frozen?, hg]
theorem tok_cells {w1 : World} {c : Nat} {x0 x1 x2 x3 x4 x5 : Value} {t : TypeId} (h : w1.heap[c]? = some (.cells #[x0, x1, x2, x3, x4, x5] t (0, 0))) : w1.cell? ⟨c, 0, none⟩ = some x0 /\ w1.cell? ⟨c, 1, none⟩ = some x1 /\ w1.cell? ⟨c, 2, none⟩ = some x2 /\ w1.cell? ⟨c, 3, none⟩ = some x3 /\ w1.cell? ⟨c, 4, none⟩ = some x4 /\ w1.cell? ⟨c, 5, none⟩ = some x5 /\ c < w1.heap.size :=
  ⟨cell_of_row _ _ 0 _ _ _ h, cell_of_row _ _ 1 _ _ _ h, cell_of_row _ _ 2 _ _ _ h, cell_of_row _ _ 3 _ _ _ h, cell_of_row _ _ 4 _ _ _ h, cell_of_row _ _ 5 _ _ _ h, (Array.getElem?_eq_some_iff.1 h).1⟩
theorem def_cells {w1 : World} {c : Nat} {x0 x1 x2 : Value} {t : TypeId} (h : w1.heap[c]? = some (.cells #[x0, x1, x2] t (0, 0))) : w1.cell? ⟨c, 0, none⟩ = some x0 /\ w1.cell? ⟨c, 1, none⟩ = some x1 /\ w1.cell? ⟨c, 2, none⟩ = some x2 /\ c < w1.heap.size :=
  ⟨cell_of_row _ _ 0 _ _ _ h, cell_of_row _ _ 1 _ _ _ h, cell_of_row _ _ 2 _ _ _ h, (Array.getElem?_eq_some_iff.1 h).1⟩
end Go.Proofs.YtbdphifecjigmaaGreatDoor.Cir
