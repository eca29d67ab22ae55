import Derived.Test.YtjiopaojhenanaaGreatDoorWn3fcf11b0
import Derived.Test.YtjiopaojhenanaaGreatDoorWn416e1fb2
namespace Go.Proofs.YtjiopaojhenanaaGreatDoor.Gt
end Go.Proofs.YtjiopaojhenanaaGreatDoor.Gt
namespace Go.Proofs.YtjiopaojhenanaaGreatDoor.Oct
end Go.Proofs.YtjiopaojhenanaaGreatDoor.Oct
namespace Go.Proofs.YtjiopaojhenanaaGreatDoor.Tok
end Go.Proofs.YtjiopaojhenanaaGreatDoor.Tok
namespace Go.Proofs.YtjiopaojhenanaaGreatDoor.Cir
open Go.RowKit Go.Shelf Go.Proofs.YtjiopaojhenanaaGreatDoor.Oct Go.Proofs.YtjiopaojhenanaaGreatDoor.Tok Go.Proofs.YtjiopaojhenanaaGreatDoor.Gt
section
variable {P : Program}
end
theorem own_at {w : World} {B e size n g c : Nat} {xs : List Value} (h : w.ownsRow B e size (.slice (some ⟨g, 0, none⟩) n c) n xs) (i : Nat) (v : Value) (hi : xs[i]? = some v) : w.cell? ⟨g, i, none⟩ = some v := by
  rcases h.2 with ⟨hv, _⟩ | ⟨g', cap, cur, hv, hbg, hg, h1, h2, h3, h4⟩
  . cases hv
  . simp only [Value.slice.injEq, Option.some.injEq, Addr.mk.injEq] at hv
    obtain ⟨⟨rfl, -⟩, -, rfl⟩ := hv
    rw [← h4, List.getElem?_take] at hi
    split at hi
    . exact (cell_of_row _ _ _ _ _ _ hg).trans (by simpa using hi)
    . cases hi
theorem own_free {w : World} {B e size n g c : Nat} {xs : List Value} (h : w.ownsRow B e size (.slice (some ⟨g, 0, none⟩) n c) n xs) (i : Nat) : w.frozen? ⟨g, i, none⟩ = false := by
  rcases h.2 with ⟨hv, _⟩ | ⟨g', cap, cur, hv, hbg, hg, _⟩
  . cases hv
  . simp only [Value.slice.injEq, Option.some.injEq, Addr.mk.injEq] at hv
    obtain ⟨⟨rfl, -⟩, -, rfl⟩ := hv
    simp [World.frozen?, hg]
theorem tok_cells {w1 : World} {c : Nat} {x0 x1 x2 x3 x4 x5 : Value} {t : TypeId} (h : w1.heap[c]? = some (.cells #[x0, x1, x2, x3, x4, x5] t (0, 0))) : w1.cell? ⟨c, 0, none⟩ = some x0 /\ w1.cell? ⟨c, 1, none⟩ = some x1 /\ w1.cell? ⟨c, 2, none⟩ = some x2 /\ w1.cell? ⟨c, 3, none⟩ = some x3 /\ w1.cell? ⟨c, 4, none⟩ = some x4 /\ w1.cell? ⟨c, 5, none⟩ = some x5 /\ c < w1.heap.size :=
  ⟨cell_of_row _ _ 0 _ _ _ h, cell_of_row _ _ 1 _ _ _ h, cell_of_row _ _ 2 _ _ _ h, cell_of_row _ _ 3 _ _ _ h, cell_of_row _ _ 4 _ _ _ h, cell_of_row _ _ 5 _ _ _ h, (Array.getElem?_eq_some_iff.1 h).1⟩
theorem def_cells {w1 : World} {c : Nat} {x0 x1 x2 : Value} {t : TypeId} (h : w1.heap[c]? = some (.cells #[x0, x1, x2] t (0, 0))) : w1.cell? ⟨c, 0, none⟩ = some x0 /\ w1.cell? ⟨c, 1, none⟩ = some x1 /\ w1.cell? ⟨c, 2, none⟩ = some x2 /\ c < w1.heap.size :=
  ⟨cell_of_row _ _ 0 _ _ _ h, cell_of_row _ _ 1 _ _ _ h, cell_of_row _ _ 2 _ _ _ h, (Array.getElem?_eq_some_iff.1 h).1⟩
end Go.Proofs.YtjiopaojhenanaaGreatDoor.Cir
