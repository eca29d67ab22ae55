/- GateUnits of no kind. -/
import Derived.Test.YtnhdgellckcnbaaDoorXd
namespace Go.Proofs.YtnhdgellckcnbaaDoor.Gt
open Go.RowKit Go.Proofs.YtnhdgellckcnbaaDoor.Oct Go.Proofs.YtnhdgellckcnbaaDoor.Dy

theorem two_set {w : World} {g : Nat} {x0 x1 : Value} {t : TypeId} (h : w.heap[g]? = some (.cells #[x0, x1] t)) (y0 y1 : Value) : ((w.setCell ⟨g, 0, none⟩ y0).setCell ⟨g, 1, none⟩ y1).heap[g]? = some (.cells #[y0, y1] t) := by
  simp [World.setCell, Array.getElem?_modify, h]
theorem one_set {w : World} {g : Nat} {x0 x1 : Value} {t : TypeId} (h : w.heap[g]? = some (.cells #[x0, x1] t)) (y0 : Value) : (w.setCell ⟨g, 0, none⟩ y0).heap[g]? = some (.cells #[y0, x1] t) := by
  simp [World.setCell, Array.getElem?_modify, h]
theorem row_far {w : World} {g g' : Nat} {o : Obj} (h : w.heap[g]? = some o) (hne : g ≠ g') (y0 : Value) : (w.setCell ⟨g', 0, none⟩ y0).heap[g]? = some o := by
  rw [Below.heap_setCell]; exact h; exact hne
theorem store_f (a : Addr) (x : Nat) (m : Mode) (w : World) : (store a (.float .f64 x) m).run Tryd.prog w = stored Tryd.prog w a (.float .f64 x) m := run_store _ _ _ _ _ rfl
theorem four_keep {W W' : World} {a b c d : Addr} {x y z u : Value} (hb : Below W.heap.size W W') (h : W.cell? a = some x ∧ W.cell? b = some y ∧ W.cell? c = some z ∧ W.cell? d = some u) : W'.cell? a = some x ∧ W'.cell? b = some y ∧ W'.cell? c = some z ∧ W'.cell? d = some u :=
  ⟨(hb.cell (World.block_lt_of_cell? W _ h.1)).trans h.1, (hb.cell (World.block_lt_of_cell? W _ h.2.1)).trans h.2.1, (hb.cell (World.block_lt_of_cell? W _ h.2.2.1)).trans h.2.2.1, (hb.cell (World.block_lt_of_cell? W _ h.2.2.2)).trans h.2.2.2⟩
theorem frozen_row {W : World} {g : Nat} {cs : Array Value} {t : TypeId} (h : W.heap[g]? = some (.cells cs t)) (i : Nat) : W.frozen? ⟨g, i, none⟩ = false := by
  simp [World.frozen?, h]
theorem row_keep {W W' : World} {g : Nat} {cs : Array Value} {t : TypeId} (hb : Below W.heap.size W W') (h : W.heap[g]? = some (.cells cs t)) : W'.heap[g]? = some (.cells cs t) := (hb.block g (Array.getElem?_eq_some_iff.1 h).1).trans h
theorem row2_0 {W : World} {g : Nat} {x y : Value} {t : TypeId} (h : W.heap[g]? = some (.cells #[x, y] t)) : W.cell? ⟨g, 0, none⟩ = some x := cell_of_row _ _ 0 _ _ _ h
theorem row2_1 {W : World} {g : Nat} {x y : Value} {t : TypeId} (h : W.heap[g]? = some (.cells #[x, y] t)) : W.cell? ⟨g, 1, none⟩ = some y := cell_of_row _ _ 1 _ _ _ h
theorem four_set {W : World} {a b c d g i j k l : Nat} {x y z u : Value} (hne : a ≠ g ∧ b ≠ g ∧ c ≠ g ∧ d ≠ g) (h : W.cell? ⟨a, i, none⟩ = some x ∧ W.cell? ⟨b, j, none⟩ = some y ∧ W.cell? ⟨c, k, none⟩ = some z ∧ W.cell? ⟨d, l, none⟩ = some u) (y0 y1 : Value) :
    ((W.setCell ⟨g, 0, none⟩ y0).setCell ⟨g, 1, none⟩ y1).cell? ⟨a, i, none⟩ = some x ∧ ((W.setCell ⟨g, 0, none⟩ y0).setCell ⟨g, 1, none⟩ y1).cell? ⟨b, j, none⟩ = some y ∧ ((W.setCell ⟨g, 0, none⟩ y0).setCell ⟨g, 1, none⟩ y1).cell? ⟨c, k, none⟩ = some z ∧ ((W.setCell ⟨g, 0, none⟩ y0).setCell ⟨g, 1, none⟩ y1).cell? ⟨d, l, none⟩ = some u := by
  refine ⟨?_, ?_, ?_, ?_⟩
  · rw [cell_far _ _ _ _ hne.1, cell_far _ _ _ _ hne.1]; exact h.1
  · rw [cell_far _ _ _ _ hne.2.1, cell_far _ _ _ _ hne.2.1]; exact h.2.1
  · rw [cell_far _ _ _ _ hne.2.2.1, cell_far _ _ _ _ hne.2.2.1]; exact h.2.2.1
  · rw [cell_far _ _ _ _ hne.2.2.2, cell_far _ _ _ _ hne.2.2.2]; exact h.2.2.2
theorem cx_four : Cx (4607182418800017408, 0) (4, 0) (-2) := ⟨.inl ⟨by decide, by decide +kernel⟩, .inr ⟨rfl, false, rfl⟩⟩
end Go.Proofs.YtnhdgellckcnbaaDoor.Gt
