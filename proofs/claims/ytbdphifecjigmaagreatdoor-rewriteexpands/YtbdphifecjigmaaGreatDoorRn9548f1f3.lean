import Derived.Test.YtbdphifecjigmaaGreatDoorRn0ea3479e
namespace Go.Proofs.YtbdphifecjigmaaGreatDoor.Cir
end Go.Proofs.YtbdphifecjigmaaGreatDoor.Cir
namespace Go.Proofs.YtbdphifecjigmaaGreatDoor.Gt
end Go.Proofs.YtbdphifecjigmaaGreatDoor.Gt
namespace Go.Proofs.YtbdphifecjigmaaGreatDoor.Oct
end Go.Proofs.YtbdphifecjigmaaGreatDoor.Oct
namespace Go.Proofs.YtbdphifecjigmaaGreatDoor.Tok
end Go.Proofs.YtbdphifecjigmaaGreatDoor.Tok
namespace Go.Proofs.YtbdphifecjigmaaGreatDoor.Rwt
open Go.RowKit Go.Shelf Go.Proofs.YtbdphifecjigmaaGreatDoor.Oct Go.Proofs.YtbdphifecjigmaaGreatDoor.Tok Go.Proofs.YtbdphifecjigmaaGreatDoor.Gt Go.Proofs.YtbdphifecjigmaaGreatDoor.Cir
theorem c3_set18 (w : World) (g : Nat) (a b c a' b' c' : Value) (t : TypeId) (h : w.heap[g]? = some (.cells #[a, b, c] t (0, 0))) : ((w.setCell ⟨g, 0, none⟩ a').setCell ⟨g, 1, none⟩ b').setCell ⟨g, 2, none⟩ c' = w.setRow g #[a', b', c'] := by
  rw [setCell_eq_setRow w g 0 _ t _ _ h, setCell_eq_setRow _ g 1 _ t _ _ (setRow_heap w g _ _ t _ h), setRow_setRow, setCell_eq_setRow _ g 2 _ t _ _ (setRow_heap w g _ _ t _ h), setRow_setRow]
  rfl
theorem bkp {w V U : World} (h1 : Below w.heap.size w V) (h2 : Below V.heap.size V U) : Below w.heap.size w U := h1.trans (h2.mono h1.size)
end Go.Proofs.YtbdphifecjigmaaGreatDoor.Rwt
