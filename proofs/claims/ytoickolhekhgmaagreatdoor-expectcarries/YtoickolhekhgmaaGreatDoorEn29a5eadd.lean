import Derived.RangeFuncNested
import Derived.RangeFuncBound
import Derived.Shelf.RegionOpen
import Derived.LoopNIn
import Derived.LoopIn
import Derived.Maps.OwnIn
import Derived.Test.YtoickolhekhgmaaGreatDoorEn53c3e5b4
namespace Go.Proofs.YtoickolhekhgmaaGreatDoor.Gt
end Go.Proofs.YtoickolhekhgmaaGreatDoor.Gt
namespace Go.Proofs.YtoickolhekhgmaaGreatDoor.Oct
end Go.Proofs.YtoickolhekhgmaaGreatDoor.Oct
namespace Go.Proofs.YtoickolhekhgmaaGreatDoor.Tok
end Go.Proofs.YtoickolhekhgmaaGreatDoor.Tok
namespace Go.Proofs.YtoickolhekhgmaaGreatDoor.Cir
open Go.RowKit Go.Shelf Go.Proofs.YtoickolhekhgmaaGreatDoor.Oct Go.Proofs.YtoickolhekhgmaaGreatDoor.Tok Go.Proofs.YtoickolhekhgmaaGreatDoor.Gt
attribute [local go_sem] Oper.semAt_some
namespace SeenM
variable {W : World} {b : Nat} {pre : List Nat}
end SeenM
theorem tok_cells {w1 : World} {c : Nat} {x0 x1 x2 x3 x4 x5 : Value} {t : TypeId} (h : w1.heap[c]? = some (.cells #[x0, x1, x2, x3, x4, x5] t (0, 0))) : w1.cell? ⟨c, 0, none⟩ = some x0 /\ w1.cell? ⟨c, 1, none⟩ = some x1 /\ w1.cell? ⟨c, 2, none⟩ = some x2 /\ w1.cell? ⟨c, 3, none⟩ = some x3 /\ w1.cell? ⟨c, 4, none⟩ = some x4 /\ w1.cell? ⟨c, 5, none⟩ = some x5 /\ c < w1.heap.size :=
  ⟨cell_of_row _ _ 0 _ _ _ h, cell_of_row _ _ 1 _ _ _ h, cell_of_row _ _ 2 _ _ _ h, cell_of_row _ _ 3 _ _ _ h, cell_of_row _ _ 4 _ _ _ h, cell_of_row _ _ 5 _ _ _ h, (Array.getElem?_eq_some_iff.1 h).1⟩
theorem def_cells {w1 : World} {c : Nat} {x0 x1 x2 : Value} {t : TypeId} (h : w1.heap[c]? = some (.cells #[x0, x1, x2] t (0, 0))) : w1.cell? ⟨c, 0, none⟩ = some x0 /\ w1.cell? ⟨c, 1, none⟩ = some x1 /\ w1.cell? ⟨c, 2, none⟩ = some x2 /\ c < w1.heap.size :=
  ⟨cell_of_row _ _ 0 _ _ _ h, cell_of_row _ _ 1 _ _ _ h, cell_of_row _ _ 2 _ _ _ h, (Array.getElem?_eq_some_iff.1 h).1⟩
end Go.Proofs.YtoickolhekhgmaaGreatDoor.Cir
