import Derived.Deep.AppendLies
import Derived.Deep.AppendSrc
import Derived.Test.YtoickolhekhgmaaGreatDoorEnb773d596
import Derived.Shelf.LaySoft
namespace Go.Proofs.YtoickolhekhgmaaGreatDoor.Oct
end Go.Proofs.YtoickolhekhgmaaGreatDoor.Oct
namespace Go.Proofs.YtoickolhekhgmaaGreatDoor.Oct
open Go.RowKit
theorem hide {p : Prop} (h : p) : Hid p := h
section
variable {P : Program}
end
section
variable {P : Program}
end
end Go.Proofs.YtoickolhekhgmaaGreatDoor.Oct
namespace Go.Proofs.YtoickolhekhgmaaGreatDoor.Pau
open Go.RowKit Go.Shelf Go.Proofs.YtoickolhekhgmaaGreatDoor.Oct
def sg (k : Nat) : List UInt8 := if k = 0 then [43] else if k = 1 then [43, 105] else if k = 2 then [45] else [45, 105]
def Ts (w : World) : Prop := ∀ j, j < 4 -> w.cell? ⟨2, j, none⟩ = some (.string ⟨(sg j).toArray⟩)
theorem cell_below {w w' : World} {a : Addr} {v : Value} (h : w.cell? a = some v) (hb : Below w.heap.size w w') : w'.cell? a = some v := (hb.cell (World.block_lt_of_cell? w a h)).trans h
theorem Ts.below {w w' : World} (h : Ts w) (hb : Below w.heap.size w w') : Ts w' := fun j hj => cell_below (h j hj) hb
end Go.Proofs.YtoickolhekhgmaaGreatDoor.Pau
