import Derived.Test.YtbdphifecjigmaaGreatDoorProg
import Derived.WalkSpells
import Derived.WalkLawsBesides
import Derived.Deep.AppendLies
import Derived.Deep.AppendSrc
namespace Go.Proofs.YtbdphifecjigmaaGreatDoor.Oct
open Go.RowKit
theorem hide {p : Prop} (h : p) : Hid p := h
def ob (ao : Option Addr) : Option Nat := ao.map (·.block)
theorem ob_eq (ao : Option Addr) (n c : Nat) : (Value.slice ao n c).ownBlock = ob ao := by cases ao <;> rfl
theorem grown_alloc (w : World) (o : Obj) (r : Option Nat) : w.grownBy (w.alloc o) r := ⟨rfl, rfl, rfl, by simp, fun _ hk _ => Below.heap_alloc _ _ _ hk⟩
section
variable {P : Program}
end
section
variable {P : Program}
end
end Go.Proofs.YtbdphifecjigmaaGreatDoor.Oct
