import Derived.Test.YtijemaahibjejaaGreatDoorCb908d9b6
import Derived.Test.YtijemaahibjejaaGreatDoorCa3b2960d
namespace Go.Proofs.YtijemaahibjejaaGreatDoor.Cir
open Go.RowKit Go.Shelf Go.Proofs.YtijemaahibjejaaGreatDoor.Oct Go.Proofs.YtijemaahibjejaaGreatDoor.Tok Go.Proofs.YtijemaahibjejaaGreatDoor.Gt
theorem grown_refl (w : World) (row : Option Nat) : w.grownBy w row := ⟨rfl, rfl, rfl, Nat.le_refl _, fun _ _ _ => rfl⟩
def nulC : Circ := ⟨0, 0, []⟩
theorem OpsOwn.nil (w : World) (B : Nat) : OpsOwn w B none 0 0 [] := ⟨[], rfl, rfl, ⟨rfl, .inl ⟨rfl, rfl⟩⟩, (fun _ h => absurd h List.not_mem_nil), List.Pairwise.nil⟩
end Go.Proofs.YtijemaahibjejaaGreatDoor.Cir
