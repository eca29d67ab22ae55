import Derived.Test.YtbdphifecjigmaaGreatDoorRndd69f10b
import Derived.Test.YtbdphifecjigmaaGreatDoorRn9fe6c4e6
namespace Go.Proofs.YtbdphifecjigmaaGreatDoor.Gt
end Go.Proofs.YtbdphifecjigmaaGreatDoor.Gt
namespace Go.Proofs.YtbdphifecjigmaaGreatDoor.Oct
end Go.Proofs.YtbdphifecjigmaaGreatDoor.Oct
namespace Go.Proofs.YtbdphifecjigmaaGreatDoor.Tok
end Go.Proofs.YtbdphifecjigmaaGreatDoor.Tok
namespace Go.Proofs.YtbdphifecjigmaaGreatDoor.Cir
open Go.Proofs.YtbdphifecjigmaaGreatDoor.Tok Go.Proofs.YtbdphifecjigmaaGreatDoor.Gt
structure COp where
  kind : Int
  gate : Int
  qs : List Int
  bit : Int
  cond : Int
  whn : Int
deriving DecidableEq
structure Circ where
  q : Int
  b : Int
  ops : List COp
deriving DecidableEq
end Go.Proofs.YtbdphifecjigmaaGreatDoor.Cir
namespace Go.Proofs.YtbdphifecjigmaaGreatDoor.Cir
open Go.RowKit Go.Shelf Go.Proofs.YtbdphifecjigmaaGreatDoor.Oct Go.Proofs.YtbdphifecjigmaaGreatDoor.Tok Go.Proofs.YtbdphifecjigmaaGreatDoor.Gt
theorem bnew (w : World) (o : Obj) : Below w.heap.size w (w.alloc o) := (Below.refl _ _).alloc (Nat.le_refl _) _
end Go.Proofs.YtbdphifecjigmaaGreatDoor.Cir
