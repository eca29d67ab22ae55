import Derived.Lib.DecodeN
import Derived.Lib.AtoiAll
import Derived.Lib.ItoaNum
import Derived.Test.YtoickolhekhgmaaGreatDoorEn713d04a7
import Derived.Shelf.RegionOpenPlain
namespace Go.Proofs.YtoickolhekhgmaaGreatDoor.Gt
end Go.Proofs.YtoickolhekhgmaaGreatDoor.Gt
namespace Go.Proofs.YtoickolhekhgmaaGreatDoor.Oct
end Go.Proofs.YtoickolhekhgmaaGreatDoor.Oct
namespace Go.Proofs.YtoickolhekhgmaaGreatDoor.Tok
end Go.Proofs.YtoickolhekhgmaaGreatDoor.Tok
namespace Go.Proofs.YtoickolhekhgmaaGreatDoor.Cir
open Go.Proofs.YtoickolhekhgmaaGreatDoor.Tok Go.Proofs.YtoickolhekhgmaaGreatDoor.Gt
structure COp where
  kind : Int
  gate : Int
  qs : List Int
  bit : Int
  cond : Int
  whn : Int
deriving DecidableEq
structure Circ where
  q : Int
  b : Int
  ops : List COp
deriving DecidableEq
end Go.Proofs.YtoickolhekhgmaaGreatDoor.Cir
namespace Go.Proofs.YtoickolhekhgmaaGreatDoor.Cir
open Go.RowKit Go.Shelf Go.Proofs.YtoickolhekhgmaaGreatDoor.Oct Go.Proofs.YtoickolhekhgmaaGreatDoor.Tok Go.Proofs.YtoickolhekhgmaaGreatDoor.Gt
theorem bnew (w : World) (o : Obj) : Below w.heap.size w (w.alloc o) := (Below.refl _ _).alloc (Nat.le_refl _) _
end Go.Proofs.YtoickolhekhgmaaGreatDoor.Cir
