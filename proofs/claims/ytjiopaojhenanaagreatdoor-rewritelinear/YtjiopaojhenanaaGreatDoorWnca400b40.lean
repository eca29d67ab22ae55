import Derived.Test.YtjiopaojhenanaaGreatDoorWn8ab9d3f9
namespace Go.Proofs.YtjiopaojhenanaaGreatDoor.Oct
end Go.Proofs.YtjiopaojhenanaaGreatDoor.Oct
namespace Go.Proofs.YtjiopaojhenanaaGreatDoor.Cir
open Go.RowKit Go.Proofs.YtjiopaojhenanaaGreatDoor.Oct
structure Kb (M : List Nat) (w w' : World) : Prop where
  os : w'.os = w.os
  tape : w'.tape = w.tape
  output : w'.output = w.output
  size : w.heap.size <= w'.heap.size
  block : ∀ k, k < w.heap.size -> k ∉ M -> w'.heap[k]? = w.heap[k]?
namespace Kb
variable {M : List Nat} {a w w' : World}
end Kb
namespace Mp
variable {w : World} {b n : Nat} {f : List UInt8 -> Option Value}
end Mp
end Go.Proofs.YtjiopaojhenanaaGreatDoor.Cir
