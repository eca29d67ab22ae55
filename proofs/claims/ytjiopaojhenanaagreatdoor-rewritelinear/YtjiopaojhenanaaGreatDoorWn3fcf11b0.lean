import Derived.Test.YtjiopaojhenanaaGreatDoorWnd3362d9f
namespace Go.Proofs.YtjiopaojhenanaaGreatDoor.Gt
end Go.Proofs.YtjiopaojhenanaaGreatDoor.Gt
namespace Go.Proofs.YtjiopaojhenanaaGreatDoor.Oct
end Go.Proofs.YtjiopaojhenanaaGreatDoor.Oct
namespace Go.Proofs.YtjiopaojhenanaaGreatDoor.Tok
end Go.Proofs.YtjiopaojhenanaaGreatDoor.Tok
namespace Go.Proofs.YtjiopaojhenanaaGreatDoor.Cir
open Go.RowKit Go.Shelf Go.Proofs.YtjiopaojhenanaaGreatDoor.Oct Go.Proofs.YtjiopaojhenanaaGreatDoor.Tok Go.Proofs.YtjiopaojhenanaaGreatDoor.Gt
theorem Below.row {B : Nat} {a w : World} (h : Below B a w) (g : Nat) (cs : Array Value) (hg : B <= g) : Below B a (w.setRow g cs) :=
  ⟨h.os, h.tape, h.output, by rw [show (w.setRow g cs).heap.size = w.heap.size by simp [World.setRow]]; exact h.size, fun k hk => (setRow_other _ _ _ _ (by omega)).trans (h.block k hk)⟩
end Go.Proofs.YtjiopaojhenanaaGreatDoor.Cir
