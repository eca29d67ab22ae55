import Derived.Test.YthndpbjplcphpaaDoorQ46836737
namespace Go.Proofs.YthndpbjplcphpaaDoor.Cir
open Go.RowKit Go.Shelf Go.Proofs.YthndpbjplcphpaaDoor.Oct Go.Proofs.YthndpbjplcphpaaDoor.Tok Go.Proofs.YthndpbjplcphpaaDoor.Gt
theorem Below.row {B : Nat} {a w : World} (h : Below B a w) (g : Nat) (cs : Array Value) (hg : B <= g) : Below B a (w.setRow g cs) :=
  ⟨h.os, h.tape, h.output, by rw [show (w.setRow g cs).heap.size = w.heap.size by simp [World.setRow]]; exact h.size, fun k hk => (setRow_other _ _ _ _ (by omega)).trans (h.block k hk)⟩
end Go.Proofs.YthndpbjplcphpaaDoor.Cir
