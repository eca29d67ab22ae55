import Derived.Test.YthndpbjplcphpaaDoorQ962363ed
namespace Go.Proofs.YthndpbjplcphpaaDoor.Cir
open Go.RowKit Go.Shelf Go.Proofs.YthndpbjplcphpaaDoor.Oct Go.Proofs.YthndpbjplcphpaaDoor.Tok Go.Proofs.YthndpbjplcphpaaDoor.Gt
theorem kb2 {R m : Nat} {w w' : World} (h : Kb [R] w w') : Kb [R, m] w w' := h.mono (by simp)
end Go.Proofs.YthndpbjplcphpaaDoor.Cir
