/- Layer 20: the document's Path and Far. -/
import Derived.Test.YtipceoeihiaieaaDoorCb20
namespace Go.Proofs.YtipceoeihiaieaaDoor.Rou
open Go.RowKit

theorem keep {V w' : World} {g : Nat} {o : Obj} (h : V.heap[g]? = some o) (hb : Below V.heap.size V w') : w'.heap[g]? = some o := (hb.block g (Array.getElem?_eq_some_iff.1 h).1).trans h
theorem dR_len (N : Nat) (ps : List Pr) (i : Nat) : (dRow N ps i).length = N := dS_len N ps i N
end Go.Proofs.YtipceoeihiaieaaDoor.Rou
