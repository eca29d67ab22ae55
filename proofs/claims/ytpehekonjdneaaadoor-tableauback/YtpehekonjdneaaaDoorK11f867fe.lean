import Derived.Test.YtpehekonjdneaaaDoorKa71f3e41
namespace Go.Proofs.YtpehekonjdneaaaDoor.Pau
open Go.RowKit Go.Shelf Go.Proofs.YtpehekonjdneaaaDoor.Gt
instance decP : DecidableEq P := fun a b => decidable_of_iff (a.n = b.n /\ a.x = b.x /\ a.z = b.z /\ a.ph = b.ph) ⟨fun h => P.ext' h.1 h.2.1 h.2.2.1 h.2.2.2, fun h => by subst h; exact ⟨rfl, rfl, rfl, rfl⟩⟩
def wn (k : Nat) : P := ⟨(ar k : Int), 0, 0, 0⟩
def Ai (k t u v : Nat) : P := if lt u v = 73 then wn k else ip k t (lt u v - 88)
def s1 (k u v : Nat) : P := mulP (wn k) (Ai k 0 u v)
def s2 (k u v u' v' : Nat) : P := mulP (mulP (wn k) (Ai k 0 u v)) (Ai k 1 u' v')
def iv (k : Nat) : Nat := (tab.getD k r0).v.toNat
end Go.Proofs.YtpehekonjdneaaaDoor.Pau
