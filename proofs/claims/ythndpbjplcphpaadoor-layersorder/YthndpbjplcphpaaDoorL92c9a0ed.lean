import Derived.Test.YthndpbjplcphpaaDoorL7b456c33
import Derived.Test.YthndpbjplcphpaaDoorL9f81c486
namespace Go.Proofs.YthndpbjplcphpaaDoor.Lay
open Go.RowKit Go.Shelf Go.Proofs.YthndpbjplcphpaaDoor.Oct Go.Proofs.YthndpbjplcphpaaDoor.Tok Go.Proofs.YthndpbjplcphpaaDoor.Gt Go.Proofs.YthndpbjplcphpaaDoor.Cir
def okC (c : Circ) : Bool := (chkC c).2 == 0
def erC (c : Circ) : Int := if okC c then 0 else 80
def rwC (c : Circ) (f : Nat -> Int) : List Int := if okC c then (List.range c.ops.length).map f else []
theorem ok_wk {c : Circ} (h : okC c = true) : (∀ o ∈ c.ops, Wk o /\ 0 < o.qs.length) /\ c.ops.length <= 4096 := by
  have h0 : (chkC c).2 = 0 := by unfold okC at h; simpa using h
  obtain ⟨h1, h2, h3, h4, h5, h6⟩ := chkC_ok h0
  exact ⟨fun o ho => ⟨may_wk h1 h2 h4 (h6 o ho), may_pos (h6 o ho)⟩, h5⟩
theorem rng_at (f : Nat -> Int) (n j : Nat) (h : j < n) : ((List.range n).map f)[j]? = some (f j) := by
  rw [List.getElem?_map, List.getElem?_range h]; rfl
theorem own_below {w w' : World} {B c n : Nat} {ao : Option Addr} {xs : List Value} (h : w.ownsRow B 3 1 (.slice ao n c) n xs) (hb : Below w.heap.size w w') : w'.ownsRow B 3 1 (.slice ao n c) n xs := own_of_block h fun k hk => hb.block k (own_lt h k hk).2
end Go.Proofs.YthndpbjplcphpaaDoor.Lay
