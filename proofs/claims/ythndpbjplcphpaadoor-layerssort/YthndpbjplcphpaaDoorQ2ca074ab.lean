import Derived.Test.YthndpbjplcphpaaDoorQ157aed02
import Derived.Test.YthndpbjplcphpaaDoorQe0f3afd7
namespace Go.Proofs.YthndpbjplcphpaaDoor.Cir
open Go.RowKit Go.Shelf Go.Proofs.YthndpbjplcphpaaDoor.Oct Go.Proofs.YthndpbjplcphpaaDoor.Tok Go.Proofs.YthndpbjplcphpaaDoor.Gt
def Rws (w : World) (g n : Nat) (k : Nat) (f : Nat -> List Nat) : Prop := ∃ cur : Array Value, w.heap[g]? = some (.cells cur 25 (0, 0)) /\ cur.size = n /\ ∀ j, j < k -> ∃ v, cur[j]? = some v /\ Is w v (f j)
theorem Rws.below {w w' : World} {g n k : Nat} {f : Nat -> List Nat} (h : Rws w g n k f) (hb : Below w.heap.size w w') : Rws w' g n k f := by
  obtain ⟨cur, h1, h2, h3⟩ := h
  refine ⟨cur, (hb.block g (Array.getElem?_eq_some_iff.1 h1).1).trans h1, h2, fun j hj => ?_⟩
  obtain ⟨v, e, hi⟩ := h3 j hj
  exact ⟨v, e, hi.below hb⟩
theorem Rws.set {w : World} {g n k : Nat} {f : Nat -> List Nat} (h : Rws w g n k f) (hk : k < n) (v : Value) (hv : Is w v (f k)) : Rws (w.setCell ⟨g, k, none⟩ v) g n (k + 1) f := by
  obtain ⟨cur, h1, h2, h3⟩ := h
  have hno : ∀ (b : Nat) (cs : Array Value) (fr : Nat × Nat), w.heap[b]? = some (Obj.cells cs 3 fr) -> (w.setCell ⟨g, k, none⟩ v).heap[b]? = w.heap[b]? := fun b cs fr hb => Below.heap_setCell _ _ _ _ (fun e => by
    have e' : b = g := e
    rw [e', h1] at hb
    simp at hb)
  refine ⟨cur.set! k v, ?_, by simp [h2], fun j hj => ?_⟩
  . rw [setCell_eq_setRow _ _ k _ _ _ _ h1, setRow_heap _ _ _ _ _ _ h1]
    simp
  . by_cases e : j = k
    . subst e
      exact ⟨v, by simp [h2, hk], hv.block hno⟩
    . obtain ⟨u, e1, hi⟩ := h3 j (by omega)
      exact ⟨u, by rw [Array.set!_eq_setIfInBounds, Array.getElem?_setIfInBounds, if_neg (by omega)]; exact e1, hi.block hno⟩
theorem Rws.cell {w : World} {g n k : Nat} {f : Nat -> List Nat} (h : Rws w g n k f) (j : Nat) (hj : j < n) : (∃ u, w.cell? ⟨g, j, none⟩ = some u) /\ w.frozen? ⟨g, j, none⟩ = false := by
  obtain ⟨cur, h1, h2, _⟩ := h
  refine ⟨⟨cur[j]'(by omega), ?_⟩, by simp [World.frozen?, h1]⟩
  rw [cell_of_row _ _ _ _ _ _ h1]
  exact Array.getElem?_eq_getElem (by omega)
end Go.Proofs.YthndpbjplcphpaaDoor.Cir
