import Derived.Test.YtjiopaojhenanaaGreatDoorWn2f8bf684
namespace Go.Proofs.YtjiopaojhenanaaGreatDoor.Gt
end Go.Proofs.YtjiopaojhenanaaGreatDoor.Gt
namespace Go.Proofs.YtjiopaojhenanaaGreatDoor.Oct
end Go.Proofs.YtjiopaojhenanaaGreatDoor.Oct
namespace Go.Proofs.YtjiopaojhenanaaGreatDoor.Tok
end Go.Proofs.YtjiopaojhenanaaGreatDoor.Tok
namespace Go.Proofs.YtjiopaojhenanaaGreatDoor.Cir
open Go.RowKit Go.Shelf Go.Proofs.YtjiopaojhenanaaGreatDoor.Oct Go.Proofs.YtjiopaojhenanaaGreatDoor.Tok Go.Proofs.YtjiopaojhenanaaGreatDoor.Gt
theorem OpsOwn.push {w w' : World} {B : Nat} {ao : Option Addr} {n c : Nat} {ops : List COp} {xs : List (COp × Value)} (h1 : n = xs.length) (h2 : ops = xs.map (·.1)) (h3 : w.ownsRow B 49 6 (.slice ao n c) n (xs.flatMap opC)) (h4 : ∀ x ∈ xs, RowO w B x.2 x.1.qs) (h5 : Pw xs) (op : COp) (v : Value) (hv : RowO w B v op.qs) (hnew : ∀ x ∈ xs, ∀ g, x.2.ownBlock = some g -> v.ownBlock = some g -> False) {g cap : Nat} (hg : w.grownBy w' (ob ao))
    (ho : w'.ownsRow B 49 6 (.slice (some ⟨g, 0, none⟩) (n + 1) cap) (n + 1) (xs.flatMap opC ++ opC (op, v))) : OpsOwn w' B (some ⟨g, 0, none⟩) (n + 1) cap (ops ++ [op]) := by
  have hno : ∀ (b : Nat) (cs : Array Value) (fr : Nat × Nat), w.heap[b]? = some (Obj.cells cs 3 fr) -> w'.heap[b]? = w.heap[b]? := fun b cs fr hb => hg.block b (Array.getElem?_eq_some_iff.1 hb).1 (own_ne h3 hb (by decide)).symm
  refine ⟨xs ++ [(op, v)], by rw [List.length_append, ← h1]; rfl, by rw [List.map_append, ← h2]; rfl, by rw [List.flatMap_append]; simpa using ho, fun x hx => ?_, h5.snoc hnew⟩
  rcases List.mem_append.1 hx with e | e
  . exact (h4 x e).block hno
  . rw [List.mem_singleton] at e
    rw [e]
    exact hv.block hno
theorem own_some {w : World} {B e size n : Nat} {ao : Option Addr} {m c : Nat} {xs : List Value} (h : w.ownsRow B e size (.slice ao m c) n xs) (h0 : 0 < n) : ∃ g, ao = some ⟨g, 0, none⟩ /\ m = n := by
  rcases h.2 with ⟨hv, h0'⟩ | ⟨g', cap, cur, hv, -⟩
  . omega
  . simp only [Value.slice.injEq] at hv
    exact ⟨g', hv.1, hv.2.1⟩
end Go.Proofs.YtjiopaojhenanaaGreatDoor.Cir
