import Derived.Test.YtjiopaojhenanaaGreatDoorWn8ab9d3f9
import Derived.Lib.DecodeN
import Derived.Lib.AtoiAll
import Derived.Lib.ItoaNum
import Derived.Shelf.RegionOpenPlain
import Derived.Laws.CopyOwn
namespace Go.Proofs.YtjiopaojhenanaaGreatDoor.Oct
end Go.Proofs.YtjiopaojhenanaaGreatDoor.Oct
namespace Go.Proofs.YtjiopaojhenanaaGreatDoor.Tok
open Go.RowKit Go.Lib Go.Shelf Go.Proofs.YtjiopaojhenanaaGreatDoor.Oct
theorem cell_below {w w' : World} {p : Addr} {v : Value} (h : w.cell? p = some v) (hb : Below w.heap.size w w') : w'.cell? p = some v := (hb.cell (World.block_lt_of_cell? w p h)).trans h
end Go.Proofs.YtjiopaojhenanaaGreatDoor.Tok
namespace Go.Proofs.YtjiopaojhenanaaGreatDoor.Tok
open Go.RowKit Go.Shelf Go.Proofs.YtjiopaojhenanaaGreatDoor.Oct
theorem own_lt {w : World} {B e size n : Nat} {ao : Option Addr} {m c : Nat} {xs : List Value} (h : w.ownsRow B e size (.slice ao m c) n xs) : ∀ k, ob ao = some k -> B <= k /\ k < w.heap.size := by
  intro k hk
  exact h.lt k (by rw [ob_eq]; exact hk)
theorem own_of_block {w w' : World} {B e size n : Nat} {ao : Option Addr} {m c : Nat} {xs : List Value} (h : w.ownsRow B e size (.slice ao m c) n xs) (hb : ∀ k, ob ao = some k -> w'.heap[k]? = w.heap[k]?) : w'.ownsRow B e size (.slice ao m c) n xs := by
  refine ⟨h.1, ?_⟩
  rcases h.2 with h0 | ⟨g, cap, cur, hv, hbg, hg, h1⟩
  . exact .inl h0
  . refine .inr ⟨g, cap, cur, hv, hbg, ?_, h1⟩
    simp only [Value.slice.injEq] at hv
    rw [hb g (by rw [hv.1]; rfl)]
    exact hg
theorem own_ne {w : World} {B e size n : Nat} {ao : Option Addr} {m c : Nat} {xs : List Value} (h : w.ownsRow B e size (.slice ao m c) n xs) {k : Nat} {cs : Array Value} {t : TypeId} {fr : Nat × Nat} (hk : w.heap[k]? = some (.cells cs t fr)) (ht : t ≠ e) : ob ao ≠ some k := by
  intro he
  rcases h.2 with h0 | ⟨g, cap, cur, hv, hbg, hg, h1⟩
  . simp only [Value.slice.injEq] at h0
    rw [h0.1.1] at he
    cases he
  . simp only [Value.slice.injEq] at hv
    rw [hv.1] at he
    cases he
    rw [hg] at hk
    cases hk
    exact ht rfl
section
variable {P : Program}
end
end Go.Proofs.YtjiopaojhenanaaGreatDoor.Tok
