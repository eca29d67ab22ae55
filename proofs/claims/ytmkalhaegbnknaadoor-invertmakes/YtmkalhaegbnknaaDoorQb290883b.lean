import Derived.Shelf.RegionOpenPlain
import Derived.Test.YtmkalhaegbnknaaDoorQ6ef25df9
namespace Go.Proofs.YtmkalhaegbnknaaDoor.Tok
open Go.RowKit Go.Lib Go.Shelf Go.Proofs.YtmkalhaegbnknaaDoor.Oct
theorem below_new (w : World) (o : Obj) : Below w.heap.size w (w.alloc o) := (Below.refl _ _).alloc (Nat.le_refl _) _
theorem cell_below {w w' : World} {p : Addr} {v : Value} (h : w.cell? p = some v) (hb : Below w.heap.size w w') : w'.cell? p = some v := (hb.cell (World.block_lt_of_cell? w p h)).trans h
end Go.Proofs.YtmkalhaegbnknaaDoor.Tok
namespace Go.Proofs.YtmkalhaegbnknaaDoor.Tok
open Go.RowKit Go.Shelf Go.Proofs.YtmkalhaegbnknaaDoor.Oct
theorem own_lt {w : World} {B e size n : Nat} {ao : Option Addr} {m c : Nat} {xs : List Value} (h : w.ownsRow B e size (.slice ao m c) n xs) : ∀ k, ob ao = some k -> B <= k /\ k < w.heap.size := by
  intro k hk
  exact h.lt k (by rw [ob_eq]; exact hk)
theorem own_of_block {w w' : World} {B e size n : Nat} {ao : Option Addr} {m c : Nat} {xs : List Value} (h : w.ownsRow B e size (.slice ao m c) n xs) (hb : ∀ k, ob ao = some k -> w'.heap[k]? = w.heap[k]?) : w'.ownsRow B e size (.slice ao m c) n xs := by
  refine ⟨h.1, ?_⟩
  rcases h.2 with h0 | ⟨g, cap, cur, hv, hbg, hg, h1⟩
  . exact .inl h0
  . refine .inr ⟨g, cap, cur, hv, hbg, ?_, h1⟩
    simp only [Value.slice.injEq] at hv
    rw [hb g (by rw [hv.1]; rfl)]
    exact hg
theorem own_ne {w : World} {B e size n : Nat} {ao : Option Addr} {m c : Nat} {xs : List Value} (h : w.ownsRow B e size (.slice ao m c) n xs) {k : Nat} {cs : Array Value} {t : TypeId} {fr : Nat × Nat} (hk : w.heap[k]? = some (.cells cs t fr)) (ht : t ≠ e) : ob ao ≠ some k := by
  intro he
  rcases h.2 with h0 | ⟨g, cap, cur, hv, hbg, hg, h1⟩
  . simp only [Value.slice.injEq] at h0
    rw [h0.1.1] at he
    cases he
  . simp only [Value.slice.injEq] at hv
    rw [hv.1] at he
    cases he
    rw [hg] at hk
    cases hk
    exact ht rfl
section
variable {P : Program}
end
end Go.Proofs.YtmkalhaegbnknaaDoor.Tok
namespace Go.Proofs.YtmkalhaegbnknaaDoor.Cir
open Go.RowKit Go.Shelf Go.Proofs.YtmkalhaegbnknaaDoor.Oct Go.Proofs.YtmkalhaegbnknaaDoor.Tok Go.Proofs.YtmkalhaegbnknaaDoor.Gt
theorem bnew (w : World) (o : Obj) : Below w.heap.size w (w.alloc o) := (Below.refl _ _).alloc (Nat.le_refl _) _
structure X where
  a0 : Value
  a1 : Value
  a2 : Value
  a3 : Value
  a4 : Value
  a5 : Value
  a6 : Value
  bt : Nat
structure Fine (ts : List T) : Prop where
  ends : Ends ts
  len : ts.length <= 4398046511104
  txt : ∀ t ∈ ts, t.text.length <= 4398046511104
theorem Fine.hd : ∀ {ts : List T}, Fine ts -> (hd ts).text.length <= 4398046511104
  | [], h => h.ends.elim
  | t :: _, h => h.txt t (by simp)
theorem Kb.setRow {M : List Nat} {a w : World} (h : Kb M a w) (g : Nat) (cs : Array Value) (hp : g ∈ M ∨ a.heap.size <= g) : Kb M a (w.setRow g cs) :=
  ⟨h.os, h.tape, h.output, by rw [show (w.setRow g cs).heap.size = w.heap.size by simp [World.setRow]]; exact h.size, fun k hk hn => (setRow_other _ _ _ _ (fun e => by
    rcases hp with hp | hp
    . exact hn (e ▸ hp)
    . omega)).trans (h.block k hk hn)⟩
def Wds (w : World) (b : Nat) (ms : List Nm) : Prop := ∀ j m, ms[j]? = some m -> w.cell? ⟨b, j, none⟩ = some (.string ⟨m.toArray⟩)
theorem Wds.kept {w w' : World} {b : Nat} {ms : List Nm} {M : List Nat} (h : Wds w b ms) (hk : Kb M w w') (hm : b ∉ M) : Wds w' b ms :=
  fun j m hj => (hk.cell (p := ⟨b, j, none⟩) (World.block_lt_of_cell? w _ (h j m hj)) hm).trans (h j m hj)
end Go.Proofs.YtmkalhaegbnknaaDoor.Cir
