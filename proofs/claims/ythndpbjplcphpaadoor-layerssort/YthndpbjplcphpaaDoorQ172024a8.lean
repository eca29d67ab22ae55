import Derived.Test.YthndpbjplcphpaaDoorQ697d555e
import Derived.Test.YthndpbjplcphpaaDoorQe6ce95b5
import Derived.Test.YthndpbjplcphpaaDoorQa0422fca
namespace Go.Proofs.YthndpbjplcphpaaDoor.Cir
open Go.RowKit Go.Shelf Go.Proofs.YthndpbjplcphpaaDoor.Oct Go.Proofs.YthndpbjplcphpaaDoor.Tok Go.Proofs.YthndpbjplcphpaaDoor.Gt
theorem bnew (w : World) (o : Obj) : Below w.heap.size w (w.alloc o) := (Below.refl _ _).alloc (Nat.le_refl _) _
structure X where
  a0 : Value
  a1 : Value
  a2 : Value
  a3 : Value
  a4 : Value
  a5 : Value
  a6 : Value
  bt : Nat
structure Fine (ts : List T) : Prop where
  ends : Ends ts
  len : ts.length <= 4398046511104
  txt : ∀ t ∈ ts, t.text.length <= 4398046511104
theorem Fine.hd : ∀ {ts : List T}, Fine ts -> (hd ts).text.length <= 4398046511104
  | [], h => h.ends.elim
  | t :: _, h => h.txt t (by simp)
theorem Kb.setRow {M : List Nat} {a w : World} (h : Kb M a w) (g : Nat) (cs : Array Value) (hp : g ∈ M ∨ a.heap.size <= g) : Kb M a (w.setRow g cs) :=
  ⟨h.os, h.tape, h.output, by rw [show (w.setRow g cs).heap.size = w.heap.size by simp [World.setRow]]; exact h.size, fun k hk hn => (setRow_other _ _ _ _ (fun e => by
    rcases hp with hp | hp
    . exact hn (e ▸ hp)
    . omega)).trans (h.block k hk hn)⟩
def Wds (w : World) (b : Nat) (ms : List Nm) : Prop := ∀ j m, ms[j]? = some m -> w.cell? ⟨b, j, none⟩ = some (.string ⟨m.toArray⟩)
theorem Wds.kept {w w' : World} {b : Nat} {ms : List Nm} {M : List Nat} (h : Wds w b ms) (hk : Kb M w w') (hm : b ∉ M) : Wds w' b ms :=
  fun j m hj => (hk.cell (p := ⟨b, j, none⟩) (World.block_lt_of_cell? w _ (h j m hj)) hm).trans (h j m hj)
end Go.Proofs.YthndpbjplcphpaaDoor.Cir
