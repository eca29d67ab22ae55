import Derived.Test.YtmkalhaegbnknaaDoorQed96690a
import Derived.RangeFuncNested
import Derived.RangeFuncBound
import Derived.Shelf.RegionOpen
import Derived.LoopNIn
import Derived.LoopIn
import Derived.Maps.OwnIn
namespace Go.Proofs.YtmkalhaegbnknaaDoor.Cir
open Go.RowKit Go.Shelf Go.Proofs.YtmkalhaegbnknaaDoor.Oct Go.Proofs.YtmkalhaegbnknaaDoor.Tok Go.Proofs.YtmkalhaegbnknaaDoor.Gt
abbrev SA (R br mq : Nat) (q : Int) (V : World) : Prop := V.cell? ⟨br, 0, none⟩ = some (.pointer (some ⟨R, 0, none⟩)) /\ V.cell? ⟨R, 0, none⟩ = some (.map (some mq)) /\ V.cell? ⟨R, 1, none⟩ = some (.int .i64 q) /\ V.cell? ⟨R, 2, none⟩ = some (.int .i64 64)
theorem SA.alloc {R br mq : Nat} {q : Int} {V : World} (h : SA R br mq q V) (o : Obj) : SA R br mq q (V.alloc o) :=
  ⟨((bnew V o).cell (World.block_lt_of_cell? _ _ h.1)).trans h.1, ((bnew V o).cell (World.block_lt_of_cell? _ _ h.2.1)).trans h.2.1, ((bnew V o).cell (World.block_lt_of_cell? _ _ h.2.2.1)).trans h.2.2.1, ((bnew V o).cell (World.block_lt_of_cell? _ _ h.2.2.2)).trans h.2.2.2⟩
theorem SA.set {R br mq : Nat} {q : Int} {V : World} (h : SA R br mq q V) (g j : Nat) (u : Value) (h1 : br ≠ g) (h2 : R ≠ g) : SA R br mq q (V.setCell ⟨g, j, none⟩ u) :=
  ⟨(cell_far _ _ _ _ h1).trans h.1, (cell_far _ _ _ _ h2).trans h.2.1, (cell_far _ _ _ _ h2).trans h.2.2.1, (cell_far _ _ _ _ h2).trans h.2.2.2⟩
attribute [local go_sem] Oper.semAt_some
abbrev N64 := { x : Nat // x < 4611686018427387904 }
def SeenM (W : World) (b : Nat) (pre : List Nat) : Prop := ∃ D : DataW Value, W.ownsMap Tryd.prog 3 (plainElem Tryd.prog 3) b pre.length D /\ ∀ x : Nat, D.atKey (.int .i64 (x : Int)) (.lit (.int .i64 0)) = .lit (.int .i64 (if x ∈ pre then 1 else 0))
namespace SeenM
variable {W : World} {b : Nat} {pre : List Nat}
theorem kept {W' : World} {row : Option Nat} (h : SeenM W b pre) (hg : W.grownBy W' row) (hne : some b ≠ row) : SeenM W' b pre := by
  obtain ⟨D, h1, h2⟩ := h
  exact ⟨D, h1.kept hg hne, h2⟩
theorem block (h : SeenM W b pre) : ∃ es cl, W.heap[b]? = some (.map es cl) := by
  obtain ⟨D, ⟨es, cl, hb, _⟩, _⟩ := h
  exact ⟨es, cl, hb⟩
end SeenM
def OX (w : World) (c : Code) (pre : List N64) (W : World) : Prop := (c = .ret /\ ¬ (pre.map (·.1)).Nodup /\ W.cell? ⟨w.heap.size, 0, none⟩ = some (.slice none 0 0) /\ W.cell? ⟨w.heap.size + 1, 0, none⟩ = some (.bool false)) /\ Below w.heap.size w W
theorem OX.own (w : World) (B : Nat) (hB : B = w.heap.size + 5) (c : Code) : OwnFrom B (OX w c) := by
  rintro s A A' row ⟨⟨h1, h2, h3, h4⟩, h8⟩ hg hr
  have hr2 : ∀ r, row = some r -> ∃ o, A.heap[r]? = some o /\ o.isCells = false := fun r e => (hr r e).2
  exact ⟨⟨h1, h2, cell_kept h3 hg hr2, cell_kept h4 hg hr2⟩, h8.grown hg h8.size (fun k hk => by have := (hr k hk).1; omega)⟩
def Rws (w : World) (g n : Nat) (k : Nat) (f : Nat -> List Nat) : Prop := ∃ cur : Array Value, w.heap[g]? = some (.cells cur 39 (0, 0)) /\ cur.size = n /\ ∀ j, j < k -> ∃ v, cur[j]? = some v /\ Is w v (f j)
theorem Rws.below {w w' : World} {g n k : Nat} {f : Nat -> List Nat} (h : Rws w g n k f) (hb : Below w.heap.size w w') : Rws w' g n k f := by
  obtain ⟨cur, h1, h2, h3⟩ := h
  refine ⟨cur, (hb.block g (Array.getElem?_eq_some_iff.1 h1).1).trans h1, h2, fun j hj => ?_⟩
  obtain ⟨v, e, hi⟩ := h3 j hj
  exact ⟨v, e, hi.below hb⟩
theorem Rws.set {w : World} {g n k : Nat} {f : Nat -> List Nat} (h : Rws w g n k f) (hk : k < n) (v : Value) (hv : Is w v (f k)) : Rws (w.setCell ⟨g, k, none⟩ v) g n (k + 1) f := by
  obtain ⟨cur, h1, h2, h3⟩ := h
  have hno : ∀ (b : Nat) (cs : Array Value) (fr : Nat × Nat), w.heap[b]? = some (Obj.cells cs 3 fr) -> (w.setCell ⟨g, k, none⟩ v).heap[b]? = w.heap[b]? := fun b cs fr hb => Below.heap_setCell _ _ _ _ (fun e => by
    have e' : b = g := e
    rw [e', h1] at hb
    simp at hb)
  refine ⟨cur.set! k v, ?_, by simp [h2], fun j hj => ?_⟩
  . rw [setCell_eq_setRow _ _ k _ _ _ _ h1, setRow_heap _ _ _ _ _ _ h1]
    simp
  . by_cases e : j = k
    . subst e
      exact ⟨v, by simp [h2, hk], hv.block hno⟩
    . obtain ⟨u, e1, hi⟩ := h3 j (by omega)
      exact ⟨u, by rw [Array.set!_eq_setIfInBounds, Array.getElem?_setIfInBounds, if_neg (by omega)]; exact e1, hi.block hno⟩
theorem Rws.cell {w : World} {g n k : Nat} {f : Nat -> List Nat} (h : Rws w g n k f) (j : Nat) (hj : j < n) : (∃ u, w.cell? ⟨g, j, none⟩ = some u) /\ w.frozen? ⟨g, j, none⟩ = false := by
  obtain ⟨cur, h1, h2, _⟩ := h
  refine ⟨⟨cur[j]'(by omega), ?_⟩, by simp [World.frozen?, h1]⟩
  rw [cell_of_row _ _ _ _ _ _ h1]
  exact Array.getElem?_eq_getElem (by omega)
end Go.Proofs.YtmkalhaegbnknaaDoor.Cir
