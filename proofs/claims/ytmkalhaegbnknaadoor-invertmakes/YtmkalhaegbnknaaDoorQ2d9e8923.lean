import Derived.Test.YtmkalhaegbnknaaDoorQ2b0ac789
import Derived.Test.YtmkalhaegbnknaaDoorQb6e9d8c5
import Derived.Test.YtmkalhaegbnknaaDoorQ07a6b2e4
namespace Go.Proofs.YtmkalhaegbnknaaDoor.Cir
open Go.RowKit Go.Shelf Go.Proofs.YtmkalhaegbnknaaDoor.Oct Go.Proofs.YtmkalhaegbnknaaDoor.Tok Go.Proofs.YtmkalhaegbnknaaDoor.Gt
theorem ci_szs {V : World} {B : Nat} {c : Circ} {bo : Option Addr} {j : Nat} (hS : Szs c.ops) (h : OpsOwn V B bo c.ops.length j c.ops) : Ci V c bo j := by
  obtain ⟨h1, h2⟩ := h.at.rd
  exact ⟨h1, h2, Nat.le_trans hS.1 (by decide), fun o ho => Nat.le_trans (hS.2 o ho) (by decide)⟩
structure Ot (B E : Nat) (w w' : World) : Prop where
  os : w'.os = w.os
  tape : w'.tape = w.tape
  output : w'.output = w.output
  size : w'.heap.size = w.heap.size
  block : ∀ g, g < B ∨ E <= g -> w'.heap[g]? = w.heap[g]?
theorem Ot.refl (B E : Nat) (w : World) : Ot B E w w := ⟨rfl, rfl, rfl, rfl, fun _ _ => rfl⟩
theorem Ot.setCell {B E : Nat} {w w' : World} (h : Ot B E w w') {g : Nat} (i : Nat) (h1 : B <= g) (h2 : g < E) (v : Value) : Ot B E w (w'.setCell ⟨g, i, none⟩ v) :=
  ⟨h.os, h.tape, h.output, by simp [World.setCell, h.size], fun k hk => (Below.heap_setCell _ _ _ _ (fun e => by have e' : k = g := e; omega)).trans (h.block k hk)⟩
theorem Ot.below {B E : Nat} {w w' : World} (h : Ot B E w w') : Below B w w' := ⟨h.os, h.tape, h.output, Nat.le_of_eq h.size.symm, fun k hk => h.block k (.inl hk)⟩
def cjT : List (List Int) := [[0, 0, 0, 0, 0], [1, 0, 0, 0, 0], [2, 0, 0, 0, 0], [3, 2, 4, 2, 4], [4, 0, 0, 0, 0], [6, 0, 0, 0, 0], [5, 0, 0, 0, 0], [8, 0, 0, 0, 0], [7, 0, 0, 0, 0], [9, 4, 2, 3, 0], [10, 3, 2, 4, 0], [11, 0, 0, 0, 0], [12, 4, 0, 0, 0], [13, 0, 0, 0, 0], [14, 0, 0, 0, 0], [16, 0, 0, 0, 0], [15, 0, 0, 0, 0], [17, 0, 0, 0, 0], [18, 0, 0, 0, 0], [19, 0, 0, 0, 0], [20, 0, 0, 0, 0]]
def cjV : List Value := cjT.flatMap fun l => l.map (Value.int .i64)
def ctT : List Int := [0, 1, 11, 12, 13, 0, 0, 0, 0, 0, 0, 18, 0, 19, 20, 0, 0, 0, 0, 0, 0]
def ctV : List Value := ctT.map (Value.int .i64)
structure Ti (w : World) : Prop where
  tb : Tb w
  cj : ∀ j v, cjV[j]? = some v -> w.cell? ⟨0, j, none⟩ = some v
  ct : ∀ j v, ctV[j]? = some v -> w.cell? ⟨1, j, none⟩ = some v
theorem Ti.below {w w' : World} (h : Ti w) (hb : Below w.heap.size w w') : Ti w' := by
  have l1 : 0 < w.heap.size := World.block_lt_of_cell? w _ (h.cj 0 (.int .i64 0) rfl)
  have l2 : 1 < w.heap.size := World.block_lt_of_cell? w _ (h.ct 0 (.int .i64 0) rfl)
  exact ⟨h.tb.below hb, fun j v hv => (hb.cell l1).trans (h.cj j v hv), fun j v hv => (hb.cell l2).trans (h.ct j v hv)⟩
def arN (k : Int) : Nat := (rw' k).q.toNat
def ivO (o : COp) : COp := { o with gate := (rw' o.gate).v }
def ivP (c : Circ) : Circ × Int := if (chkC c).2 ≠ 0 then (nulC, 80) else if c.ops.any unO then (nulC, 170) else (⟨c.q, c.b, c.ops.reverse.map ivO⟩, 0)
def cjK (k : Int) : List Int := ((cjT[k.toNat]?).getD []).filter (· ≠ 0)
def cjO (o : COp) : List COp := if o.kind = 1 then (cjK o.gate).map fun k => { o with gate := k, qs := o.qs.take (arN k) } else [o]
def cjP (c : Circ) : Circ × Int := if (chkC c).2 ≠ 0 then (nulC, 80) else if 4096 < (c.ops.flatMap cjO).length then (nulC, 170) else (⟨c.q, c.b, c.ops.flatMap cjO⟩, 0)
def miP (c : Circ) : Circ × Int := if (ivP c).2 ≠ 0 then (nulC, (ivP c).2) else if 4096 < c.ops.length + c.ops.length then (nulC, 170) else (⟨c.q, c.b, c.ops ++ (ivP c).1.ops⟩, 0)
def repL (l : List COp) : Nat -> List COp
  | 0 => []
  | n + 1 => repL l n ++ l
def poP (c : Circ) (k : Int) : Circ × Int := if (chkC c).2 ≠ 0 then (nulC, 80) else if k < -4096 ∨ 4096 < k ∨ 4096 < k.natAbs * c.ops.length ∨ (k < 0 /\ c.ops.any unO = true) then (nulC, 170) else (⟨c.q, c.b, repL (if k < 0 then (ivP c).1.ops else c.ops) k.natAbs⟩, 0)
def ctK (k : Int) : Int := (ctT[k.toNat]?).getD 0
def ncO (o : COp) : Bool := decide (o.kind = 1) && decide (ctK o.gate = 0)
def ctO (q : Int) (o : COp) : COp := if ctK o.gate = o.gate then o else { o with gate := ctK o.gate, qs := q :: o.qs }
def ctP (c : Circ) : Circ × Int := if (chkC c).2 ≠ 0 then (nulC, 80) else if c.q = 64 ∨ c.ops.any unO = true ∨ c.ops.any ncO = true then (nulC, 170) else (⟨c.q + 1, c.b, c.ops.map (ctO c.q)⟩, 0)
theorem chk_two (c : Circ) : (chkC c).2 = 0 ∨ (chkC c).2 = 80 := by
  unfold chkC
  split
  . exact .inr rfl
  . split
    . exact .inr rfl
    . exact .inl rfl
theorem may_gt {q b : Int} {o : COp} (h : mayP q b o = true) : (o.kind = 1 /\ 1 <= o.gate /\ o.gate <= 20 /\ chkP o.gate o.qs q = 0) ∨ (o.kind ≠ 1 /\ o.gate = 0) := by
  unfold mayP at h
  split at h
  . rename_i hk
    simp only [Bool.and_eq_true, decide_eq_true_eq] at h
    refine .inl ⟨hk, ?_⟩
    have h1 := h.1.1
    have : 1 <= o.gate /\ o.gate <= 20 := by
      rcases k_cases o.gate with h2 | ⟨h2, -⟩
      . exact h2
      . unfold chkP at h1
        rw [h2] at h1
        simp [knB, r0] at h1
    exact ⟨this.1, this.2, h1⟩
  . rename_i hk
    refine .inr ⟨hk, ?_⟩
    split at h
    . simp only [noGP, Bool.and_eq_true, decide_eq_true_eq] at h
      exact h.1.1.1.1
    . split at h
      . simp only [noGP, Bool.and_eq_true, decide_eq_true_eq] at h
        exact h.1.1.1.1
      . split at h
        . simp only [noGP, Bool.and_eq_true, decide_eq_true_eq] at h
          exact h.1.1.1.1
        . cases h
end Go.Proofs.YtmkalhaegbnknaaDoor.Cir
