import Derived.Test.YtoickolhekhgmaaGreatDoorEna9da331d
namespace Go.Proofs.YtoickolhekhgmaaGreatDoor.Gt
end Go.Proofs.YtoickolhekhgmaaGreatDoor.Gt
namespace Go.Proofs.YtoickolhekhgmaaGreatDoor.Oct
end Go.Proofs.YtoickolhekhgmaaGreatDoor.Oct
namespace Go.Proofs.YtoickolhekhgmaaGreatDoor.Tok
end Go.Proofs.YtoickolhekhgmaaGreatDoor.Tok
namespace Go.Proofs.YtoickolhekhgmaaGreatDoor.Cir
open Go.RowKit Go.Shelf Go.Proofs.YtoickolhekhgmaaGreatDoor.Oct Go.Proofs.YtoickolhekhgmaaGreatDoor.Tok Go.Proofs.YtoickolhekhgmaaGreatDoor.Gt
def opC (x : COp × Value) : List Value := [.int .i64 x.1.kind, .int .i64 x.1.gate, x.2, .int .i64 x.1.bit, .int .i64 x.1.cond, .int .i64 x.1.whn]
def wiP (x n : Int) : Bool := decide (0 <= x) && decide (x < n)
def apaN (l : List Int) (n : Int) (i : Nat) : Prop := ∀ j x, j < i -> l[j]? = some x -> wiP x n = true /\ x ∉ l.take j
def apaP (l : List Int) (n : Int) : Bool := decide (l.Nodup) && l.all fun x => wiP x n
theorem apaN_all {l : List Int} {n : Int} : apaN l n l.length ↔ apaP l n = true := by
  unfold apaN apaP
  rw [Bool.and_eq_true, decide_eq_true_eq, List.all_eq_true]
  constructor
  . intro h
    constructor
    . rw [List.nodup_iff_pairwise_ne, List.pairwise_iff_getElem]
      intro i j hi hj hij e
      have := (h j l[j] hj (List.getElem?_eq_getElem hj)).2
      refine this ?_
      rw [← e]
      exact List.mem_take_iff_getElem.2 ⟨i, by omega, rfl⟩
    . intro x hx
      obtain ⟨j, hj, rfl⟩ := List.getElem_of_mem hx
      exact (h j _ hj (List.getElem?_eq_getElem hj)).1
  . rintro ⟨h1, h2⟩ j x hj hx
    refine ⟨h2 x (List.mem_of_getElem? hx), fun hm => ?_⟩
    obtain ⟨i, hi, e⟩ := List.mem_take_iff_getElem.1 hm
    obtain ⟨hlt, e2⟩ := List.getElem?_eq_some_iff.1 hx
    rw [List.nodup_iff_pairwise_ne, List.pairwise_iff_getElem] at h1
    exact h1 i j (by omega) hlt (by omega) (by rw [e, e2])
def freeP (o : COp) : Bool := decide (o.cond = -1) && decide (o.whn = 0)
def askP (o : COp) (b : Int) : Bool := wiP o.cond b && wiP o.whn 2
def noGP (o : COp) : Bool := decide (o.gate = 0) && freeP o
def mayP (q b : Int) (o : COp) : Bool :=
  if o.kind = 1 then decide (chkP o.gate o.qs q = 0) && decide (o.bit = 0) && (freeP o || askP o b)
  else if o.kind = 2 then noGP o && decide (o.qs.length = 1) && apaP o.qs q && wiP o.bit b
  else if o.kind = 3 then noGP o && decide (o.qs.length = 1) && apaP o.qs q && decide (o.bit = 0)
  else if o.kind = 4 then noGP o && decide (0 < o.qs.length) && apaP o.qs q && decide (o.bit = 0)
  else false
def badI (q b : Int) : Nat -> List COp -> Option Nat
  | _, [] => none
  | i, o :: r => if mayP q b o then badI q b (i + 1) r else some i
theorem badI_none (q b : Int) : ∀ (i : Nat) (l : List COp), (∀ o ∈ l, mayP q b o = true) -> badI q b i l = none
  | _, [], _ => rfl
  | i, o :: r, h => by
    rw [badI, if_pos (h o (by simp))]
    exact badI_none q b (i + 1) r fun x hx => h x (by simp [hx])
theorem badI_some (q b : Int) : ∀ (i : Nat) (l : List COp) (k : Nat) (o : COp), (∀ x ∈ l.take k, mayP q b x = true) -> l[k]? = some o -> mayP q b o = false -> badI q b i l = some (i + k)
  | _, [], _, _, _, h, _ => by simp at h
  | i, a :: r, 0, o, _, h, hb => by
    simp at h
    subst h
    rw [badI, hb]
    rfl
  | i, a :: r, k + 1, o, h1, h, hb => by
    rw [badI, if_pos (h1 a (by simp)), badI_some q b (i + 1) r k o (fun x hx => h1 x (by simp [hx])) (by simpa using h) hb]
    congr 1
    omega
def cntP (q b : Int) : Bool := wiP q 65 && wiP b 65
def chkC (c : Circ) : Int × Int := if !cntP c.q c.b || decide (4096 < c.ops.length) then (-1, 80) else match badI c.q c.b 0 c.ops with
  | some i => ((i : Int), 80)
  | none => (0, 0)
structure Oc (w : World) (g off : Nat) (o : COp) (aq : Option Addr) (cq : Nat) : Prop where
  kind : w.cell? ⟨g, off, none⟩ = some (.int .i64 o.kind)
  gate : w.cell? ⟨g, off + 1, none⟩ = some (.int .i64 o.gate)
  qs : w.cell? ⟨g, off + 2, none⟩ = some (.slice aq o.qs.length cq)
  bit : w.cell? ⟨g, off + 3, none⟩ = some (.int .i64 o.bit)
  cond : w.cell? ⟨g, off + 4, none⟩ = some (.int .i64 o.cond)
  whn : w.cell? ⟨g, off + 5, none⟩ = some (.int .i64 o.whn)
  room : o.qs.length <= cq
  ns : Ns w aq o.qs
theorem Oc.below {w w' : World} {g off : Nat} {o : COp} {aq : Option Addr} {cq : Nat} (h : Oc w g off o aq cq) (hb : Below w.heap.size w w') : Oc w' g off o aq cq := by
  have hl := World.block_lt_of_cell? _ _ h.kind
  have key : ∀ j, w'.cell? ⟨g, j, none⟩ = w.cell? ⟨g, j, none⟩ := fun j => hb.cell (p := ⟨g, j, none⟩) hl
  exact ⟨(key _).trans h.kind, (key _).trans h.gate, (key _).trans h.qs, (key _).trans h.bit, (key _).trans h.cond, (key _).trans h.whn, h.room, h.ns.below hb⟩
def OpsIn (w : World) (ao : Option Addr) (ops : List COp) : Prop := ops = [] ∨ ∃ g off, ao = some ⟨g, off, none⟩ /\ ∀ (i : Nat) o, ops[i]? = some o -> ∃ aq cq, Oc w g (off + i * 6) o aq cq
theorem OpsIn.below {w w' : World} {ao : Option Addr} {ops : List COp} (h : OpsIn w ao ops) (hb : Below w.heap.size w w') : OpsIn w' ao ops := by
  rcases h with h | ⟨g, off, e, h⟩
  . exact .inl h
  . refine .inr ⟨g, off, e, fun i o hi => ?_⟩
    obtain ⟨aq, cq, h1⟩ := h i o hi
    exact ⟨aq, cq, h1.below hb⟩
theorem OpsIn.at {w : World} {ao : Option Addr} {ops : List COp} (h : OpsIn w ao ops) {i : Nat} {o : COp} (hi : ops[i]? = some o) : ∃ g off aq cq, ao = some ⟨g, off, none⟩ /\ g < w.heap.size /\ Oc w g (off + i * 6) o aq cq := by
  rcases h with h | ⟨g, off, e, h⟩
  . rw [h] at hi; simp at hi
  . obtain ⟨aq, cq, h1⟩ := h i o hi
    exact ⟨g, off, aq, cq, e, World.block_lt_of_cell? _ _ h1.kind, h1⟩
def cV (c : Circ) (ao : Option Addr) (k : Nat) : Value := .agg #[.int .i64 c.q, .int .i64 c.b, .slice ao c.ops.length k]
end Go.Proofs.YtoickolhekhgmaaGreatDoor.Cir
