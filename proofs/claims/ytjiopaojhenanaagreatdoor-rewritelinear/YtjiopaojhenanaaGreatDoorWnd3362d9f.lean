import Derived.Test.YtjiopaojhenanaaGreatDoorWn646d6859
namespace Go.Proofs.YtjiopaojhenanaaGreatDoor.Gt
end Go.Proofs.YtjiopaojhenanaaGreatDoor.Gt
namespace Go.Proofs.YtjiopaojhenanaaGreatDoor.Oct
end Go.Proofs.YtjiopaojhenanaaGreatDoor.Oct
namespace Go.Proofs.YtjiopaojhenanaaGreatDoor.Tok
end Go.Proofs.YtjiopaojhenanaaGreatDoor.Tok
namespace Go.Proofs.YtjiopaojhenanaaGreatDoor.Cir
open Go.RowKit Go.Shelf Go.Proofs.YtjiopaojhenanaaGreatDoor.Oct Go.Proofs.YtjiopaojhenanaaGreatDoor.Tok Go.Proofs.YtjiopaojhenanaaGreatDoor.Gt
def IsI (w : World) (v : Value) (l : List Int) : Prop := (l = [] /\ ∃ ao c, v = .slice ao 0 c) ∨ ∃ g off c cs fr, v = .slice (some ⟨g, off, none⟩) l.length c /\ l.length <= c /\ w.heap[g]? = some (.cells cs 3 fr) /\ ∀ (j : Nat) (z : Int), l[j]? = some z -> cs[off + j]? = some (.int .i64 z)
def opC (x : COp × Value) : List Value := [.int .i64 x.1.kind, .int .i64 x.1.gate, x.2, .int .i64 x.1.bit, .int .i64 x.1.cond, .int .i64 x.1.whn]
theorem infoOp : (Tryz.prog.info? 49).map (fun i => (i.zero, i.size, i.bytes)) = some (some (.agg #[.int .i64 0, .int .i64 0, .slice none 0 0, .int .i64 0, .int .i64 0, .int .i64 0]), 6, 64) := by kernel_rfl
def OpsAt (w : World) (B : Nat) (ao : Option Addr) (n c : Nat) (ops : List COp) : Prop := ∃ xs : List (COp × Value), n = xs.length /\ ops = xs.map (·.1) /\ w.ownsRow B 49 6 (.slice ao n c) n (xs.flatMap opC) /\ ∀ x ∈ xs, IsI w x.2 x.1.qs
theorem OpsAt.len {w : World} {B : Nat} {ao : Option Addr} {n c : Nat} {ops : List COp} (h : OpsAt w B ao n c ops) : n = ops.length := by
  obtain ⟨xs, h1, h2, _⟩ := h
  rw [h1, h2, List.length_map]
theorem own_cells' {w : World} {B e size n : Nat} {ao : Option Addr} {m c : Nat} {xs : List Value} (h : w.ownsRow B e size (.slice ao m c) n xs) {k : Nat} (hk : ob ao = some k) : ∃ cs fr, w.heap[k]? = some (Obj.cells cs e fr) := by
  rcases h.2 with h0 | ⟨g, cap, cur, hv, hbg, hg, h1⟩
  . simp only [Value.slice.injEq] at h0
    rw [h0.1.1] at hk
    cases hk
  . simp only [Value.slice.injEq] at hv
    rw [hv.1] at hk
    cases hk
    exact ⟨cur, (0, 0), hg⟩
def wiP (x n : Int) : Bool := decide (0 <= x) && decide (x < n)
def apaN (l : List Int) (n : Int) (i : Nat) : Prop := ∀ j x, j < i -> l[j]? = some x -> wiP x n = true /\ x ∉ l.take j
def apaP (l : List Int) (n : Int) : Bool := decide (l.Nodup) && l.all fun x => wiP x n
theorem apaN_all {l : List Int} {n : Int} : apaN l n l.length ↔ apaP l n = true := by
  unfold apaN apaP
  rw [Bool.and_eq_true, decide_eq_true_eq, List.all_eq_true]
  constructor
  . intro h
    constructor
    . rw [List.nodup_iff_pairwise_ne, List.pairwise_iff_getElem]
      intro i j hi hj hij e
      have := (h j l[j] hj (List.getElem?_eq_getElem hj)).2
      refine this ?_
      rw [← e]
      exact List.mem_take_iff_getElem.2 ⟨i, by omega, rfl⟩
    . intro x hx
      obtain ⟨j, hj, rfl⟩ := List.getElem_of_mem hx
      exact (h j _ hj (List.getElem?_eq_getElem hj)).1
  . rintro ⟨h1, h2⟩ j x hj hx
    refine ⟨h2 x (List.mem_of_getElem? hx), fun hm => ?_⟩
    obtain ⟨i, hi, e⟩ := List.mem_take_iff_getElem.1 hm
    obtain ⟨hlt, e2⟩ := List.getElem?_eq_some_iff.1 hx
    rw [List.nodup_iff_pairwise_ne, List.pairwise_iff_getElem] at h1
    exact h1 i j (by omega) hlt (by omega) (by rw [e, e2])
def freeP (o : COp) : Bool := decide (o.cond = -1) && decide (o.whn = 0)
def askP (o : COp) (b : Int) : Bool := wiP o.cond b && wiP o.whn 2
def noGP (o : COp) : Bool := decide (o.gate = 0) && freeP o
def mayP (q b : Int) (o : COp) : Bool :=
  if o.kind = 1 then decide (chkP o.gate o.qs q = 0) && decide (o.bit = 0) && (freeP o || askP o b)
  else if o.kind = 2 then noGP o && decide (o.qs.length = 1) && apaP o.qs q && wiP o.bit b
  else if o.kind = 3 then noGP o && decide (o.qs.length = 1) && apaP o.qs q && decide (o.bit = 0)
  else if o.kind = 4 then noGP o && decide (0 < o.qs.length) && apaP o.qs q && decide (o.bit = 0)
  else false
def badI (q b : Int) : Nat -> List COp -> Option Nat
  | _, [] => none
  | i, o :: r => if mayP q b o then badI q b (i + 1) r else some i
theorem badI_none (q b : Int) : ∀ (i : Nat) (l : List COp), (∀ o ∈ l, mayP q b o = true) -> badI q b i l = none
  | _, [], _ => rfl
  | i, o :: r, h => by
    rw [badI, if_pos (h o (by simp))]
    exact badI_none q b (i + 1) r fun x hx => h x (by simp [hx])
theorem badI_some (q b : Int) : ∀ (i : Nat) (l : List COp) (k : Nat) (o : COp), (∀ x ∈ l.take k, mayP q b x = true) -> l[k]? = some o -> mayP q b o = false -> badI q b i l = some (i + k)
  | _, [], _, _, _, h, _ => by simp at h
  | i, a :: r, 0, o, _, h, hb => by
    simp at h
    subst h
    rw [badI, hb]
    rfl
  | i, a :: r, k + 1, o, h1, h, hb => by
    rw [badI, if_pos (h1 a (by simp)), badI_some q b (i + 1) r k o (fun x hx => h1 x (by simp [hx])) (by simpa using h) hb]
    congr 1
    omega
def cntP (q b : Int) : Bool := wiP q 65 && wiP b 65
def chkC (c : Circ) : Int × Int := if !cntP c.q c.b || decide (4096 < c.ops.length) then (-1, 80) else match badI c.q c.b 0 c.ops with
  | some i => ((i : Int), 80)
  | none => (0, 0)
structure Oc (w : World) (g off : Nat) (o : COp) (aq : Option Addr) (cq : Nat) : Prop where
  kind : w.cell? ⟨g, off, none⟩ = some (.int .i64 o.kind)
  gate : w.cell? ⟨g, off + 1, none⟩ = some (.int .i64 o.gate)
  qs : w.cell? ⟨g, off + 2, none⟩ = some (.slice aq o.qs.length cq)
  bit : w.cell? ⟨g, off + 3, none⟩ = some (.int .i64 o.bit)
  cond : w.cell? ⟨g, off + 4, none⟩ = some (.int .i64 o.cond)
  whn : w.cell? ⟨g, off + 5, none⟩ = some (.int .i64 o.whn)
  room : o.qs.length <= cq
  ns : Ns w aq o.qs
theorem Oc.below {w w' : World} {g off : Nat} {o : COp} {aq : Option Addr} {cq : Nat} (h : Oc w g off o aq cq) (hb : Below w.heap.size w w') : Oc w' g off o aq cq := by
  have hl := World.block_lt_of_cell? _ _ h.kind
  have key : ∀ j, w'.cell? ⟨g, j, none⟩ = w.cell? ⟨g, j, none⟩ := fun j => hb.cell (p := ⟨g, j, none⟩) hl
  exact ⟨(key _).trans h.kind, (key _).trans h.gate, (key _).trans h.qs, (key _).trans h.bit, (key _).trans h.cond, (key _).trans h.whn, h.room, h.ns.below hb⟩
def OpsIn (w : World) (ao : Option Addr) (ops : List COp) : Prop := ops = [] ∨ ∃ g off, ao = some ⟨g, off, none⟩ /\ ∀ (i : Nat) o, ops[i]? = some o -> ∃ aq cq, Oc w g (off + i * 6) o aq cq
theorem OpsIn.below {w w' : World} {ao : Option Addr} {ops : List COp} (h : OpsIn w ao ops) (hb : Below w.heap.size w w') : OpsIn w' ao ops := by
  rcases h with h | ⟨g, off, e, h⟩
  . exact .inl h
  . refine .inr ⟨g, off, e, fun i o hi => ?_⟩
    obtain ⟨aq, cq, h1⟩ := h i o hi
    exact ⟨aq, cq, h1.below hb⟩
theorem OpsIn.at {w : World} {ao : Option Addr} {ops : List COp} (h : OpsIn w ao ops) {i : Nat} {o : COp} (hi : ops[i]? = some o) : ∃ g off aq cq, ao = some ⟨g, off, none⟩ /\ g < w.heap.size /\ Oc w g (off + i * 6) o aq cq := by
  rcases h with h | ⟨g, off, e, h⟩
  . rw [h] at hi; simp at hi
  . obtain ⟨aq, cq, h1⟩ := h i o hi
    exact ⟨g, off, aq, cq, e, World.block_lt_of_cell? _ _ h1.kind, h1⟩
theorem opC_at (l : List (COp × Value)) (k : Nat) (x : COp × Value) (h : l[k]? = some x) (j : Nat) (u : Value) (hu : (opC x)[j]? = some u) : (l.flatMap opC)[k * 6 + j]? = some u := by
  induction l generalizing k with
  | nil => simp at h
  | cons b r ih =>
    cases k with
    | zero =>
      simp at h
      subst h
      rw [List.flatMap_cons, Nat.zero_mul, Nat.zero_add, List.getElem?_append_left (List.getElem?_eq_some_iff.1 hu).1]
      exact hu
    | succ k =>
      have hl : (opC b).length = 6 := rfl
      rw [List.flatMap_cons, List.getElem?_append_right (by omega), hl, show (k + 1) * 6 + j - 6 = k * 6 + j by omega]
      exact ih k (by simpa using h)
theorem IsI.ns {w : World} {v : Value} {l : List Int} (h : IsI w v l) : ∃ aq cq, v = .slice aq l.length cq /\ l.length <= cq /\ Ns w aq l := by
  rcases h with ⟨rfl, ao, c, rfl⟩ | ⟨g, off, c, cs, fr, h1, h0, h2, h3⟩
  . exact ⟨ao, c, rfl, Nat.zero_le _, .inl rfl⟩
  . exact ⟨_, c, h1, h0, .inr ⟨g, off, rfl, fun j z hj => (cell_of_row _ _ _ _ _ _ h2).trans (h3 j z hj)⟩⟩
theorem OpsAt.rd {w : World} {B : Nat} {ao : Option Addr} {n c : Nat} {ops : List COp} (h : OpsAt w B ao n c ops) : OpsIn w ao ops /\ ops.length <= c := by
  obtain ⟨xs, h1, h2, h3, h4⟩ := h
  rcases h3.2 with ⟨hv, h0⟩ | ⟨g, cap, cur, hv, hbg, hg, e1, e2, e3, e4⟩
  . have hx : xs = [] := List.length_eq_zero_iff.1 (by rw [← h1]; exact h0)
    subst hx
    subst h2
    exact ⟨.inl rfl, Nat.zero_le _⟩
  . simp only [Value.slice.injEq] at hv
    obtain ⟨rfl, -, rfl⟩ := hv
    have hl : ops.length = n := by rw [h2, List.length_map, h1]
    refine ⟨.inr ⟨g, 0, rfl, fun i o hi => ?_⟩, by omega⟩
    rw [h2, List.getElem?_map] at hi
    cases hx : xs[i]? with
    | none => rw [hx] at hi; cases hi
    | some x =>
      rw [hx] at hi
      simp at hi
      subst hi
      obtain ⟨aq, cq, hv, hr, hn⟩ := (h4 x (List.mem_of_getElem? hx)).ns
      have key : ∀ j u, (opC x)[j]? = some u -> w.cell? ⟨g, 0 + i * 6 + j, none⟩ = some u := fun j u hu => by
        have h5 := opC_at xs i x hx j u hu
        have hlt := (List.getElem?_eq_some_iff.1 h5).1
        rw [← e4, List.getElem?_take] at h5
        split at h5
        . rw [Nat.zero_add]
          exact (cell_of_row _ _ _ _ _ _ hg).trans (by simpa using h5)
        . cases h5
      exact ⟨aq, cq, key 0 _ rfl, key 1 _ rfl, (key 2 x.2 rfl).trans (by rw [hv]), key 3 _ rfl, key 4 _ rfl, key 5 _ rfl, hr, hn⟩
def cV (c : Circ) (ao : Option Addr) (k : Nat) : Value := .agg #[.int .i64 c.q, .int .i64 c.b, .slice ao c.ops.length k]
end Go.Proofs.YtjiopaojhenanaaGreatDoor.Cir
