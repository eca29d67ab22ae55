import Derived.Test.YthndpbjplcphpaaDoorQda878869
import Derived.Test.YthndpbjplcphpaaDoorQ97ce2e86
set_option maxRecDepth 100000
set_option maxHeartbeats 2000000
namespace Go.Proofs.YthndpbjplcphpaaDoor.Cir
open Go.RowKit Go.Shelf Go.Proofs.YthndpbjplcphpaaDoor.Oct Go.Proofs.YthndpbjplcphpaaDoor.Tok Go.Proofs.YthndpbjplcphpaaDoor.Gt
def wiP (x n : Int) : Bool := decide (0 <= x) && decide (x < n)
def apaN (l : List Int) (n : Int) (i : Nat) : Prop := ∀ j x, j < i -> l[j]? = some x -> wiP x n = true /\ x ∉ l.take j
def apaP (l : List Int) (n : Int) : Bool := decide (l.Nodup) && l.all fun x => wiP x n
theorem apaN_all {l : List Int} {n : Int} : apaN l n l.length ↔ apaP l n = true := by
  unfold apaN apaP
  rw [Bool.and_eq_true, decide_eq_true_eq, List.all_eq_true]
  constructor
  . intro h
    constructor
    . rw [List.nodup_iff_pairwise_ne, List.pairwise_iff_getElem]
      intro i j hi hj hij e
      have := (h j l[j] hj (List.getElem?_eq_getElem hj)).2
      refine this ?_
      rw [← e]
      exact List.mem_take_iff_getElem.2 ⟨i, by omega, rfl⟩
    . intro x hx
      obtain ⟨j, hj, rfl⟩ := List.getElem_of_mem hx
      exact (h j _ hj (List.getElem?_eq_getElem hj)).1
  . rintro ⟨h1, h2⟩ j x hj hx
    refine ⟨h2 x (List.mem_of_getElem? hx), fun hm => ?_⟩
    obtain ⟨i, hi, e⟩ := List.mem_take_iff_getElem.1 hm
    obtain ⟨hlt, e2⟩ := List.getElem?_eq_some_iff.1 hx
    rw [List.nodup_iff_pairwise_ne, List.pairwise_iff_getElem] at h1
    exact h1 i j (by omega) hlt (by omega) (by rw [e, e2])
def freeP (o : COp) : Bool := decide (o.cond = -1) && decide (o.whn = 0)
def askP (o : COp) (b : Int) : Bool := wiP o.cond b && wiP o.whn 2
def noGP (o : COp) : Bool := decide (o.gate = 0) && freeP o
def mayP (q b : Int) (o : COp) : Bool :=
  if o.kind = 1 then decide (chkP o.gate o.qs q = 0) && decide (o.bit = 0) && (freeP o || askP o b)
  else if o.kind = 2 then noGP o && decide (o.qs.length = 1) && apaP o.qs q && wiP o.bit b
  else if o.kind = 3 then noGP o && decide (o.qs.length = 1) && apaP o.qs q && decide (o.bit = 0)
  else if o.kind = 4 then noGP o && decide (0 < o.qs.length) && apaP o.qs q && decide (o.bit = 0)
  else false
def badI (q b : Int) : Nat -> List COp -> Option Nat
  | _, [] => none
  | i, o :: r => if mayP q b o then badI q b (i + 1) r else some i
theorem badI_none (q b : Int) : ∀ (i : Nat) (l : List COp), (∀ o ∈ l, mayP q b o = true) -> badI q b i l = none
  | _, [], _ => rfl
  | i, o :: r, h => by
    rw [badI, if_pos (h o (by simp))]
    exact badI_none q b (i + 1) r fun x hx => h x (by simp [hx])
theorem badI_some (q b : Int) : ∀ (i : Nat) (l : List COp) (k : Nat) (o : COp), (∀ x ∈ l.take k, mayP q b x = true) -> l[k]? = some o -> mayP q b o = false -> badI q b i l = some (i + k)
  | _, [], _, _, _, h, _ => by simp at h
  | i, a :: r, 0, o, _, h, hb => by
    simp at h
    subst h
    rw [badI, hb]
    rfl
  | i, a :: r, k + 1, o, h1, h, hb => by
    rw [badI, if_pos (h1 a (by simp)), badI_some q b (i + 1) r k o (fun x hx => h1 x (by simp [hx])) (by simpa using h) hb]
    congr 1
    omega
def cntP (q b : Int) : Bool := wiP q 65 && wiP b 65
def chkC (c : Circ) : Int × Int := if !cntP c.q c.b || decide (4096 < c.ops.length) then (-1, 80) else match badI c.q c.b 0 c.ops with
  | some i => ((i : Int), 80)
  | none => (0, 0)
structure Oc (w : World) (g off : Nat) (o : COp) (aq : Option Addr) (cq : Nat) : Prop where
  kind : w.cell? ⟨g, off, none⟩ = some (.int .i64 o.kind)
  gate : w.cell? ⟨g, off + 1, none⟩ = some (.int .i64 o.gate)
  qs : w.cell? ⟨g, off + 2, none⟩ = some (.slice aq o.qs.length cq)
  bit : w.cell? ⟨g, off + 3, none⟩ = some (.int .i64 o.bit)
  cond : w.cell? ⟨g, off + 4, none⟩ = some (.int .i64 o.cond)
  whn : w.cell? ⟨g, off + 5, none⟩ = some (.int .i64 o.whn)
  room : o.qs.length <= cq
  ns : Ns w aq o.qs
theorem Oc.below {w w' : World} {g off : Nat} {o : COp} {aq : Option Addr} {cq : Nat} (h : Oc w g off o aq cq) (hb : Below w.heap.size w w') : Oc w' g off o aq cq := by
  have hl := World.block_lt_of_cell? _ _ h.kind
  have key : ∀ j, w'.cell? ⟨g, j, none⟩ = w.cell? ⟨g, j, none⟩ := fun j => hb.cell (p := ⟨g, j, none⟩) hl
  exact ⟨(key _).trans h.kind, (key _).trans h.gate, (key _).trans h.qs, (key _).trans h.bit, (key _).trans h.cond, (key _).trans h.whn, h.room, h.ns.below hb⟩
def OpsIn (w : World) (ao : Option Addr) (ops : List COp) : Prop := ops = [] ∨ ∃ g off, ao = some ⟨g, off, none⟩ /\ ∀ (i : Nat) o, ops[i]? = some o -> ∃ aq cq, Oc w g (off + i * 6) o aq cq
theorem OpsIn.below {w w' : World} {ao : Option Addr} {ops : List COp} (h : OpsIn w ao ops) (hb : Below w.heap.size w w') : OpsIn w' ao ops := by
  rcases h with h | ⟨g, off, e, h⟩
  . exact .inl h
  . refine .inr ⟨g, off, e, fun i o hi => ?_⟩
    obtain ⟨aq, cq, h1⟩ := h i o hi
    exact ⟨aq, cq, h1.below hb⟩
theorem OpsIn.at {w : World} {ao : Option Addr} {ops : List COp} (h : OpsIn w ao ops) {i : Nat} {o : COp} (hi : ops[i]? = some o) : ∃ g off aq cq, ao = some ⟨g, off, none⟩ /\ g < w.heap.size /\ Oc w g (off + i * 6) o aq cq := by
  rcases h with h | ⟨g, off, e, h⟩
  . rw [h] at hi; simp at hi
  . obtain ⟨aq, cq, h1⟩ := h i o hi
    exact ⟨g, off, aq, cq, e, World.block_lt_of_cell? _ _ h1.kind, h1⟩
theorem opC_at (l : List (COp × Value)) (k : Nat) (x : COp × Value) (h : l[k]? = some x) (j : Nat) (u : Value) (hu : (opC x)[j]? = some u) : (l.flatMap opC)[k * 6 + j]? = some u := by
  induction l generalizing k with
  | nil => simp at h
  | cons b r ih =>
    cases k with
    | zero =>
      simp at h
      subst h
      rw [List.flatMap_cons, Nat.zero_mul, Nat.zero_add, List.getElem?_append_left (List.getElem?_eq_some_iff.1 hu).1]
      exact hu
    | succ k =>
      have hl : (opC b).length = 6 := rfl
      rw [List.flatMap_cons, List.getElem?_append_right (by omega), hl, show (k + 1) * 6 + j - 6 = k * 6 + j by omega]
      exact ih k (by simpa using h)
theorem IsI.ns {w : World} {v : Value} {l : List Int} (h : IsI w v l) : ∃ aq cq, v = .slice aq l.length cq /\ l.length <= cq /\ Ns w aq l := by
  rcases h with ⟨rfl, ao, c, rfl⟩ | ⟨g, off, c, cs, fr, h1, h0, h2, h3⟩
  . exact ⟨ao, c, rfl, Nat.zero_le _, .inl rfl⟩
  . exact ⟨_, c, h1, h0, .inr ⟨g, off, rfl, fun j z hj => (cell_of_row _ _ _ _ _ _ h2).trans (h3 j z hj)⟩⟩
theorem OpsAt.rd {w : World} {B : Nat} {ao : Option Addr} {n c : Nat} {ops : List COp} (h : OpsAt w B ao n c ops) : OpsIn w ao ops /\ ops.length <= c := by
  obtain ⟨xs, h1, h2, h3, h4⟩ := h
  rcases h3.2 with ⟨hv, h0⟩ | ⟨g, cap, cur, hv, hbg, hg, e1, e2, e3, e4⟩
  . have hx : xs = [] := List.length_eq_zero_iff.1 (by rw [← h1]; exact h0)
    subst hx
    subst h2
    exact ⟨.inl rfl, Nat.zero_le _⟩
  . simp only [Value.slice.injEq] at hv
    obtain ⟨rfl, -, rfl⟩ := hv
    have hl : ops.length = n := by rw [h2, List.length_map, h1]
    refine ⟨.inr ⟨g, 0, rfl, fun i o hi => ?_⟩, by omega⟩
    rw [h2, List.getElem?_map] at hi
    cases hx : xs[i]? with
    | none => rw [hx] at hi; cases hi
    | some x =>
      rw [hx] at hi
      simp at hi
      subst hi
      obtain ⟨aq, cq, hv, hr, hn⟩ := (h4 x (List.mem_of_getElem? hx)).ns
      have key : ∀ j u, (opC x)[j]? = some u -> w.cell? ⟨g, 0 + i * 6 + j, none⟩ = some u := fun j u hu => by
        have h5 := opC_at xs i x hx j u hu
        have hlt := (List.getElem?_eq_some_iff.1 h5).1
        rw [← e4, List.getElem?_take] at h5
        split at h5
        . rw [Nat.zero_add]
          exact (cell_of_row _ _ _ _ _ _ hg).trans (by simpa using h5)
        . cases h5
      exact ⟨aq, cq, key 0 _ rfl, key 1 _ rfl, (key 2 x.2 rfl).trans (by rw [hv]), key 3 _ rfl, key 4 _ rfl, key 5 _ rfl, hr, hn⟩
def cV (c : Circ) (ao : Option Addr) (k : Nat) : Value := .agg #[.int .i64 c.q, .int .i64 c.b, .slice ao c.ops.length k]
theorem cWithin (x n : Int) (w : World) : Calls Tryd.prog 66 #[.int .i64 x, .int .i64 n] w fun e w' => e = .returned (.bool (wiP x n)) /\ w' = w := by
  unfold wiP
  by_cases h0 : 0 <= x
  . have d0 : decide (x ≥ 0) = true := decide_eq_true h0
    have d1 : decide (0 <= x) = true := decide_eq_true h0
    clear h0
    go_enter Tryd.func66, Tryd.ntmps66
    go_wp2_with fail
    go_ret
    exact ⟨by rw [d1]; rfl, rfl⟩
  . have d0 : decide (x ≥ 0) = false := decide_eq_false h0
    have d1 : decide (0 <= x) = false := decide_eq_false h0
    clear h0
    go_enter Tryd.func66, Tryd.ntmps66
    go_wp2_with fail
    go_ret
    exact ⟨by rw [d1]; rfl, rfl⟩
theorem cCountsMay (q b : Int) (w : World) : Calls Tryd.prog 47 #[.int .i64 q, .int .i64 b] w fun e w' => e = .returned (.bool (cntP q b)) /\ w' = w := by
  have c1 := fun W => cWithin q 65 W
  have c2 := fun W => cWithin b 65 W
  unfold cntP
  generalize wiP q 65 = b1 at *
  generalize wiP b 65 = b2 at *
  cases b1 with
  | true =>
    go_enter Tryd.func47, Tryd.ntmps47
    go_wp2_with (first
      | (go_at_call_of 66 (Value.int IntKind.i64 q); refine (c1 _).mono ?_; clear c1; rintro e w1 ⟨rfl, rfl⟩)
      | (go_at_call 66; refine (c2 _).mono ?_; rintro e w2 ⟨rfl, rfl⟩))
    go_ret
    exact ⟨by simp, rfl⟩
  | false =>
    go_enter Tryd.func47, Tryd.ntmps47
    go_wp2_with (first
      | (go_at_call 66; refine (c1 _).mono ?_; rintro e w1 ⟨rfl, rfl⟩))
    go_ret
    exact ⟨by simp, rfl⟩
def opV (o : COp) (aq : Option Addr) (cq : Nat) : Value := .agg #[.int .i64 o.kind, .int .i64 o.gate, .slice aq o.qs.length cq, .int .i64 o.bit, .int .i64 o.cond, .int .i64 o.whn]
theorem cFree (o : COp) (aq : Option Addr) (cq : Nat) (w : World) : Calls Tryd.prog 68 #[opV o aq cq] w fun e w' => e = .returned (.bool (freeP o)) /\ Below w.heap.size w w' := by
  obtain ⟨kind, gate, qs, bit, cond, whn⟩ := o
  unfold opV freeP
  simp only
  by_cases h0 : cond = -1
  . subst h0
    go_enter Tryd.func68, Tryd.ntmps68
    go_wp2_with fail
    go_ret
    exact ⟨by simp only [decide_true, Bool.true_and]; rfl, bnew _ _⟩
  . have e1 : (cond == -1) = false := by simpa using h0
    go_enter Tryd.func68, Tryd.ntmps68
    go_wp2_with fail
    go_ret
    exact ⟨by simp [h0], bnew _ _⟩
theorem cAsked (o : COp) (aq : Option Addr) (cq : Nat) (b : Int) (w : World) : Calls Tryd.prog 69 #[opV o aq cq, .int .i64 b] w fun e w' => e = .returned (.bool (askP o b)) /\ Below w.heap.size w w' := by
  have c1 := fun W => cWithin o.cond b W
  have c2 := fun W => cWithin o.whn 2 W
  obtain ⟨kind, gate, qs, bit, cond, whn⟩ := o
  unfold opV askP
  simp only at c1 c2 ⊢
  generalize wiP cond b = b1 at *
  generalize wiP whn 2 = b2 at *
  cases b1 with
  | true =>
    go_enter Tryd.func69, Tryd.ntmps69
    go_wp2_with (first
      | (go_at_call_of 66 (Value.int IntKind.i64 cond); refine (c1 _).mono ?_; clear c1; rintro e w1 ⟨rfl, rfl⟩)
      | (go_at_call 66; refine (c2 _).mono ?_; rintro e w2 ⟨rfl, rfl⟩))
    go_ret
    exact ⟨by simp, bnew _ _⟩
  | false =>
    go_enter Tryd.func69, Tryd.ntmps69
    go_wp2_with (first
      | (go_at_call 66; refine (c1 _).mono ?_; rintro e w1 ⟨rfl, rfl⟩))
    go_ret
    exact ⟨by simp, bnew _ _⟩
theorem cNoGate (o : COp) (aq : Option Addr) (cq : Nat) (w : World) : Calls Tryd.prog 70 #[opV o aq cq] w fun e w' => e = .returned (.bool (noGP o)) /\ Below w.heap.size w w' := by
  have c1 := fun W => cFree o aq cq W
  unfold noGP
  obtain ⟨kind, gate, qs, bit, cond, whn⟩ := o
  unfold opV at c1 ⊢
  simp only at c1 ⊢
  generalize freeP ⟨kind, gate, qs, bit, cond, whn⟩ = fb at *
  by_cases h0 : gate = 0
  . subst h0
    go_enter Tryd.func70, Tryd.ntmps70
    go_wp2_with (first | (go_at_call 68; refine (c1 _).mono ?_; rintro e w1 ⟨rfl, hb1⟩))
    go_ret
    exact ⟨by simp, (bnew _ _).trans (hb1.mono (by simp))⟩
  . have e1 : (gate == 0) = false := by simpa using h0
    go_enter Tryd.func70, Tryd.ntmps70
    go_wp2_with fail
    go_ret
    exact ⟨by simp [h0], bnew _ _⟩
theorem apaN_step {l : List Int} {n : Int} {i : Nat} {x : Int} (h : apaN l n i) (hx : l[i]? = some x) (h1 : wiP x n = true) (h2 : x ∉ l.take i) : apaN l n (i + 1) := by
  intro j y hj hy
  by_cases e : j = i
  . subst e
    rw [hx] at hy
    cases hy
    exact ⟨h1, h2⟩
  . exact h j y (by omega) hy
theorem cApart (ao : Option Addr) (c : Nat) (l : List Int) (n : Int) (hl : l.length <= 1000000000000000) (hc : l.length <= c) (w : World) (hN : Ns w ao l) : Calls Tryd.prog 71 #[.slice ao l.length c, .int .i64 n] w fun e w' => e = .returned (.bool (apaP l n)) /\ w' = w := by
  have HN := hide hN
  obtain ⟨R, hR⟩ : ∃ R, apaP l n = R := ⟨_, rfl⟩
  rw [hR]
  have HR := hide hR
  obtain ⟨m, hm⟩ : ∃ m, l.length = m := ⟨_, rfl⟩
  have HL := hide hm
  rw [hm] at hl hc ⊢
  clear hN hR hm
  go_enter Tryd.func71, Tryd.ntmps71
  go_wp2_with fail
  go_loopw [5, 6, 9] (fun _ _ vi wr => ∃ i : Nat, vi = .int .i64 (i : Int) /\ i <= m /\ Hid (apaN l n i) /\ wr = w) (fun _ _ vi _ => m - (Go.RowKit.intOf vi).toNat)
  case atStart => exact ⟨0, rfl, Nat.zero_le _, hide (fun j x hj => by omega), rfl⟩
  case round =>
    obtain ⟨i, rfl, hi, HA, rfl⟩ := hrel
    by_cases h : i < m
    . have hd : decide ((i : Int) < (m : Int)) = true := decide_eq_true (by omega)
      have hlt : i < l.length := by rw [HL.out]; exact h
      obtain ⟨z, hz⟩ : ∃ z, l[i]? = some z := ⟨_, List.getElem?_eq_getElem hlt⟩
      have hT' := HN.out.take i
      have hlen : (l.take i).length = i := by rw [List.length_take]; omega
      obtain ⟨g, off, rfl, hcs⟩ := HN.out.resolve_left (fun e => by rw [e] at hz; simp at hz)
      have hcell := hcs i z hz
      have cC := sContains (some ⟨g, off, none⟩) c (l.take i) z (by omega) wr hT'
      have cW := cWithin z n wr
      rw [hlen] at cC
      have HSt : Hid (wiP z n = true -> decide (z ∈ l.take i) = false -> apaN l n (i + 1)) := hide (fun a b => apaN_step HA.out hz a (by simpa using b))
      have HNo : Hid (wiP z n = false ∨ decide (z ∈ l.take i) = true -> R = false) := hide (fun a => by
        rw [← HR.out, Bool.eq_false_iff]
        intro e
        have hh := apaN_all.2 e i z (by rw [HL.out]; exact h) hz
        rcases a with a | a
        . rw [a] at hh; exact absurd hh.1 (by simp)
        . exact hh.2 (by simpa using a))
      clear hcs hz hT' hlen
      generalize decide (z ∈ l.take i) = mem at *
      generalize wiP z n = wi at *
      cases wi with
      | false =>
        have HRf := hide (HNo.out (.inl rfl))
        clear HNo HSt
        go_wp2_with (first | (go_at_call 66; refine cW.mono ?_; rintro e w1 ⟨rfl, rfl⟩))
        go_ret
        exact ⟨by rw [HRf.out]; rfl, rfl⟩
      | true =>
        cases mem with
        | true =>
          have HRf := hide (HNo.out (.inr rfl))
          clear HNo HSt
          go_wp2_with (first
            | (go_at_call 66; refine cW.mono ?_; rintro e w1 ⟨rfl, rfl⟩)
            | (go_at_call 81; refine cC.mono ?_; rintro e w2 ⟨rfl, rfl⟩))
          go_ret
          exact ⟨by rw [HRf.out]; rfl, rfl⟩
        | false =>
          have HA2 := hide (HSt.out rfl rfl)
          clear HNo HSt
          go_wp2_with (first
            | (go_at_call 66; refine cW.mono ?_; rintro e w1 ⟨rfl, rfl⟩)
            | (go_at_call 81; refine cC.mono ?_; rintro e w2 ⟨rfl, rfl⟩))
          go_roundw
          case rel => exact ⟨i + 1, by go_num, by omega, HA2, by trivial⟩
          case measure => simp [Go.RowKit.intOf]; omega
    . obtain rfl : m = i := by omega
      go_wp2_with fail
      go_ret
      have hz := HA.out
      rw [← HL.out, apaN_all, HR.out] at hz
      exact ⟨by rw [hz]; rfl, rfl⟩
theorem op6_cells {w1 : World} {c : Nat} {x0 x1 x2 x3 x4 x5 : Value} {t : TypeId} (h : w1.heap[c]? = some (.cells #[x0, x1, x2, x3, x4, x5] t (0, 0))) : w1.cell? ⟨c, 0, none⟩ = some x0 /\ w1.cell? ⟨c, 1, none⟩ = some x1 /\ w1.cell? ⟨c, 2, none⟩ = some x2 /\ w1.cell? ⟨c, 3, none⟩ = some x3 /\ w1.cell? ⟨c, 4, none⟩ = some x4 /\ w1.cell? ⟨c, 5, none⟩ = some x5 /\ c < w1.heap.size :=
  tok_cells h
theorem may_keep {w W : World} {c1 c2 : Array Value} {t1 t2 : TypeId} (h : Below ((w.alloc (.cells c1 t1)).alloc (.cells c2 t2)).heap.size ((w.alloc (.cells c1 t1)).alloc (.cells c2 t2)) W) : W.heap[w.heap.size]? = some (.cells c1 t1 (0, 0)) /\ W.heap[w.heap.size + 1]? = some (.cells c2 t2 (0, 0)) := by
  refine ⟨(h.block _ (by simp; omega)).trans ((Below.heap_alloc _ _ _ (by simp)).trans (heap_alloc_new _ _)), (h.block _ (by simp)).trans ?_⟩
  have := heap_alloc_new (w.alloc (.cells c1 t1)) (.cells c2 t2)
  simpa using this
theorem cMayBe (c : Circ) (ao : Option Addr) (k : Nat) (o : COp) (aq : Option Addr) (cq : Nat) (hl : o.qs.length <= 1000000000000000) (hc : o.qs.length <= cq) (w : World) (hT : Tb w) (hN : Ns w aq o.qs) : Calls Tryd.prog 48 #[cV c ao k, opV o aq cq] w fun e w' => e = .returned (.bool (mayP c.q c.b o)) /\ Below w.heap.size w w' := by
  have c1 := fun V (h : Below w.heap.size w V) => gCheck o.gate aq cq o.qs c.q hl hc V (hT.below h) (hN.below h)
  have c2 := fun W => cFree o aq cq W
  have c3 := fun W => cAsked o aq cq c.b W
  have c4 := fun W => cNoGate o aq cq W
  have c5 := fun V (h : Below w.heap.size w V) => cApart aq cq o.qs c.q hl hc V (hN.below h)
  have c6 := fun W => cWithin o.bit c.b W
  obtain ⟨cq', cb, cops⟩ := c
  have hmay : mayP cq' cb o = if o.kind = 1 then decide (chkP o.gate o.qs cq' = 0) && decide (o.bit = 0) && (freeP o || askP o cb) else if o.kind = 2 then noGP o && decide (o.qs.length = 1) && apaP o.qs cq' && wiP o.bit cb else if o.kind = 3 then noGP o && decide (o.qs.length = 1) && apaP o.qs cq' && decide (o.bit = 0) else if o.kind = 4 then noGP o && decide (0 < o.qs.length) && apaP o.qs cq' && decide (o.bit = 0) else false := rfl
  simp only
  rw [hmay]
  clear hmay
  unfold cV opV at *
  obtain ⟨kind, gate, qs, bit, cond, whn⟩ := o
  simp only at *
  generalize chkP gate qs cq' = ck at *
  generalize freeP ⟨kind, gate, qs, bit, cond, whn⟩ = fr at *
  generalize askP ⟨kind, gate, qs, bit, cond, whn⟩ cb = ak at *
  generalize noGP ⟨kind, gate, qs, bit, cond, whn⟩ = ng at *
  generalize apaP qs cq' = ap at *
  generalize wiP bit cb = wi at *
  generalize hql : qs.length = ql at *
  have hW2 : Below w.heap.size w ((w.alloc (.cells #[.int .i64 cq', .int .i64 cb, .slice ao cops.length k] 24)).alloc (.cells #[.int .i64 kind, .int .i64 gate, .slice aq ql cq, .int .i64 bit, .int .i64 cond, .int .i64 whn] 57)) := (bnew _ _).trans ((bnew _ _).mono (by simp))
  have HB0 : Hid (Below ((w.alloc (.cells #[.int .i64 cq', .int .i64 cb, .slice ao cops.length k] 24)).alloc (.cells #[.int .i64 kind, .int .i64 gate, .slice aq ql cq, .int .i64 bit, .int .i64 cond, .int .i64 whn] 57)).heap.size ((w.alloc (.cells #[.int .i64 cq', .int .i64 cb, .slice ao cops.length k] 24)).alloc (.cells #[.int .i64 kind, .int .i64 gate, .slice aq ql cq, .int .i64 bit, .int .i64 cond, .int .i64 whn] 57)) ((w.alloc (.cells #[.int .i64 cq', .int .i64 cb, .slice ao cops.length k] 24)).alloc (.cells #[.int .i64 kind, .int .i64 gate, .slice aq ql cq, .int .i64 bit, .int .i64 cond, .int .i64 whn] 57))) := hide (Below.refl _ _)
  have HBW := hide hW2
  have HKP : Hid (∀ W, Below ((w.alloc (.cells #[.int .i64 cq', .int .i64 cb, .slice ao cops.length k] 24)).alloc (.cells #[.int .i64 kind, .int .i64 gate, .slice aq ql cq, .int .i64 bit, .int .i64 cond, .int .i64 whn] 57)).heap.size ((w.alloc (.cells #[.int .i64 cq', .int .i64 cb, .slice ao cops.length k] 24)).alloc (.cells #[.int .i64 kind, .int .i64 gate, .slice aq ql cq, .int .i64 bit, .int .i64 cond, .int .i64 whn] 57)) W -> W.heap[w.heap.size]? = some (.cells #[.int .i64 cq', .int .i64 cb, .slice ao cops.length k] 24 (0, 0)) /\ W.heap[w.heap.size + 1]? = some (.cells #[.int .i64 kind, .int .i64 gate, .slice aq ql cq, .int .i64 bit, .int .i64 cond, .int .i64 whn] 57 (0, 0)) /\ Below w.heap.size w W) := hide (fun W h => ⟨(may_keep h).1, (may_keep h).2, hW2.trans (h.mono (by simp; omega))⟩)
  clear hW2
  by_cases k1 : kind = 1
  . subst k1
    simp only [if_true]
    by_cases h1 : ck = 0
    . subst h1
      by_cases h2 : bit = 0
      . subst h2
        cases fr with
        | true =>
          go_enter Tryd.func48, Tryd.ntmps48
          go_wp2_with (first
            | (go_at_call 67; refine (c1 _ HBW.out).mono ?_; rintro e v1 ⟨rfl, hb1⟩; have HB1 := hide (Below.trans HB0.out (hb1.mono HB0.out.size)); obtain ⟨m1a, m1b, m1c⟩ := HKP.out _ HB1.out; obtain ⟨p10, p11, p12, p13⟩ := def_cells m1a; obtain ⟨y10, y11, y12, y13, y14, y15, y16⟩ := op6_cells m1b)
            | (go_at_call 68; refine (c2 _).mono ?_; rintro e v2 ⟨rfl, hb2⟩; have HB2 := hide (Below.trans HB1.out (hb2.mono HB1.out.size)); obtain ⟨m2a, m2b, m2c⟩ := HKP.out _ HB2.out; obtain ⟨p20, p21, p22, p23⟩ := def_cells m2a; obtain ⟨y20, y21, y22, y23, y24, y25, y26⟩ := op6_cells m2b))
          go_ret
          exact ⟨by simp, m2c⟩
        | false =>
          go_enter Tryd.func48, Tryd.ntmps48
          go_wp2_with (first
            | (go_at_call 67; refine (c1 _ HBW.out).mono ?_; rintro e v1 ⟨rfl, hb1⟩; have HB1 := hide (Below.trans HB0.out (hb1.mono HB0.out.size)); obtain ⟨m1a, m1b, m1c⟩ := HKP.out _ HB1.out; obtain ⟨p10, p11, p12, p13⟩ := def_cells m1a; obtain ⟨y10, y11, y12, y13, y14, y15, y16⟩ := op6_cells m1b)
            | (go_at_call 68; refine (c2 _).mono ?_; rintro e v2 ⟨rfl, hb2⟩; have HB2 := hide (Below.trans HB1.out (hb2.mono HB1.out.size)); obtain ⟨m2a, m2b, m2c⟩ := HKP.out _ HB2.out; obtain ⟨p20, p21, p22, p23⟩ := def_cells m2a; obtain ⟨y20, y21, y22, y23, y24, y25, y26⟩ := op6_cells m2b)
            | (go_at_call 69; refine (c3 _).mono ?_; rintro e v3 ⟨rfl, hb3⟩; have HB3 := hide (Below.trans HB2.out (hb3.mono HB2.out.size)); obtain ⟨m3a, m3b, m3c⟩ := HKP.out _ HB3.out; obtain ⟨p30, p31, p32, p33⟩ := def_cells m3a; obtain ⟨y30, y31, y32, y33, y34, y35, y36⟩ := op6_cells m3b))
          go_ret
          exact ⟨by simp, m3c⟩
      . have e2 : (bit == 0) = false := by simpa using h2
        go_enter Tryd.func48, Tryd.ntmps48
        go_wp2_with (first
          | (go_at_call 67; refine (c1 _ HBW.out).mono ?_; rintro e v1 ⟨rfl, hb1⟩; have HB1 := hide (Below.trans HB0.out (hb1.mono HB0.out.size)); obtain ⟨m1a, m1b, m1c⟩ := HKP.out _ HB1.out; obtain ⟨p10, p11, p12, p13⟩ := def_cells m1a; obtain ⟨y10, y11, y12, y13, y14, y15, y16⟩ := op6_cells m1b))
        go_ret
        exact ⟨by simp [h2], m1c⟩
    . have e1 : (ck == 0) = false := by simpa using h1
      go_enter Tryd.func48, Tryd.ntmps48
      go_wp2_with (first
        | (go_at_call 67; refine (c1 _ HBW.out).mono ?_; rintro e v1 ⟨rfl, hb1⟩; have HB1 := hide (Below.trans HB0.out (hb1.mono HB0.out.size)); obtain ⟨m1a, m1b, m1c⟩ := HKP.out _ HB1.out; obtain ⟨p10, p11, p12, p13⟩ := def_cells m1a; obtain ⟨y10, y11, y12, y13, y14, y15, y16⟩ := op6_cells m1b))
      go_ret
      exact ⟨by simp [h1], m1c⟩
  rw [if_neg k1]
  have n1 : (kind == 1) = false := by simpa using k1
  by_cases k2 : kind = 2
  . subst k2
    simp only [if_true]
    cases ng with
    | false =>
      go_enter Tryd.func48, Tryd.ntmps48
      go_wp2_with (first
        | (go_at_call 70; refine (c4 _).mono ?_; rintro e v1 ⟨rfl, hb1⟩; have HB1 := hide (Below.trans HB0.out (hb1.mono HB0.out.size)); obtain ⟨m1a, m1b, m1c⟩ := HKP.out _ HB1.out; obtain ⟨p10, p11, p12, p13⟩ := def_cells m1a; obtain ⟨y10, y11, y12, y13, y14, y15, y16⟩ := op6_cells m1b))
      go_ret
      exact ⟨by simp, m1c⟩
    | true =>
      by_cases h1 : ql = 1
      . subst h1
        cases ap with
        | false =>
          go_enter Tryd.func48, Tryd.ntmps48
          go_wp2_with (first
            | (go_at_call 70; refine (c4 _).mono ?_; rintro e v1 ⟨rfl, hb1⟩; have HB1 := hide (Below.trans HB0.out (hb1.mono HB0.out.size)); obtain ⟨m1a, m1b, m1c⟩ := HKP.out _ HB1.out; obtain ⟨p10, p11, p12, p13⟩ := def_cells m1a; obtain ⟨y10, y11, y12, y13, y14, y15, y16⟩ := op6_cells m1b)
            | (go_at_call 71; refine (c5 _ m1c).mono ?_; rintro e v2 ⟨rfl, rfl⟩))
          go_ret
          exact ⟨by simp, m1c⟩
        | true =>
          go_enter Tryd.func48, Tryd.ntmps48
          go_wp2_with (first
            | (go_at_call 70; refine (c4 _).mono ?_; rintro e v1 ⟨rfl, hb1⟩; have HB1 := hide (Below.trans HB0.out (hb1.mono HB0.out.size)); obtain ⟨m1a, m1b, m1c⟩ := HKP.out _ HB1.out; obtain ⟨p10, p11, p12, p13⟩ := def_cells m1a; obtain ⟨y10, y11, y12, y13, y14, y15, y16⟩ := op6_cells m1b)
            | (go_at_call 71; refine (c5 _ m1c).mono ?_; rintro e v2 ⟨rfl, rfl⟩)
            | (go_at_call 66; refine (c6 _).mono ?_; rintro e v3 ⟨rfl, rfl⟩))
          go_ret
          exact ⟨by simp, m1c⟩
      . have e1 : ((ql : Int) == 1) = false := by simp; omega
        go_enter Tryd.func48, Tryd.ntmps48
        go_wp2_with (first
          | (go_at_call 70; refine (c4 _).mono ?_; rintro e v1 ⟨rfl, hb1⟩; have HB1 := hide (Below.trans HB0.out (hb1.mono HB0.out.size)); obtain ⟨m1a, m1b, m1c⟩ := HKP.out _ HB1.out; obtain ⟨p10, p11, p12, p13⟩ := def_cells m1a; obtain ⟨y10, y11, y12, y13, y14, y15, y16⟩ := op6_cells m1b))
        go_ret
        exact ⟨by simp [h1], m1c⟩
  rw [if_neg k2]
  have n2 : (kind == 2) = false := by simpa using k2
  by_cases k3 : kind = 3
  . subst k3
    simp only [if_true]
    cases ng with
    | false =>
      go_enter Tryd.func48, Tryd.ntmps48
      go_wp2_with (first
        | (go_at_call 70; refine (c4 _).mono ?_; rintro e v1 ⟨rfl, hb1⟩; have HB1 := hide (Below.trans HB0.out (hb1.mono HB0.out.size)); obtain ⟨m1a, m1b, m1c⟩ := HKP.out _ HB1.out; obtain ⟨p10, p11, p12, p13⟩ := def_cells m1a; obtain ⟨y10, y11, y12, y13, y14, y15, y16⟩ := op6_cells m1b))
      go_ret
      exact ⟨by simp, m1c⟩
    | true =>
      by_cases h1 : ql = 1
      . subst h1
        cases ap with
        | false =>
          go_enter Tryd.func48, Tryd.ntmps48
          go_wp2_with (first
            | (go_at_call 70; refine (c4 _).mono ?_; rintro e v1 ⟨rfl, hb1⟩; have HB1 := hide (Below.trans HB0.out (hb1.mono HB0.out.size)); obtain ⟨m1a, m1b, m1c⟩ := HKP.out _ HB1.out; obtain ⟨p10, p11, p12, p13⟩ := def_cells m1a; obtain ⟨y10, y11, y12, y13, y14, y15, y16⟩ := op6_cells m1b)
            | (go_at_call 71; refine (c5 _ m1c).mono ?_; rintro e v2 ⟨rfl, rfl⟩))
          go_ret
          exact ⟨by simp, m1c⟩
        | true =>
          by_cases h2 : bit = 0
          . subst h2
            go_enter Tryd.func48, Tryd.ntmps48
            go_wp2_with (first
              | (go_at_call 70; refine (c4 _).mono ?_; rintro e v1 ⟨rfl, hb1⟩; have HB1 := hide (Below.trans HB0.out (hb1.mono HB0.out.size)); obtain ⟨m1a, m1b, m1c⟩ := HKP.out _ HB1.out; obtain ⟨p10, p11, p12, p13⟩ := def_cells m1a; obtain ⟨y10, y11, y12, y13, y14, y15, y16⟩ := op6_cells m1b)
              | (go_at_call 71; refine (c5 _ m1c).mono ?_; rintro e v2 ⟨rfl, rfl⟩))
            go_ret
            exact ⟨by simp, m1c⟩
          . have e2 : (bit == 0) = false := by simpa using h2
            go_enter Tryd.func48, Tryd.ntmps48
            go_wp2_with (first
              | (go_at_call 70; refine (c4 _).mono ?_; rintro e v1 ⟨rfl, hb1⟩; have HB1 := hide (Below.trans HB0.out (hb1.mono HB0.out.size)); obtain ⟨m1a, m1b, m1c⟩ := HKP.out _ HB1.out; obtain ⟨p10, p11, p12, p13⟩ := def_cells m1a; obtain ⟨y10, y11, y12, y13, y14, y15, y16⟩ := op6_cells m1b)
              | (go_at_call 71; refine (c5 _ m1c).mono ?_; rintro e v2 ⟨rfl, rfl⟩))
            go_ret
            exact ⟨by simp [h2], m1c⟩
      . have e1 : ((ql : Int) == 1) = false := by simp; omega
        go_enter Tryd.func48, Tryd.ntmps48
        go_wp2_with (first
          | (go_at_call 70; refine (c4 _).mono ?_; rintro e v1 ⟨rfl, hb1⟩; have HB1 := hide (Below.trans HB0.out (hb1.mono HB0.out.size)); obtain ⟨m1a, m1b, m1c⟩ := HKP.out _ HB1.out; obtain ⟨p10, p11, p12, p13⟩ := def_cells m1a; obtain ⟨y10, y11, y12, y13, y14, y15, y16⟩ := op6_cells m1b))
        go_ret
        exact ⟨by simp [h1], m1c⟩
  rw [if_neg k3]
  have n3 : (kind == 3) = false := by simpa using k3
  by_cases k4 : kind = 4
  . subst k4
    simp only [if_true]
    cases ng with
    | false =>
      go_enter Tryd.func48, Tryd.ntmps48
      go_wp2_with (first
        | (go_at_call 70; refine (c4 _).mono ?_; rintro e v1 ⟨rfl, hb1⟩; have HB1 := hide (Below.trans HB0.out (hb1.mono HB0.out.size)); obtain ⟨m1a, m1b, m1c⟩ := HKP.out _ HB1.out; obtain ⟨p10, p11, p12, p13⟩ := def_cells m1a; obtain ⟨y10, y11, y12, y13, y14, y15, y16⟩ := op6_cells m1b))
      go_ret
      exact ⟨by simp, m1c⟩
    | true =>
      by_cases h1 : 0 < ql
      . have g1 : decide ((ql : Int) > 0) = true := decide_eq_true (by omega)
        have g2 : decide ((0 : Int) < (ql : Int)) = true := decide_eq_true (by omega)
        cases ap with
        | false =>
          go_enter Tryd.func48, Tryd.ntmps48
          go_wp2_with (first
            | (go_at_call 70; refine (c4 _).mono ?_; rintro e v1 ⟨rfl, hb1⟩; have HB1 := hide (Below.trans HB0.out (hb1.mono HB0.out.size)); obtain ⟨m1a, m1b, m1c⟩ := HKP.out _ HB1.out; obtain ⟨p10, p11, p12, p13⟩ := def_cells m1a; obtain ⟨y10, y11, y12, y13, y14, y15, y16⟩ := op6_cells m1b)
            | (go_at_call 71; refine (c5 _ m1c).mono ?_; rintro e v2 ⟨rfl, rfl⟩))
          go_ret
          exact ⟨by simp [h1], m1c⟩
        | true =>
          by_cases h2 : bit = 0
          . subst h2
            go_enter Tryd.func48, Tryd.ntmps48
            go_wp2_with (first
              | (go_at_call 70; refine (c4 _).mono ?_; rintro e v1 ⟨rfl, hb1⟩; have HB1 := hide (Below.trans HB0.out (hb1.mono HB0.out.size)); obtain ⟨m1a, m1b, m1c⟩ := HKP.out _ HB1.out; obtain ⟨p10, p11, p12, p13⟩ := def_cells m1a; obtain ⟨y10, y11, y12, y13, y14, y15, y16⟩ := op6_cells m1b)
              | (go_at_call 71; refine (c5 _ m1c).mono ?_; rintro e v2 ⟨rfl, rfl⟩))
            go_ret
            exact ⟨by simp [h1], m1c⟩
          . have e2 : (bit == 0) = false := by simpa using h2
            go_enter Tryd.func48, Tryd.ntmps48
            go_wp2_with (first
              | (go_at_call 70; refine (c4 _).mono ?_; rintro e v1 ⟨rfl, hb1⟩; have HB1 := hide (Below.trans HB0.out (hb1.mono HB0.out.size)); obtain ⟨m1a, m1b, m1c⟩ := HKP.out _ HB1.out; obtain ⟨p10, p11, p12, p13⟩ := def_cells m1a; obtain ⟨y10, y11, y12, y13, y14, y15, y16⟩ := op6_cells m1b)
              | (go_at_call 71; refine (c5 _ m1c).mono ?_; rintro e v2 ⟨rfl, rfl⟩))
            go_ret
            exact ⟨by simp [h1, h2], m1c⟩
      . have g1 : decide ((ql : Int) > 0) = false := decide_eq_false (by omega)
        have g2 : decide ((0 : Int) < (ql : Int)) = false := decide_eq_false (by omega)
        go_enter Tryd.func48, Tryd.ntmps48
        go_wp2_with (first
          | (go_at_call 70; refine (c4 _).mono ?_; rintro e v1 ⟨rfl, hb1⟩; have HB1 := hide (Below.trans HB0.out (hb1.mono HB0.out.size)); obtain ⟨m1a, m1b, m1c⟩ := HKP.out _ HB1.out; obtain ⟨p10, p11, p12, p13⟩ := def_cells m1a; obtain ⟨y10, y11, y12, y13, y14, y15, y16⟩ := op6_cells m1b))
        go_ret
        exact ⟨by simp [h1], m1c⟩
  rw [if_neg k4]
  have n4 : (kind == 4) = false := by simpa using k4
  go_enter Tryd.func48, Tryd.ntmps48
  go_wp2_with fail
  go_ret
  exact ⟨rfl, HBW.out⟩
structure Ci (w : World) (c : Circ) (ao : Option Addr) (k : Nat) : Prop where
  ops : OpsIn w ao c.ops
  room : c.ops.length <= k
  len : c.ops.length <= 1000000000000000
  qs : ∀ o ∈ c.ops, o.qs.length <= 1000000000000000
theorem Ci.below {w w' : World} {c : Circ} {ao : Option Addr} {k : Nat} (h : Ci w c ao k) (hb : Below w.heap.size w w') : Ci w' c ao k := ⟨h.ops.below hb, h.room, h.len, h.qs⟩
theorem cCheck (c : Circ) (ao : Option Addr) (k : Nat) (w : World) (hT : Tb w) (hC : Ci w c ao k) : Calls Tryd.prog 29 #[cV c ao k] w fun e w' => e = .returned (.tuple #[.int .i64 (chkC c).1, .int .i64 (chkC c).2]) /\ Below w.heap.size w w' := by
  have c1 := fun W => cCountsMay c.q c.b W
  obtain ⟨R, hR⟩ : ∃ R, chkC c = R := ⟨_, rfl⟩
  rw [hR]
  have hR' := hR
  unfold chkC at hR
  have HT := hide hT
  have HC := hide hC
  obtain ⟨n, hn⟩ : ∃ n, c.ops.length = n := ⟨_, rfl⟩
  have HL := hide hn
  have hlen := hC.len
  have HM := hide (fun V (h : Below w.heap.size w V) (o : COp) (ho : o ∈ c.ops) (aq : Option Addr) (cq : Nat) (hc : o.qs.length <= cq) (hn : Ns V aq o.qs) => cMayBe c ao k o aq cq (hC.qs o ho) hc V (hT.below h) hn)
  obtain ⟨q, b, ops⟩ := c
  simp only at c1 hR hn hlen HL
  unfold cV at *
  simp only at *
  rw [hn] at HM hlen hR ⊢
  clear hn hR' hT hC
  generalize cntP q b = cb at *
  cases cb with
  | false =>
    simp only [Bool.not_false, Bool.true_or, if_true] at hR
    subst hR
    go_enter Tryd.func29, Tryd.ntmps29
    go_wp2_with (first | (go_at_call 47; refine (c1 _).mono ?_; rintro e w1 ⟨rfl, rfl⟩))
    go_ret2
    exact ⟨rfl, bnew _ _⟩
  | true =>
  by_cases h4 : 4096 < n
  . rw [decide_eq_true h4] at hR
    simp only [Bool.not_true, Bool.false_or, if_true] at hR
    subst hR
    have d1 : decide ((n : Int) > 4096) = true := decide_eq_true (by omega)
    have d2 : decide ((4096 : Int) < (n : Int)) = true := decide_eq_true (by omega)
    go_enter Tryd.func29, Tryd.ntmps29
    go_wp2_with (first | (go_at_call 47; refine (c1 _).mono ?_; rintro e w1 ⟨rfl, rfl⟩))
    go_ret2
    exact ⟨rfl, bnew _ _⟩
  . rw [decide_eq_false h4] at hR
    simp only [Bool.not_true, Bool.false_or, Bool.false_eq_true, if_false] at hR
    have d1 : decide ((n : Int) > 4096) = false := decide_eq_false (by omega)
    have d2 : decide ((4096 : Int) < (n : Int)) = false := decide_eq_false (by omega)
    have HR := hide hR
    clear hR
    go_enter Tryd.func29, Tryd.ntmps29
    go_wp2_with (first | (go_at_call 47; refine (c1 _).mono ?_; rintro e w1 ⟨rfl, rfl⟩))
    go_loopw [21] (fun vi wr => ∃ i : Nat, vi = .int .i64 (i : Int) /\ i <= n /\ Hid (∀ x ∈ ops.take i, mayP q b x = true) /\ Below w.heap.size w wr /\ wr.heap[w.heap.size]? = some (.cells #[.int .i64 q, .int .i64 b, .slice ao n k] 24 (0, 0))) (fun vi _ => n - (Go.RowKit.intOf vi).toNat)
    case atStart => exact ⟨0, rfl, Nat.zero_le _, hide (fun x hx => by simp at hx), bnew _ _, heap_alloc_new _ _⟩
    case round =>
      obtain ⟨i, rfl, hi, HA, hb, hc0⟩ := hrel
      by_cases h : i < n
      . have hd : decide ((i : Int) < (n : Int)) = true := decide_eq_true (by omega)
        obtain ⟨o, ho⟩ : ∃ o, ops[i]? = some o := ⟨_, List.getElem?_eq_getElem (by rw [HL.out]; exact h)⟩
        have hom := List.mem_of_getElem? ho
        obtain ⟨g, off, aq, cq, rfl, hgl, hoc⟩ := (HC.out.below hb).ops.at (show (⟨q, b, ops⟩ : Circ).ops[i]? = some o from ho)
        have HMy := HM.out
        have k0 := hoc.kind
        have k1 := hoc.gate
        have k2 := hoc.qs
        have k3 := hoc.bit
        have k4 := hoc.cond
        have k5 := hoc.whn
        obtain ⟨p0, p1, p2, p3⟩ := def_cells hc0
        have HM2 := hide (HM.out (wr.alloc (.cells #[.int .i64 o.kind, .int .i64 o.gate, .slice aq o.qs.length cq, .int .i64 o.bit, .int .i64 o.cond, .int .i64 o.whn] 57)) (hb.trans ((bnew _ _).mono hb.size)) o hom aq cq hoc.room (hoc.ns.below (bnew _ _)))
        have HSt : Hid (mayP q b o = true -> ∀ x ∈ ops.take (i + 1), mayP q b x = true) := hide (fun e x hx => by
          rw [List.take_add_one, ho] at hx
          rcases List.mem_append.1 hx with hx | hx
          . exact HA.out x hx
          . simp at hx; rw [hx]; exact e)
        have HNo : Hid (mayP q b o = false -> R = ((i : Int), 80)) := hide (fun e => by
          rw [← HR.out, badI_some q b 0 ops i o HA.out ho e, Nat.zero_add])
        unfold opV at HM2
        clear HMy hoc hom ho HM
        generalize mayP q b o = mb at *
        obtain ⟨kind, gate, qs, bit, cond, whn⟩ := o
        simp only at *
        have hzr := hb.size
        cases mb with
        | false =>
          have HRR := hide (HNo.out rfl)
          clear HNo HSt
          go_wp2_with (first | (go_at_call 48; refine HM2.out.mono ?_; rintro e w2 ⟨rfl, hb2⟩))
          go_ret2
          exact ⟨by rw [HRR.out]; rfl, (hb.trans ((bnew _ _).mono hb.size)).trans (hb2.mono (by simp; omega))⟩
        | true =>
          have HA2 := hide (HSt.out rfl)
          clear HNo HSt
          go_wp2_with (first | (go_at_call 48; refine HM2.out.mono ?_; rintro e w2 ⟨rfl, hb2⟩))
          go_roundw
          case rel => exact ⟨i + 1, by go_num, by omega, HA2, (hb.trans ((bnew _ _).mono hb.size)).trans (hb2.mono (by simp; omega)), (hb2.block _ (by simp; omega)).trans ((Below.heap_alloc _ _ _ p3).trans hc0)⟩
          case measure => simp [Go.RowKit.intOf]; omega
      . obtain rfl : n = i := by omega
        have hz : R = (0, 0) := by
          have hA := HA.out
          rw [List.take_of_length_le (by rw [HL.out]; exact Nat.le_refl _)] at hA
          rw [← HR.out, badI_none q b 0 ops hA]
        subst hz
        go_wp2_with fail
        go_ret2
        exact ⟨rfl, hb⟩
theorem eq_of_take {α : Type} {l m : List α} (hl : l.length = m.length) (h : l.take l.length = m.take l.length) : l = m := by
  rw [List.take_of_length_le (Nat.le_refl _), List.take_of_length_le (by omega)] at h
  exact h
theorem take_eq_succ {α : Type} {l m : List α} {i : Nat} {x : α} (h : l.take i = m.take i) (hl : l[i]? = some x) (hm : m[i]? = some x) : l.take (i + 1) = m.take (i + 1) := by
  rw [List.take_add_one, List.take_add_one, h, hl, hm]
end Go.Proofs.YthndpbjplcphpaaDoor.Cir
