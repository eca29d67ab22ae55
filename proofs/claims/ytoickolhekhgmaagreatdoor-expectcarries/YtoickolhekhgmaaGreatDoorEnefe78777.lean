import Derived.Test.YtoickolhekhgmaaGreatDoorProg
import Derived.Deep.Quiet
import Derived.StillTail
namespace Go.Proofs.YtoickolhekhgmaaGreatDoor.Gt
open Go
section
variable {P : Program} {C : World -> Prop} {Q : Exit -> Act -> World -> Prop} {md : Region.Mode} {ops : Array Oper} {N : Nat}
def frontB (md : Region.Mode) (ops : Array Oper) (N : Nat) : Bool :=
  decide (ops.size = N + 1) && (List.range N).all (fun i => ((ops[i]?).map fun o => o.guard.isNone && o.after.all fun e => decide (e.on < i)).getD false)
    && ((ops[N]?).map fun o => (o.after.all fun e => decide (e.on < N)) && (List.range N).all fun j => o.after.any fun e => Region.binds md e && (e.on == j)).getD false
structure Front (md : Region.Mode) (ops : Array Oper) (N : Nat) : Prop where
  size : ops.size = N + 1
  low : ∀ i o, i < N -> ops[i]? = some o -> o.guard = none /\ ∀ e ∈ o.after, e.on < i
  last : ∃ o, ops[N]? = some o /\ (∀ e ∈ o.after, e.on < N) /\ ∀ j, j < N -> ∃ e ∈ o.after, Region.binds md e = true /\ e.on = j
theorem front_of (h : frontB md ops N = true) : Front md ops N := by
  unfold frontB at h
  rw [Bool.and_eq_true, Bool.and_eq_true] at h
  obtain ⟨⟨h1, h2⟩, h3⟩ := h
  refine ⟨of_decide_eq_true h1, fun i o hi ho => ?_, ?_⟩
  . have := List.all_eq_true.1 h2 i (List.mem_range.2 hi)
    rw [ho] at this
    simp only [Option.map_some, Option.getD_some, Bool.and_eq_true, Option.isNone_iff_eq_none, Array.all_eq_true_iff_forall_mem, decide_eq_true_eq] at this
    exact this
  . cases ho : ops[N]? with
    | none => rw [ho] at h3; simp at h3
    | some o =>
      rw [ho] at h3
      simp only [Option.map_some, Option.getD_some, Bool.and_eq_true, Array.all_eq_true_iff_forall_mem, decide_eq_true_eq] at h3
      refine ⟨o, rfl, h3.1, fun j hj => ?_⟩
      have := List.all_eq_true.1 h3.2 j (List.mem_range.2 hj)
      rw [Array.any_eq_true'] at this
      obtain ⟨e, he, hb⟩ := this
      rw [Bool.and_eq_true, beq_iff_eq] at hb
      exact ⟨e, he, hb.1, hb.2⟩
theorem front_get {i : Nat} (hf : Front md ops N) (hi : i < N) : ops.pop[i]? = ops[i]? := by
  rw [Array.getElem?_pop]
  have := hf.size
  rw [if_pos (by omega)]
theorem front_none (hf : Front md ops N) {i : Nat} (hi : N <= i) : ops.pop[i]? = none := by
  have := hf.size
  rw [Array.getElem?_eq_none]
  simp
  omega
theorem ready_front (hf : Front md ops N) {listed : Array Bool} {i : Nat} : i ∈ Region.ready md ops.pop listed ↔ i ∈ Region.ready md ops listed /\ i < N := by
  rw [mem_ready, mem_ready]
  constructor
  . rintro ⟨h1, o, ho, h2⟩
    have hi : i < N := by
      rcases Nat.lt_or_ge i N with h | h
      . exact h
      . rw [front_none hf h] at ho; cases ho
    rw [front_get hf hi] at ho
    exact ⟨⟨h1, o, ho, h2⟩, hi⟩
  . rintro ⟨⟨h1, o, ho, h2⟩, hi⟩
    exact ⟨h1, o, by rw [front_get hf hi]; exact ho, h2⟩
theorem all_listed (hf : Front md ops N) {listed : Array Bool} (hs : listed.size = N + 1) (h : Region.ready md ops.pop listed = []) : ∀ j, j < N -> listed.getD j false = true := by
  intro j
  induction j using Nat.strongRecOn with
  | ind j ih =>
    intro hj
    cases hl : listed.getD j false
    . exfalso
      have hlt : j < ops.size := by rw [hf.size]; omega
      have hm : j ∈ Region.ready md ops.pop listed := by
        refine (ready_front hf).2 ⟨mem_ready.2 ⟨?_, ops[j], Array.getElem?_eq_getElem hlt, fun e he _ => ?_⟩, hj⟩
        . have : j < listed.size := by omega
          simp [Array.getD, this] at hl ⊢
          exact hl
        . have := (hf.low j ops[j] hj (Array.getElem?_eq_getElem hlt)).2 e he
          exact ih e.on this (by omega)
      rw [h] at hm
      cases hm
    . rfl
theorem last_ready (hf : Front md ops N) {listed : Array Bool} (hs : listed.size = N + 1) (hN : listed.getD N true = false) (h : Region.ready md ops.pop listed = []) : N ∈ Region.ready md ops listed := by
  obtain ⟨o, ho, h1, _⟩ := hf.last
  exact mem_ready.2 ⟨hN, o, ho, fun e he _ => all_listed hf hs h e.on (h1 e he)⟩
theorem last_waits (hf : Front md ops N) {listed : Array Bool} (h : N ∈ Region.ready md ops listed) : Region.ready md ops.pop listed = [] := by
  obtain ⟨_, o, ho, h2⟩ := mem_ready.1 h
  obtain ⟨o', ho', _, h3⟩ := hf.last
  rw [ho] at ho'
  cases ho'
  refine List.eq_nil_iff_forall_not_mem.2 fun j hj => ?_
  obtain ⟨hj1, hjN⟩ := (ready_front hf).1 hj
  obtain ⟨e, he, hb, rfl⟩ := h3 j hjN
  have a := h2 e he hb
  have b := (mem_ready.1 hj1).1
  rcases Nat.lt_or_ge e.on listed.size with h' | h'
  . simp [Array.getD, h'] at a b
    rw [a] at b
    cases b
  . have : ¬ e.on < listed.size := by omega
    simp [Array.getD, this] at a
theorem ready_lt (hf : Front md ops N) {listed : Array Bool} {i : Nat} (h : i ∈ Region.ready md ops listed) : i <= N := by
  obtain ⟨_, o, ho, _⟩ := mem_ready.1 h
  have := (Array.getElem?_eq_some_iff.1 ho).1
  rw [hf.size] at this
  omega
theorem wpAny_end : ∀ (fuel : Nat) {listed : Array Bool} {a : Act} {w : World}, Region.ready md ops listed = [] -> Q .normal a w -> wpAny P md ops Q fuel listed a w
  | 0, _, _, _, h, hq => ⟨h, hq⟩
  | _ + 1, _, _, _, h, hq => ⟨fun _ => hq, fun i hi => by rw [h] at hi; cases hi⟩
theorem all_done (hf : Front md ops N) {listed : Array Bool} (hs : listed.size = N + 1) (h : Region.ready md ops.pop listed = []) : Region.ready md ops (listed.setIfInBounds N true) = [] := by
  refine List.eq_nil_iff_forall_not_mem.2 fun j hj => ?_
  have hj1 := (mem_ready.1 hj).1
  have hle := ready_lt hf hj
  by_cases e : j = N
  . subst e
    have : j < (listed.setIfInBounds j true).size := by simp; omega
    simp [Array.getD, hs] at hj1
  . have := all_listed hf hs h j (by omega)
    rw [getD_set_ne true (fun h => e h.symm)] at hj1
    have hl : j < listed.size := by omega
    simp [Array.getD, hl] at this hj1
    rw [this] at hj1
    cases hj1
theorem wpAny_of_front (hf : Front md ops N) : ∀ (fuel : Nat) (listed : Array Bool) (a : Act) (w : World), C w -> listed.size = N + 1 -> listed.getD N true = false ->
    wpAnyQ P md ops.pop C (fun a' => ∀ w', C w' -> wpOp P ops Q N (fun a'' w'' => Q .normal a'' w'') a' w') fuel listed a -> wpAny P md ops Q (fuel + 1) listed a w := by
  have stop : ∀ (fuel : Nat) (listed : Array Bool) (a : Act) (w : World), C w -> listed.size = N + 1 -> listed.getD N true = false -> Region.ready md ops.pop listed = [] ->
      (∀ w', C w' -> wpOp P ops Q N (fun a'' w'' => Q .normal a'' w'') a w') -> wpAny P md ops Q (fuel + 1) listed a w := by
    intro fuel listed a w hC hs hN h hq
    refine ⟨fun h0 => ?_, fun i hi => ?_⟩
    . have := last_ready hf hs hN h
      rw [h0] at this
      cases this
    . have hiN : i = N := by
        have := ready_lt hf hi
        rcases Nat.lt_or_ge i N with h' | h'
        . have := (ready_front hf).2 ⟨hi, h'⟩
          rw [h] at this
          cases this
        . omega
      subst hiN
      exact wpOp_mono (fun a'' w'' h'' => wpAny_end fuel (all_done hf hs h) h'') (hq w hC)
  intro fuel
  induction fuel with
  | zero =>
    intro listed a w hC hs hN h
    exact stop 0 listed a w hC hs hN h.1 h.2
  | succ fuel ih =>
    intro listed a w hC hs hN h
    by_cases h0 : Region.ready md ops.pop listed = []
    . exact stop (fuel + 1) listed a w hC hs hN h0 (h.1 h0)
    . refine ⟨fun h1 => ?_, fun i hi => ?_⟩
      . exfalso
        obtain ⟨i, hi⟩ := List.exists_mem_of_ne_nil _ h0
        have := ((ready_front hf).1 hi).1
        rw [h1] at this
        cases this
      . have hne : i ≠ N := fun e => h0 (last_waits hf (e ▸ hi))
        have hlt : i < N := by have := ready_lt hf hi; omega
        have hq := h.2 i ((ready_front hf).2 ⟨hi, hlt⟩)
        obtain ⟨_, o, ho, _⟩ := mem_ready.1 hi
        have hg := (hf.low i o hlt ho).1
        have hw : ∀ y, Region.wanted o y = true := fun y => by simp [Region.wanted, hg]
        unfold qOp at hq
        rw [front_get hf hlt, ho] at hq
        simp only [hw, if_true] at hq
        unfold wpOp
        simp only [ho, hw, if_true]
        refine .inl (Oper.wp_of_quiet hC (fun a' w' hC' hK => ih _ a' w' hC' (by simpa using hs) ?_ hK) hq)
        rw [getD_set_ne true hne]
        exact hN
theorem wpAnyQ_mono {K K' : Act -> Prop} (h : ∀ a, K a -> K' a) : ∀ (fuel : Nat) (listed : Array Bool) (a : Act), wpAnyQ P md ops C K fuel listed a -> wpAnyQ P md ops C K' fuel listed a
  | 0, _, _, hh => ⟨hh.1, h _ hh.2⟩
  | fuel + 1, _, _, hh => ⟨fun h0 => h _ (hh.1 h0), fun i hi => qOp_mono (fun a' h' => wpAnyQ_mono h fuel _ a' h') (hh.2 i hi)⟩
structure HidP (p : Prop) : Prop where
  out : p
theorem unhideP {p : Prop} (h : HidP p) : p := h.out
theorem wpQuiet_stepH {K0 : Act -> Prop} {a : Act} {o : Oper} {rest : List Oper}
    (h : ∀ K : Act -> Prop, (∀ a, HidP (wpQuiet P ops C K0 rest a) -> K a) -> if Region.wanted o (yielded ops a.tmps) then o.quiet P a C K else K (a.put o.dst undef)) : HidP (wpQuiet P ops C K0 (o :: rest) a) :=
  ⟨h _ (fun _ h => h.out)⟩
theorem wpQuiet_nilH {K0 : Act -> Prop} {a : Act} (h : K0 a) : HidP (wpQuiet P ops C K0 [] a) := ⟨h⟩
theorem wp_region_quiet_last {id : Nat} {a : Act} {w : World} {l : List Oper} {o : Oper} (hm : P.follows .mixedOrders = true) (n : Nat) (hn : l.drop n = [o]) (hB : (Region.noSelect (l.take n).toArray && Region.lexFrom .any (l.take n).toArray n 0 (Array.replicate (n + 1) false)) = true) (hF : frontB .any l.toArray n = true) (hC : C { w with drawn := w.drawn + 1 })
    (h : wpQuiet P (l.take n).toArray C (fun a' => ∀ w', C w' -> wpList P l.toArray Q [o] a' w') (l.take n) a) : (Code.region id l.toArray true).wp P Q a w := by
  have hf := front_of hF
  have hsz : l.length = n + 1 := by simpa using hf.size
  have hpop : l.toArray.pop = (l.take n).toArray := by
    apply Array.ext'
    simp [List.dropLast_eq_take, hsz]
  have hlast : l.toArray[n]? = some o := by
    have := congrArg (·[0]?) hn
    simpa using this
  have htl : (l.take n).length = n := by simp; omega
  rw [Bool.and_eq_true] at hB
  have hB2 := hB.2
  have H := wpAnyQ_lex (P := P) (C := C) (md := .any) hB.1 (l.take n) 0 (Array.replicate (n + 1) false) a (by simp) (by rw [htl]; exact hB2) h
  refine wp_region_any hm ?_
  rw [htl, ← hpop] at H
  have := wpAny_of_front (P := P) (C := C) (Q := Q) hf n (Array.replicate (n + 1) false) a _ hC (by simp) (by simp) ?_
  . simpa [hsz] using this
  . refine wpAnyQ_mono ?_ _ _ _ H
    intro a' h' w' hC'
    have := h' w' hC'
    unfold wpOp
    simp only [hlast]
    exact this
end
end Go.Proofs.YtoickolhekhgmaaGreatDoor.Gt
