import Derived.Test.YtmkalhaegbnknaaDoorQe4bc2719
namespace Go.Proofs.YtmkalhaegbnknaaDoor.Gt
open Go
section
variable {P : Program} {C : World -> Prop} {Q : Exit -> Act -> World -> Prop} {md : Region.Mode} {ops : Array Oper} {N : Nat}
def front2B (md : Region.Mode) (ops : Array Oper) (N : Nat) : Bool :=
  decide (ops.size = N + 2) && (List.range N).all (fun i => ((ops[i]?).map fun o => o.guard.isNone && o.after.all fun e => decide (e.on < i)).getD false)
    && ((ops[N]?).map fun o => o.after.all fun e => decide (e.on < N)).getD false
    && ((ops[N + 1]?).map fun o => (o.after.all fun e => decide (e.on < N + 1)) && o.after.any fun e => Region.binds md e && (e.on == N)).getD false
    && (List.range N).all (fun j => (List.range (N + 1)).any fun i => decide (j < i) && ((ops[i]?).map fun o => o.after.any fun e => Region.binds md e && (e.on == j)).getD false)
structure Front2 (md : Region.Mode) (ops : Array Oper) (N : Nat) : Prop where
  size : ops.size = N + 2
  low : ∀ i o, i < N -> ops[i]? = some o -> o.guard = none /\ ∀ e ∈ o.after, e.on < i
  last : ∃ o, ops[N]? = some o /\ ∀ e ∈ o.after, e.on < N
  fin : ∃ o, ops[N + 1]? = some o /\ (∀ e ∈ o.after, e.on < N + 1) /\ ∃ e ∈ o.after, Region.binds md e = true /\ e.on = N
  cover : ∀ j, j < N -> ∃ i o, j < i /\ i <= N /\ ops[i]? = some o /\ ∃ e ∈ o.after, Region.binds md e = true /\ e.on = j
theorem front2_of (h : front2B md ops N = true) : Front2 md ops N := by
  unfold front2B at h
  rw [Bool.and_eq_true, Bool.and_eq_true, Bool.and_eq_true, Bool.and_eq_true] at h
  obtain ⟨⟨⟨⟨h1, h2⟩, h3⟩, h4⟩, h5⟩ := h
  refine ⟨of_decide_eq_true h1, fun i o hi ho => ?_, ?_, ?_, fun j hj => ?_⟩
  . have := List.all_eq_true.1 h2 i (List.mem_range.2 hi)
    rw [ho] at this
    simp only [Option.map_some, Option.getD_some, Bool.and_eq_true, Option.isNone_iff_eq_none, Array.all_eq_true_iff_forall_mem, decide_eq_true_eq] at this
    exact this
  . cases ho : ops[N]? with
    | none => rw [ho] at h3; simp at h3
    | some o =>
      rw [ho] at h3
      simp only [Option.map_some, Option.getD_some, Array.all_eq_true_iff_forall_mem, decide_eq_true_eq] at h3
      exact ⟨o, rfl, h3⟩
  . cases ho : ops[N + 1]? with
    | none => rw [ho] at h4; simp at h4
    | some o =>
      rw [ho] at h4
      simp only [Option.map_some, Option.getD_some, Bool.and_eq_true, Array.all_eq_true_iff_forall_mem, decide_eq_true_eq] at h4
      refine ⟨o, rfl, h4.1, ?_⟩
      have := h4.2
      rw [Array.any_eq_true'] at this
      obtain ⟨e, he, hb⟩ := this
      rw [Bool.and_eq_true, beq_iff_eq] at hb
      exact ⟨e, he, hb.1, hb.2⟩
  . have := List.all_eq_true.1 h5 j (List.mem_range.2 hj)
    rw [List.any_eq_true] at this
    obtain ⟨i, hi, hb⟩ := this
    rw [Bool.and_eq_true, decide_eq_true_eq] at hb
    cases ho : ops[i]? with
    | none => rw [ho] at hb; simp at hb
    | some o =>
      rw [ho] at hb
      simp only [Option.map_some, Option.getD_some] at hb
      have h6 := hb.2
      rw [Array.any_eq_true'] at h6
      obtain ⟨e, he, hb2⟩ := h6
      rw [Bool.and_eq_true, beq_iff_eq] at hb2
      have := List.mem_range.1 hi
      exact ⟨i, o, hb.1, by omega, ho, e, he, hb2.1, hb2.2⟩
def ClL (md : Region.Mode) (ops : Array Oper) (N : Nat) (listed : Array Bool) : Prop := ∀ i o, i < N -> listed.getD i false = true -> ops[i]? = some o -> ∀ e ∈ o.after, Region.binds md e = true -> listed.getD e.on false = true
theorem f2_get {i : Nat} (hf : Front2 md ops N) (hi : i < N) : ops.pop.pop[i]? = ops[i]? := by
  have := hf.size
  rw [Array.getElem?_pop, if_pos (by simp; omega), Array.getElem?_pop, if_pos (by omega)]
theorem f2_none (hf : Front2 md ops N) {i : Nat} (hi : N <= i) : ops.pop.pop[i]? = none := by
  have := hf.size
  rw [Array.getElem?_eq_none]
  simp
  omega
theorem f2_ready (hf : Front2 md ops N) {listed : Array Bool} {i : Nat} : i ∈ Region.ready md ops.pop.pop listed ↔ i ∈ Region.ready md ops listed /\ i < N := by
  rw [mem_ready, mem_ready]
  constructor
  . rintro ⟨h1, o, ho, h2⟩
    have hi : i < N := by
      rcases Nat.lt_or_ge i N with h | h
      . exact h
      . rw [f2_none hf h] at ho; cases ho
    rw [f2_get hf hi] at ho
    exact ⟨⟨h1, o, ho, h2⟩, hi⟩
  . rintro ⟨⟨h1, o, ho, h2⟩, hi⟩
    exact ⟨h1, o, by rw [f2_get hf hi]; exact ho, h2⟩
theorem f2_all (hf : Front2 md ops N) {listed : Array Bool} (hs : listed.size = N + 2) (h : Region.ready md ops.pop.pop listed = []) : ∀ j, j < N -> listed.getD j false = true := by
  intro j
  induction j using Nat.strongRecOn with
  | ind j ih =>
    intro hj
    cases hl : listed.getD j false
    . exfalso
      have hlt : j < ops.size := by rw [hf.size]; omega
      have hm : j ∈ Region.ready md ops.pop.pop listed := by
        refine (f2_ready hf).2 ⟨mem_ready.2 ⟨?_, ops[j], Array.getElem?_eq_getElem hlt, fun e he _ => ?_⟩, hj⟩
        . have : j < listed.size := by omega
          simp [Array.getD, this] at hl ⊢
          exact hl
        . have := (hf.low j ops[j] hj (Array.getElem?_eq_getElem hlt)).2 e he
          exact ih e.on this (by omega)
      rw [h] at hm
      cases hm
    . rfl
theorem f2_waits (hf : Front2 md ops N) {listed : Array Bool} (hc : ClL md ops N listed) (h : N ∈ Region.ready md ops listed) : ∀ d j, j + d = N -> 0 < d -> listed.getD j false = true := by
  intro d
  induction d using Nat.strongRecOn with
  | ind d ih =>
    intro j hj hd
    obtain ⟨i, o, h1, h2, ho, e, he, hb, rfl⟩ := hf.cover j (by omega)
    by_cases hi : i = N
    . subst hi
      obtain ⟨_, o', ho', h3⟩ := mem_ready.1 h
      rw [ho] at ho'
      cases ho'
      exact h3 e he hb
    . have := ih (N - i) (by omega) i (by omega) (by omega)
      exact hc i o (by omega) this ho e he hb
theorem f2_none_ready (hf : Front2 md ops N) {listed : Array Bool} (hs : listed.size = N + 2) (hl : ∀ j, j < N -> listed.getD j false = true) : Region.ready md ops.pop.pop listed = [] := by
  refine List.eq_nil_iff_forall_not_mem.2 fun j hj => ?_
  obtain ⟨hj1, hjN⟩ := (f2_ready hf).1 hj
  have a := hl j hjN
  have b := (mem_ready.1 hj1).1
  have h' : j < listed.size := by omega
  simp [Array.getD, h'] at a b
  rw [a] at b
  cases b
theorem f2_lt (hf : Front2 md ops N) {listed : Array Bool} {i : Nat} (h : i ∈ Region.ready md ops listed) : i <= N + 1 := by
  obtain ⟨_, o, ho, _⟩ := mem_ready.1 h
  have := (Array.getElem?_eq_some_iff.1 ho).1
  rw [hf.size] at this
  omega
theorem f2_fin_waits (hf : Front2 md ops N) {listed : Array Bool} (hs : listed.size = N + 2) (hN : listed.getD N true = false) : N + 1 ∉ Region.ready md ops listed := by
  intro h
  obtain ⟨_, o, ho, h2⟩ := mem_ready.1 h
  obtain ⟨o', ho', _, e, he, hb, h3⟩ := hf.fin
  rw [ho] at ho'
  cases ho'
  have a := h2 e he hb
  rw [h3] at a
  have h' : N < listed.size := by omega
  simp [Array.getD, h'] at a hN
  rw [a] at hN
  cases hN
theorem getD_ne {listed : Array Bool} {i j : Nat} (h : j ≠ i) (d : Bool) : (listed.setIfInBounds i true).getD j d = listed.getD j d := by
  simp only [Array.getD_eq_getD_getElem?, Array.getElem?_setIfInBounds]
  rw [if_neg (fun e => h e.symm)]
theorem getD_eq {listed : Array Bool} {i : Nat} (h : i < listed.size) (d : Bool) : (listed.setIfInBounds i true).getD i d = true := by
  simp only [Array.getD_eq_getD_getElem?, Array.getElem?_setIfInBounds]
  simp [h]
theorem wpAny_of_front2 (hf : Front2 md ops N) : ∀ (fuel : Nat) (listed : Array Bool) (a : Act) (w : World), C w -> listed.size = N + 2 -> listed.getD N true = false -> listed.getD (N + 1) true = false -> ClL md ops N listed ->
    wpAnyQ P md ops.pop.pop C (fun a' => ∀ w', C w' -> wpOp P ops Q N (fun a'' w'' => wpOp P ops Q (N + 1) (fun a3 w3 => Q .normal a3 w3) a'' w'') a' w') fuel listed a -> wpAny P md ops Q (fuel + 2) listed a w := by
  have stop : ∀ (fuel : Nat) (listed : Array Bool) (a : Act) (w : World), C w -> listed.size = N + 2 -> listed.getD N true = false -> listed.getD (N + 1) true = false -> Region.ready md ops.pop.pop listed = [] ->
      (∀ w', C w' -> wpOp P ops Q N (fun a'' w'' => wpOp P ops Q (N + 1) (fun a3 w3 => Q .normal a3 w3) a'' w'') a w') -> wpAny P md ops Q (fuel + 2) listed a w := by
    intro fuel listed a w hC hs hN hN1 h hq
    have hall := f2_all hf hs h
    refine ⟨fun h0 => ?_, fun i hi => ?_⟩
    . obtain ⟨o, ho, h1⟩ := hf.last
      have : N ∈ Region.ready md ops listed := mem_ready.2 ⟨hN, o, ho, fun e he _ => hall e.on (h1 e he)⟩
      rw [h0] at this
      cases this
    . have hiN : i = N := by
        have h1 := f2_lt hf hi
        rcases Nat.lt_or_ge i N with h' | h'
        . have := (f2_ready hf).2 ⟨hi, h'⟩
          rw [h] at this
          cases this
        . by_cases e : i = N + 1
          . subst e
            exact absurd hi (f2_fin_waits hf hs hN)
          . omega
      subst hiN
      refine wpOp_mono (fun a'' w'' h'' => ?_) (hq w hC)
      have hs2 : (listed.setIfInBounds i true).size = i + 2 := by simpa using hs
      refine ⟨fun h0 => ?_, fun j hj => ?_⟩
      . obtain ⟨o, ho, h1, _⟩ := hf.fin
        have : i + 1 ∈ Region.ready md ops (listed.setIfInBounds i true) := mem_ready.2 ⟨by rw [getD_ne (by omega)]; exact hN1, o, ho, fun e he _ => by
          have h2 := h1 e he
          by_cases e' : e.on = i
          . rw [e']; exact getD_eq (by omega) false
          . rw [getD_ne e']; exact hall e.on (by omega)⟩
        rw [h0] at this
        cases this
      . have hj1 := f2_lt hf hj
        have hjn : j = i + 1 := by
          have b := (mem_ready.1 hj).1
          by_cases e1 : j = i
          . subst e1
            rw [getD_eq (by omega)] at b
            cases b
          . by_cases e2 : j < i
            . rw [getD_ne e1] at b
              have a := hall j e2
              have h' : j < listed.size := by omega
              simp [Array.getD, h'] at a b
              rw [a] at b
              cases b
            . omega
        subst hjn
        refine wpOp_mono (fun a3 w3 h3 => wpAny_end fuel ?_ h3) h''
        refine List.eq_nil_iff_forall_not_mem.2 fun t ht => ?_
        have b := (mem_ready.1 ht).1
        have ht1 := f2_lt hf ht
        by_cases e1 : t = i + 1
        . subst e1
          rw [getD_eq (by rw [hs2]; omega)] at b
          cases b
        . rw [getD_ne e1] at b
          by_cases e2 : t = i
          . subst e2
            rw [getD_eq (by omega)] at b
            cases b
          . rw [getD_ne e2] at b
            have a := hall t (by omega)
            have h' : t < listed.size := by omega
            simp [Array.getD, h'] at a b
            rw [a] at b
            cases b
  intro fuel
  induction fuel with
  | zero =>
    intro listed a w hC hs hN hN1 hc h
    exact stop 0 listed a w hC hs hN hN1 h.1 h.2
  | succ fuel ih =>
    intro listed a w hC hs hN hN1 hc h
    by_cases h0 : Region.ready md ops.pop.pop listed = []
    . exact stop (fuel + 1) listed a w hC hs hN hN1 h0 (h.1 h0)
    . refine ⟨fun h1 => ?_, fun i hi => ?_⟩
      . exfalso
        obtain ⟨i, hi⟩ := List.exists_mem_of_ne_nil _ h0
        have := ((f2_ready hf).1 hi).1
        rw [h1] at this
        cases this
      . have hne : i ≠ N := fun e => h0 (f2_none_ready hf hs (fun j hj => f2_waits hf hc (e ▸ hi) (N - j) j (by omega) (by omega)))
        have hne1 : i ≠ N + 1 := fun e => f2_fin_waits hf hs hN (e ▸ hi)
        have hlt : i < N := by have := f2_lt hf hi; omega
        have hq := h.2 i ((f2_ready hf).2 ⟨hi, hlt⟩)
        obtain ⟨_, o, ho, hdep⟩ := mem_ready.1 hi
        have hg := (hf.low i o hlt ho).1
        have hw : ∀ y, Region.wanted o y = true := fun y => by simp [Region.wanted, hg]
        unfold qOp at hq
        rw [f2_get hf hlt, ho] at hq
        simp only [hw, if_true] at hq
        unfold wpOp
        simp only [ho, hw, if_true]
        refine .inl (Oper.wp_of_quiet hC (fun a' w' hC' hK => ih _ a' w' hC' (by simpa using hs) ?_ ?_ ?_ hK) hq)
        . rw [getD_ne (fun e => hne e.symm)]; exact hN
        . rw [getD_ne (fun e => hne1 e.symm)]; exact hN1
        . intro t ot ht htl hot e he hb
          by_cases et : t = i
          . subst et
            rw [ho] at hot
            cases hot
            have := hdep e he hb
            by_cases ee : e.on = t
            . rw [ee]; exact getD_eq (by omega) false
            . rw [getD_ne ee]; exact this
          . rw [getD_ne et] at htl
            have := hc t ot ht htl hot e he hb
            by_cases ee : e.on = i
            . rw [ee]; exact getD_eq (by omega) false
            . rw [getD_ne ee]; exact this
theorem wp_region_quiet_last2 {id : Nat} {a : Act} {w : World} {l : List Oper} {o1 o2 : Oper} (hm : P.follows .mixedOrders = true) (n : Nat) (hn : l.drop n = [o1, o2]) (hB : (Region.noSelect (l.take n).toArray && Region.lexFrom .any (l.take n).toArray n 0 (Array.replicate (n + 2) false)) = true) (hF : front2B .any l.toArray n = true) (hC : C { w with drawn := w.drawn + 1 })
    (h : wpQuiet P (l.take n).toArray C (fun a' => ∀ w', C w' -> wpList P l.toArray Q [o1, o2] a' w') (l.take n) a) : (Code.region id l.toArray true).wp P Q a w := by
  have hf := front2_of hF
  have hsz : l.length = n + 2 := by simpa using hf.size
  have hpop : l.toArray.pop.pop = (l.take n).toArray := by
    apply Array.ext'
    simp [List.dropLast_eq_take, hsz, List.take_take]
  have h1 : l.toArray[n]? = some o1 := by
    have := congrArg (·[0]?) hn
    simpa using this
  have h2 : l.toArray[n + 1]? = some o2 := by
    have := congrArg (·[1]?) hn
    simpa using this
  have htl : (l.take n).length = n := by simp; omega
  rw [Bool.and_eq_true] at hB
  have hB2 := hB.2
  have H := wpAnyQ_lex (P := P) (C := C) (md := .any) hB.1 (l.take n) 0 (Array.replicate (n + 2) false) a (by simp) (by rw [htl]; exact hB2) h
  refine wp_region_any hm ?_
  rw [htl, ← hpop] at H
  have := wpAny_of_front2 (P := P) (C := C) (Q := Q) hf n (Array.replicate (n + 2) false) a _ hC (by simp) (by simp) (by simp) (fun i o hi hl => by rw [Array.getD_eq_getD_getElem?, Array.getElem?_replicate, if_pos (by omega)] at hl; cases hl) ?_
  . simpa [hsz] using this
  . refine wpAnyQ_mono ?_ _ _ _ H
    intro a' h' w' hC'
    have := h' w' hC'
    unfold wpOp
    simp only [h1, h2]
    exact this
end
end Go.Proofs.YtmkalhaegbnknaaDoor.Gt
