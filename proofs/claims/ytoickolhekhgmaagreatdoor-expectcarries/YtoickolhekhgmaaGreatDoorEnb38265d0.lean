import Derived.Test.YtoickolhekhgmaaGreatDoorEnefe78777
namespace Go.Proofs.YtoickolhekhgmaaGreatDoor.Gt
open Go
section
variable {P : Program} {C : World -> Prop} {Q : Exit -> Act -> World -> Prop} {md : Region.Mode} {ops : Array Oper} {N : Nat}
def frontSB (md : Region.Mode) (ops : Array Oper) (N : Nat) : Bool :=
  decide (ops.size = N + 2) && (List.range (N + 1)).all (fun i => ((ops[i]?).map fun o => o.guard.isNone && o.after.all fun e => !Region.binds md e || decide (e.on < i)).getD false)
    && ((ops[N + 1]?).map fun o => o.guard.isNone && (o.after.all fun e => !Region.binds md e || decide (e.on < N)) && (List.range N).all fun j => o.after.any fun e => Region.binds md e && (e.on == j)).getD false
structure FrontS (md : Region.Mode) (ops : Array Oper) (N : Nat) : Prop where
  size : ops.size = N + 2
  low : ∀ i o, i <= N -> ops[i]? = some o -> o.guard = none /\ ∀ e ∈ o.after, Region.binds md e = true -> e.on < i
  fin : ∃ o, ops[N + 1]? = some o /\ o.guard = none /\ (∀ e ∈ o.after, Region.binds md e = true -> e.on < N) /\ ∀ j, j < N -> ∃ e ∈ o.after, Region.binds md e = true /\ e.on = j
theorem or_not {b c : Bool} (h : (!b || c) = true) (hb : b = true) : c = true := by subst hb; simpa using h
theorem frontS_of (h : frontSB md ops N = true) : FrontS md ops N := by
  unfold frontSB at h
  rw [Bool.and_eq_true, Bool.and_eq_true] at h
  obtain ⟨⟨h1, h2⟩, h3⟩ := h
  refine ⟨of_decide_eq_true h1, fun i o hi ho => ?_, ?_⟩
  . have := List.all_eq_true.1 h2 i (List.mem_range.2 (by omega))
    rw [ho] at this
    simp only [Option.map_some, Option.getD_some, Bool.and_eq_true, Option.isNone_iff_eq_none, Array.all_eq_true_iff_forall_mem] at this
    exact ⟨this.1, fun e he hb => of_decide_eq_true (or_not (this.2 e he) hb)⟩
  . cases ho : ops[N + 1]? with
    | none => rw [ho] at h3; simp at h3
    | some o =>
      rw [ho] at h3
      simp only [Option.map_some, Option.getD_some, Bool.and_eq_true, Option.isNone_iff_eq_none, Array.all_eq_true_iff_forall_mem] at h3
      refine ⟨o, rfl, h3.1.1, fun e he hb => of_decide_eq_true (or_not (h3.1.2 e he) hb), fun j hj => ?_⟩
      have := List.all_eq_true.1 h3.2 j (List.mem_range.2 hj)
      rw [Array.any_eq_true'] at this
      obtain ⟨e, he, hb⟩ := this
      rw [Bool.and_eq_true, beq_iff_eq] at hb
      exact ⟨e, he, hb.1, hb.2⟩
theorem frS_get {i : Nat} (hf : FrontS md ops N) (hi : i <= N) : ops.pop[i]? = ops[i]? := by
  rw [Array.getElem?_pop]
  have := hf.size
  rw [if_pos (by omega)]
theorem frS_none (hf : FrontS md ops N) {i : Nat} (hi : N < i) : ops.pop[i]? = none := by
  have := hf.size
  rw [Array.getElem?_eq_none]
  simp
  omega
theorem frS_ready (hf : FrontS md ops N) {listed : Array Bool} {i : Nat} : i ∈ Region.ready md ops.pop listed ↔ i ∈ Region.ready md ops listed /\ i <= N := by
  rw [mem_ready, mem_ready]
  constructor
  . rintro ⟨h1, o, ho, h2⟩
    have hi : i <= N := by
      rcases Nat.lt_or_ge N i with h | h
      . rw [frS_none hf h] at ho; cases ho
      . exact h
    rw [frS_get hf hi] at ho
    exact ⟨⟨h1, o, ho, h2⟩, hi⟩
  . rintro ⟨⟨h1, o, ho, h2⟩, hi⟩
    exact ⟨h1, o, by rw [frS_get hf hi]; exact ho, h2⟩
theorem frS_le (hf : FrontS md ops N) {listed : Array Bool} {i : Nat} (h : i ∈ Region.ready md ops listed) : i <= N + 1 := by
  obtain ⟨_, o, ho, _⟩ := mem_ready.1 h
  have := (Array.getElem?_eq_some_iff.1 ho).1
  rw [hf.size] at this
  omega
theorem frS_all (hf : FrontS md ops N) {listed : Array Bool} (hs : listed.size = N + 2) (h : Region.ready md ops.pop listed = []) : ∀ j, j <= N -> listed.getD j false = true := by
  intro j
  induction j using Nat.strongRecOn with
  | ind j ih =>
    intro hj
    cases hl : listed.getD j false
    . exfalso
      have hlt : j < ops.size := by rw [hf.size]; omega
      have hm : j ∈ Region.ready md ops.pop listed := by
        refine (frS_ready hf).2 ⟨mem_ready.2 ⟨?_, ops[j], Array.getElem?_eq_getElem hlt, fun e he hb => ?_⟩, hj⟩
        . have : j < listed.size := by omega
          simp [Array.getD, this] at hl ⊢
          exact hl
        . have := (hf.low j ops[j] hj (Array.getElem?_eq_getElem hlt)).2 e he hb
          exact ih e.on this (by omega)
      rw [h] at hm
      cases hm
    . rfl
theorem not_ready_listed {listed : Array Bool} {j : Nat} (h : listed.getD j false = true) : j ∉ Region.ready md ops listed := fun hj => by
  have b := (mem_ready.1 hj).1
  rcases Nat.lt_or_ge j listed.size with h' | h'
  . simp [Array.getD, h'] at h b
    rw [h] at b
    cases b
  . have : ¬ j < listed.size := by omega
    simp [Array.getD, this] at h
theorem getD_set_eq {listed : Array Bool} {i : Nat} (h : i < listed.size) (d : Bool) : (listed.setIfInBounds i true).getD i d = true := by
  simp [Array.getD, h]
theorem frS_end (hf : FrontS md ops N) {listed : Array Bool} (h : ∀ j, j <= N + 1 -> listed.getD j false = true) : Region.ready md ops listed = [] :=
  List.eq_nil_iff_forall_not_mem.2 fun j hj => not_ready_listed (h j (frS_le hf hj)) hj
theorem wpAny_of_frontS (hf : FrontS md ops N) {oA oB : Oper} (hA : ops[N]? = some oA) (hB : ops[N + 1]? = some oB) (hBd : oB.dst = none)
    (pureA : ∀ (a : Act) (w1 w2 : World) (v : Value), C w1 -> oA.quietAt P a C w1 v -> (execOp a.eval oA).run P w2 = .ok (.value v) w2)
    (swapB : ∀ (a : Act) (v : Value) (w : World), (execOp (a.put oA.dst v).eval oB).run P w = (execOp a.eval oB).run P w) :
    ∀ (fuel : Nat) (listed : Array Bool) (a : Act) (w : World), C w -> listed.size = N + 2 -> listed.getD (N + 1) true = false ->
    wpAnyQ P md ops.pop C (fun a' => ∀ w', C w' -> ∃ w'', (execOp a'.eval oB).run P w' = .ok .skip w'' /\ Q .normal a' w'') fuel listed a -> wpAny P md ops Q (fuel + 1) listed a w := by
  obtain ⟨oB', hB', hBg, hB1, hB2⟩ := hf.fin
  rw [hB] at hB'
  cases hB'
  have hwB : ∀ y, Region.wanted oB y = true := fun y => by simp [Region.wanted, hBg]
  have hwA : ∀ y, Region.wanted oA y = true := fun y => by simp [Region.wanted, (hf.low N oA (Nat.le_refl _) hA).1]
  have hputB : ∀ (a : Act) (v : Value), a.put oB.dst v = a := fun a v => by rw [hBd]; rfl
  -- all but the last have come up
  have stop : ∀ (fuel : Nat) (listed : Array Bool) (a : Act) (w : World), C w -> listed.size = N + 2 -> listed.getD (N + 1) true = false -> Region.ready md ops.pop listed = [] ->
      (∀ w', C w' -> ∃ w'', (execOp a.eval oB).run P w' = .ok .skip w'' /\ Q .normal a w'') -> wpAny P md ops Q (fuel + 1) listed a w := by
    intro fuel listed a w hC hs hN h hq
    have hall := frS_all hf hs h
    refine ⟨fun h0 => ?_, fun i hi => ?_⟩
    . have : N + 1 ∈ Region.ready md ops listed := mem_ready.2 ⟨hN, oB, hB, fun e he hb => hall e.on (by have := hB1 e he hb; omega)⟩
      rw [h0] at this
      cases this
    . have hiN : i = N + 1 := by
        have := frS_le hf hi
        rcases Nat.lt_or_ge N i with h' | h'
        . omega
        . exact absurd hi (not_ready_listed (hall i h'))
      subst hiN
      obtain ⟨w'', hr, hq'⟩ := hq w hC
      unfold wpOp
      simp only [hB, hwB, if_true]
      left
      unfold Oper.wp
      rw [hr]
      show wpAny P md ops Q fuel _ (a.put oB.dst undef) w''
      rw [hputB]
      refine wpAny_end fuel (frS_end hf (fun j hj => ?_)) hq'
      by_cases e : j = N + 1
      . subst e; exact getD_set_eq (by omega) false
      . rw [getD_set_ne false (fun h => e h.symm)]; exact hall j (by omega)
  intro fuel
  induction fuel with
  | zero =>
    intro listed a w hC hs hN h
    exact stop 0 listed a w hC hs hN h.1 h.2
  | succ fuel ih =>
    intro listed a w hC hs hN h
    by_cases h0 : Region.ready md ops.pop listed = []
    . exact stop (fuel + 1) listed a w hC hs hN h0 (h.1 h0)
    . refine ⟨fun h1 => ?_, fun i hi => ?_⟩
      . exfalso
        obtain ⟨i, hi⟩ := List.exists_mem_of_ne_nil _ h0
        have := ((frS_ready hf).1 hi).1
        rw [h1] at this
        cases this
      . by_cases hiN : i = N + 1
        . -- the store comes up; only the one ahead of it is left
          subst hiN
          obtain ⟨_, o', ho', hdep⟩ := mem_ready.1 hi
          rw [hB] at ho'
          cases ho'
          have hlow : ∀ j, j < N -> listed.getD j false = true := fun j hj => by
            obtain ⟨e, he, hb, rfl⟩ := hB2 j hj
            exact hdep e he hb
          have hAr : N ∈ Region.ready md ops.pop listed := by
            obtain ⟨j, hj⟩ := List.exists_mem_of_ne_nil _ h0
            have hj2 := (frS_ready hf).1 hj
            have : j = N := by
              rcases Nat.lt_or_ge j N with h' | h'
              . exact absurd hj2.1 (not_ready_listed (hlow j h'))
              . omega
            exact this ▸ hj
          have hq := h.2 N hAr
          unfold qOp at hq
          rw [frS_get hf (Nat.le_refl _), hA] at hq
          simp only [hwA, if_true] at hq
          obtain ⟨v, hv, hnext⟩ := hq
          have hend : Region.ready md ops.pop (listed.setIfInBounds N true) = [] := List.eq_nil_iff_forall_not_mem.2 fun j hj => by
            have hj2 := (frS_ready hf).1 hj
            by_cases e : j = N
            . subst e; exact not_ready_listed (getD_set_eq (by omega) false) hj2.1
            . refine not_ready_listed ?_ hj2.1
              rw [getD_set_ne false (fun h => e h.symm)]
              exact hlow j (by omega)
          have hK : ∀ w', C w' -> ∃ w'', (execOp (a.put oA.dst v).eval oB).run P w' = .ok .skip w'' /\ Q .normal (a.put oA.dst v) w'' := by
            cases fuel with
            | zero => exact hnext.2
            | succ f => exact hnext.1 hend
          obtain ⟨w'', hr, hq'⟩ := hK w hC
          rw [swapB] at hr
          unfold wpOp
          simp only [hB, hwB, if_true]
          left
          unfold Oper.wp
          rw [hr]
          show wpAny P md ops Q (fuel + 1) _ (a.put oB.dst undef) w''
          rw [hputB]
          have hset : ∀ j, j <= N + 1 -> j ≠ N -> (listed.setIfInBounds (N + 1) true).getD j false = true := fun j hj hne => by
            by_cases e : j = N + 1
            . subst e; exact getD_set_eq (by omega) false
            . rw [getD_set_ne false (fun h => e h.symm)]; exact hlow j (by omega)
          refine ⟨fun h1 => ?_, fun j hj => ?_⟩
          . exfalso
            have : N ∈ Region.ready md ops (listed.setIfInBounds (N + 1) true) := by
              have hA2 := mem_ready.1 ((frS_ready hf).1 hAr).1
              refine mem_ready.2 ⟨?_, oA, hA, fun e he hb => hset e.on (by have := (hf.low N oA (Nat.le_refl _) hA).2 e he hb; omega) (by have := (hf.low N oA (Nat.le_refl _) hA).2 e he hb; omega)⟩
              rw [getD_set_ne true (by omega)]
              exact hA2.1
            rw [h1] at this
            cases this
          . have hjN : j = N := by
              rcases Nat.eq_or_lt_of_le (frS_le hf hj) with h' | h'
              . exact absurd hj (not_ready_listed (hset j (by omega) (by omega)))
              . by_cases e : j = N
                . exact e
                . exact absurd hj (not_ready_listed (hset j (by omega) e))
            subst hjN
            unfold wpOp
            simp only [hA, hwA, if_true]
            left
            unfold Oper.wp
            rw [pureA a w w'' v hC (hv w hC)]
            show wpAny P md ops Q fuel _ (a.put oA.dst v) w''
            refine wpAny_end fuel (frS_end hf (fun i hi => ?_)) hq'
            by_cases e : i = j
            . subst e; exact getD_set_eq (by simp; omega) false
            . rw [getD_set_ne false (fun h => e h.symm)]; exact hset i hi e
        . have hle := frS_le hf hi
          have hlt : i <= N := by omega
          have hq := h.2 i ((frS_ready hf).2 ⟨hi, hlt⟩)
          obtain ⟨_, o, ho, _⟩ := mem_ready.1 hi
          have hg := (hf.low i o hlt ho).1
          have hw : ∀ y, Region.wanted o y = true := fun y => by simp [Region.wanted, hg]
          unfold qOp at hq
          rw [frS_get hf hlt, ho] at hq
          simp only [hw, if_true] at hq
          unfold wpOp
          simp only [ho, hw, if_true]
          refine .inl (Oper.wp_of_quiet hC (fun a' w' hC' hK => ih _ a' w' hC' (by simpa using hs) ?_ hK) hq)
          rw [getD_set_ne true hiN]
          exact hN
theorem extract_pure {o : Oper} {x : Operand} {ix : Nat} (ho : o.op = .extract x ix) (a : Act) (w1 w2 : World) (v : Value) (h : o.quietAt P a C w1 v) : (execOp a.eval o).run P w2 = .ok (.value v) w2 := by
  unfold Oper.quietAt at h
  unfold execOp at h ⊢
  simp only [ho] at h ⊢
  generalize a.eval x = y at *
  cases y <;> simp_all [Instr.extract, Oper.quietUpon]
  rename_i vs
  cases hx : vs[ix]? with
  | none => rw [hx] at h; simp [stuck] at h
  | some u =>
    rw [hx] at h
    simp at h
    simp [h]
theorem wp_region_quiet_S {id : Nat} {a : Act} {w : World} {l : List Oper} {oA oB : Oper} {x : Operand} {ix : Nat} (hm : P.follows .mixedOrders = true) (n : Nat) (hn : l.drop n = [oA, oB]) (hoA : oA.op = .extract x ix) (hBd : oB.dst = none)
    (hB : (Region.noSelect (l.take (n + 1)).toArray && Region.lexFrom .any (l.take (n + 1)).toArray (n + 1) 0 (Array.replicate (n + 2) false)) = true) (hF : frontSB .any l.toArray n = true) (hC : C { w with drawn := w.drawn + 1 })
    (swapB : ∀ (a : Act) (v : Value) (w : World), (execOp (a.put oA.dst v).eval oB).run P w = (execOp a.eval oB).run P w)
    (h : wpQuiet P (l.take (n + 1)).toArray C (fun a' => ∀ w', C w' -> ∃ w'', (execOp a'.eval oB).run P w' = .ok .skip w'' /\ Q .normal a' w'') (l.take (n + 1)) a) : (Code.region id l.toArray true).wp P Q a w := by
  have hf := frontS_of hF
  have hsz : l.length = n + 2 := by simpa using hf.size
  have hpop : l.toArray.pop = (l.take (n + 1)).toArray := by
    apply Array.ext'
    simp [List.dropLast_eq_take, hsz]
  have h1 : l.toArray[n]? = some oA := by
    have := congrArg (·[0]?) hn
    simpa using this
  have h2 : l.toArray[n + 1]? = some oB := by
    have := congrArg (·[1]?) hn
    simpa using this
  have htl : (l.take (n + 1)).length = n + 1 := by simp; omega
  rw [Bool.and_eq_true] at hB
  have hB2 := hB.2
  have H := wpAnyQ_lex (P := P) (C := C) (md := .any) hB.1 (l.take (n + 1)) 0 (Array.replicate (n + 2) false) a (by simp) (by rw [htl]; exact hB2) h
  refine wp_region_any hm ?_
  rw [htl, ← hpop] at H
  have := wpAny_of_frontS (P := P) (C := C) (Q := Q) hf h1 h2 hBd (fun a w1 w2 v _ hq => extract_pure hoA a w1 w2 v hq) swapB (n + 1) (Array.replicate (n + 2) false) a _ hC (by simp) (by simp) H
  simpa [hsz] using this
end
end Go.Proofs.YtoickolhekhgmaaGreatDoor.Gt
