/- Temporaries; one operation within a region; a region in the order of its text. -/
import Derived.Test.YtipceoeihiaieaaDoorEv9d
namespace Go.Proofs.YtipceoeihiaieaaDoor.Ev
open Go
open ren (renR renL)
open plain (plainR plainL)

structure Tm where
  t : Tr Value
  n : Nat
  /-- The blocks for the rounds' deferred calls. -/
  ms : List Nat
noncomputable def Tm.get (T : Tm) (t : Nat) : Value := (T.t.get t).getD undef
noncomputable def Tm.put (T : Tm) (d : Option Tmp) (v : Value) : Tm :=
  match d with
  | none => T
  | some d => bif Nat.blt d T.n then { t := T.t.set (d + 1) d (some v), n := T.n, ms := T.ms } else T
noncomputable def aeval (T : Tm) : Operand → Value
  | .tmp t => T.get t
  | .const v => v
  | .global g => .pointer (some ⟨g, 0, none⟩)
  | .func f => .func (.func f) #[] #[]
def TR (m : Mp) (T : Tm) (tmps : Array Value) : Prop := tmps.size = T.n ∧ ∀ t, tmps.getD t undef = ren m (T.get t)
theorem ren_undef (m : Mp) : ren m undef = undef := by simp [undef, ren, renR_map]
theorem Tm.get_put (T : Tm) (d : Option Tmp) (v : Value) (t : Nat) : (T.put d v).get t = if d = some t ∧ t < T.n then v else T.get t := by
  cases d with
  | none => simp [Tm.put]
  | some d =>
    have hp : T.put (some d) v = bif Nat.blt d T.n then { t := T.t.set (d + 1) d (some v), n := T.n, ms := T.ms } else T := rfl
    rw [hp]
    cases h : Nat.blt d T.n
    · have : ¬ d < T.n := fun h' => by rw [show Nat.blt d T.n = true by simpa [Nat.blt_eq] using h'] at h; cases h
      by_cases e : d = t
      · subst e; simp [this]
      · simp [e]
    · have h' : d < T.n := by simpa [Nat.blt_eq] using h
      simp only [cond_true, Tm.get]
      by_cases e : d = t
      · subst e; simp [h', Tr.get_set]
      · rw [Tr.get_set_ne _ _ _ _ _ (fun x => e x.symm)]; simp [e]
theorem Tm.put_n (T : Tm) (d : Option Tmp) (v : Value) : (T.put d v).n = T.n := by
  cases d with
  | none => rfl
  | some d =>
    have hp : T.put (some d) v = bif Nat.blt d T.n then { t := T.t.set (d + 1) d (some v), n := T.n, ms := T.ms } else T := rfl
    rw [hp]
    cases Nat.blt d T.n <;> rfl
theorem Tm.put_ms (T : Tm) (d : Option Tmp) (v : Value) : (T.put d v).ms = T.ms := by
  cases d with
  | none => rfl
  | some d =>
    have hp : T.put (some d) v = bif Nat.blt d T.n then { t := T.t.set (d + 1) d (some v), n := T.n, ms := T.ms } else T := rfl
    rw [hp]
    cases Nat.blt d T.n <;> rfl
theorem TR.put {m : Mp} {T : Tm} {a : Act} {d : Option Tmp} {v v' : Value} (h : TR m T a.tmps) (hv : v' = ren m v) : TR m (T.put d v) (a.put d v').tmps := by
  subst hv
  refine ⟨?_, fun t => ?_⟩
  · rw [Tm.put_n]
    cases d <;> simp [Act.put, h.1]
  · rw [Tm.get_put]
    cases d with
    | none => simpa [Act.put] using h.2 t
    | some d =>
      simp only [Act.put]
      by_cases e : d = t
      · subst e
        by_cases hd : d < T.n
        · have : d < a.tmps.size := by rw [h.1]; exact hd
          simp [hd, this]
        · have : ¬ d < a.tmps.size := by rw [h.1]; exact hd
          have h2 := h.2 d
          simp [hd]
          simpa [this] using h2
      · have h2 := h.2 t
        simp only [Option.some.injEq, e, false_and, if_false]
        rw [← h2]
        simp [Array.getElem?_setIfInBounds_ne e]
theorem TR.eval {m : Mp} {T : Tm} {a : Act} (h : TR m T a.tmps) {x : Operand} (hg : ∀ g, x = .global g → m g = ⟨g, 0, (m g).x⟩) (hc : ∀ v, x = .const v → plain v = true) : a.eval x = ren m (aeval T x) := by
  cases x with
  | tmp t => exact h.2 t
  | const v => exact (ren_plain m v (hc v rfl)).symm
  | global g =>
    have := hg g rfl
    simp only [Act.eval, aeval, ren_ptr, renA]
    rw [this]
    simp
  | func f => simp [Act.eval, aeval, ren, renF, renR_map]

noncomputable def ayield (ops : Array Oper) (T : Tm) (j : Nat) : Option Bool :=
  match (ops[j]?).bind (·.dst) with
  | some t => match T.get t with
    | .bool b => some b
    | _ => none
  | none => none
theorem TR.yielded {m : Mp} {T : Tm} {tmps : Array Value} {ops : Array Oper} {j : Nat} (h : ∀ t, (ops[j]?).bind (·.dst) = some t → tmps.getD t undef = ren m (T.get t)) : yielded ops tmps j = ayield ops T j := by
  unfold Go.yielded ayield
  cases hd : (ops[j]?).bind (·.dst) with
  | none => rfl
  | some t =>
    have h2 := h t hd
    simp only [Option.bind_some]
    rw [Array.getD_eq_getD_getElem?] at h2
    cases ht : tmps[t]? with
    | none =>
      rw [ht] at h2
      simp only [Option.getD_none] at h2
      cases hT : T.get t <;> rw [hT] at h2 <;> simp_all [undef, ren]
    | some v =>
      rw [ht] at h2
      simp only [Option.getD_some] at h2
      subst h2
      cases hT : T.get t <;> simp [ren]
noncomputable def awanted (ops : Array Oper) (T : Tm) (o : Oper) : Bool :=
  match o.guard with
  | none => true
  | some (j, want) => ayield ops T j == some want

abbrev ACall := FuncId → Array Value → H → Option (Value × H)
/-- Asked for as a call of this: a round. -/
def YF : Nat := 1099511627776
noncomputable def astep (call : ACall) (P : Program) (GL : Nat → Bool) (ops : Array Oper) (o : Oper) (T : Tm) (h : H) : Option (Value × H) :=
  bif awanted ops T o then
    match (cop P GL o).run (aeval T) h with
    | some (.value v, h') => some (v, h')
    | some (.skip, h') => some (undef, h')
    | some (.enter f args, h') => bif Nat.beq f YF then none else call f args h'
    | some (.round l _ tmps _ _, h') => call YF ⟨[.func (.yield l) ⟨[]⟩ ⟨[]⟩, .tuple ⟨tmps⟩]⟩ h'
    | none => none
  else some (undef, h)

def GOk (GL : Nat → Bool) (K : Nat → Prop) (M : Mp) : Prop := ∀ b, GL b = true → K b ∧ M b = ⟨b, 0, (M b).x⟩
/-- What a reckoned call | round leaves. -/
def Came (h h' : H) (K : Nat → Prop) (M : Mp) (g : Nat → Option Blk) (w : World) (v : Value) (e : Ending) (w' : World) : Prop :=
  ∃ v' M', e = .returned v' ∧ Post h h' K M g w M' w' ∧ ∀ m, Cl (Kn K h.size h'.size) M' m → v' = ren m v
/-- A reckoned call is a call. -/
def CallSound (P : Program) (GL : Nat → Bool) (call : ACall) : Prop :=
  ∀ f args h v h', call f args h = some (v, h') → Le h h' ∧
    (f ≠ YF → ∀ F K M g w args', Sub h'.fp F → Agree F K g h → Rep K M g w → GOk GL K M → (∀ m, Cl K M m → args' = renR m args) → Calls P f args' w (Came h h' K M g w v)) ∧
    (f = YF → ∀ F K M g w l r tmps tmps', args = ⟨[.func (.yield l) ⟨[]⟩ ⟨[]⟩, .tuple tmps]⟩ → h.get l = some (.obj (.loop r)) → Sub h'.fp F → Agree F K g h → Rep K M g w → GOk GL K M →
      (∀ m, Cl K M m → tmps' = renR m tmps) → RoundIn Fence.wide 0 P (M l).b (M r.fn).s tmps' r.assign r.body w (Came h h' K M g w v))

theorem GOk.next {GL : Nat → Bool} {K K' : Nat → Prop} {M M' : Mp} (h : GOk GL K M) (hk : ∀ b, K b → K' b) (hm : ∀ b, K b → M' b = M b) : GOk GL K' M' := fun b hb =>
  let ⟨h1, h2⟩ := h b hb
  ⟨hk b h1, by rw [hm b h1]; exact h2⟩

/-- The fence that bars nothing, in the activation or in a round of it. -/
def Wd (ro : Option Nat) : Fence := { Fence.wide with round := ro }
theorem CallsIn.wd {ro : Option Nat} {P : Program} {f : FuncId} {args : Array Value} {w : World} {R : Ending → World → Prop} (n : Nat) (h : Calls P f args w R) : CallsIn (Wd ro) n P f args w R :=
  callsIn_wide (n := n).2 h
theorem RoundIn.wd {ro : Option Nat} {P : Program} {l : Nat} {f : FuncId} {tmps : Array Value} {assign body : Code} {w : World} {R : Ending → World → Prop} (h : RoundIn Fence.wide 0 P l f tmps assign body w R) : RoundIn (Wd ro) 0 P l f tmps assign body w R := h
theorem aop_calm {P : Program} {GL : Nat → Bool} {ρ : Operand → Value} {o : Oper} {h : H} {r : AN × H} (e : aop P GL ρ o h = some r) : ∀ c, o.op ≠ .defer c := by
  intro c hc
  unfold aop at e
  rw [hc] at e
  have e := (bif_some e).2
  cases e
theorem aop_round {P : Program} {GL : Nat → Bool} {ρ : Operand → Value} {o : Oper} {h h1 : H} {l f : Nat} {tmps : List Value} {a b : Code} (e : aop P GL ρ o h = some (.round l f tmps a b, h1)) :
    ∃ r, h.get l = some (.obj (.loop r)) ∧ f = r.fn ∧ a = r.assign ∧ b = r.body ∧ h1 = h.rd l := by
  have vv : ∀ {s : Sem Value}, viaV P s h ≠ some (.round l f tmps a b, h1) := fun e => by
    unfold viaV at e
    split at e <;> simp at e
  have vu : ∀ {s : Sem Unit}, viaU P s h ≠ some (.round l f tmps a b, h1) := fun e => by
    unfold viaU at e
    split at e <;> simp at e
  have pl : plainN P ρ o h ≠ some (.round l f tmps a b, h1) := fun e => by
    unfold plainN at e
    have e := (bif_some e).2
    split at e
    · have e := (bif_some e).2; simp at e
    · cases e
  unfold aop at e
  have e := (bif_some e).2
  have st : ∀ {v : Value} {h2 : H}, some (AN.value v, h2) ≠ some (AN.round l f tmps a b, h1) := by simp
  have sk : ∀ {f' : Nat} {as : Array Value} {h2 : H}, some (AN.enter f' as, h2) ≠ some (AN.round l f tmps a b, h1) := by simp
  split at e
  · exact absurd e st
  · exact absurd e st
  · split at e
    · exact absurd e st
    · cases e
  · exact absurd (bif_some e).2 vv
  · exact absurd e vv
  · exact absurd (bif_some e).2 vv
  · exact absurd (bif_some e).2 vv
  · exact absurd e vv
  · exact absurd e vu
  · split at e
    · exact absurd e st
    · exact absurd e st
    · cases e
  · split at e
    · split at e
      · exact absurd e st
      · exact absurd e pl
    · split at e
      · exact absurd e st
      · exact absurd e pl
    · exact absurd e pl
  · exact absurd e pl
  · exact absurd e pl
  · exact absurd e pl
  · exact absurd e vv
  · split at e
    · exact absurd e st
    · cases e
  · exact absurd (bif_some e).2 vv
  · rcases bif_or e with e | e
    · exact absurd e vv
    · split at e
      · exact absurd e st
      · cases e
  · exact absurd e vv
  · exact absurd e vv
  · exact absurd e vv
  · exact absurd e vv
  · exact absurd e vv
  · exact absurd e vv
  · exact absurd (bif_some e).2 vv
  · exact absurd (bif_some e).2 vu
  · exact absurd (bif_some e).2 vu
  · split at e
    · split at e
      · rcases bif_or e with e | e
        · exact absurd e sk
        · exact absurd e pl
      · split at e
        · next r hg =>
          have e := (bif_some e).2
          simp only [Option.some.injEq, Prod.mk.injEq, AN.round.injEq] at e
          obtain ⟨⟨rfl, rfl, _, rfl, rfl⟩, rfl⟩ := e
          exact ⟨r, hg, rfl, rfl, rfl, rfl⟩
        · cases e
      · cases e
    · split at e
      · split at e
        · split at e
          · exact absurd e st
          · cases e
        · cases e
      · exact absurd e vv
      · exact (bif_or e).elim (fun e => absurd e vv) fun e => absurd e pl
      · exact absurd (bif_some e).2 vv
      · exact absurd e pl
    · cases e
  · cases e

theorem astep_sound {call : ACall} {P : Program} {GL : Nat → Bool} {ops : Array Oper} {o : Oper} {T : Tm} {h h' : H} {v : Value} (hN : ∀ (g : Nat) (fn : Func), P.funcs[g]? = some fn → (fn.name == "runtime.NumGoroutine") = false)
    (hC : CallSound P GL call) (e : astep call P GL ops o T h = some (v, h')) :
    Le h h' ∧ ∀ {F : Nat} {K : Nat → Prop} {M : Mp} {g : Nat → Option Blk} {w : World} {a : Act} {Q : Exit → Act → World → Prop} {next : Act → World → Prop} {ro : Option Nat}, Sub h'.fp F → Agree F K g h → Rep K M g w → GOk GL K M →
      (∀ m, Cl K M m → ∀ t, t ∈ o.looksAt ops → a.tmps.getD t undef = ren m (T.get t)) →
      (∀ v' M' w', Post h h' K M g w M' w' → (∀ m, Cl (Kn K h.size h'.size) M' m → v' = ren m v) → next (a.put o.dst v') w') →
      if Region.wanted o (yielded ops a.tmps) then o.wpIn (Wd ro) 0 P a w next Q else next (a.put o.dst undef) w := by
  unfold astep at e
  have hwant : ∀ {m : Mp} {a : Act}, (∀ t, t ∈ o.looksAt ops → a.tmps.getD t undef = ren m (T.get t)) → Region.wanted o (yielded ops a.tmps) = awanted ops T o := by
    intro m a ht
    unfold Region.wanted awanted
    cases hg : o.guard with
    | none => rfl
    | some gw =>
      obtain ⟨j, want⟩ := gw
      simp only
      rw [TR.yielded (m := m) (T := T) fun t htt => ht t (by simp [Oper.looksAt, hg, htt])]
  cases haw : awanted ops T o
  · rw [haw] at e
    simp only [cond_false, Option.some.injEq, Prod.mk.injEq] at e
    obtain ⟨rfl, rfl⟩ := e
    refine ⟨Le.refl _, ?_⟩
    intro F K M g w a Q next ro hf ha hr hG ht hn
    rw [hwant (ht M Cl.refl), haw]
    simp only [Bool.false_eq_true, if_false]
    exact hn undef M w (Post.same ha hr h rfl rfl fun _ => rfl) fun m _ => (ren_undef m).symm
  · rw [haw] at e
    simp only [cond_true] at e
    have evs : ∀ {n : AN} {h1 : H}, (cop P GL o).run (aeval T) h = some (n, h1) → ∀ {F : Nat} {K : Nat → Prop} {M : Mp} {g : Nat → Option Blk} {w : World} {a : Act}, Sub h1.fp F → Agree F K g h → Rep K M g w → GOk GL K M →
        (∀ m, Cl K M m → ∀ t, t ∈ o.looksAt ops → a.tmps.getD t undef = ren m (T.get t)) → OpDone P h h1 K M g w n (execOp a.eval o) := by
      intro n h1 hop F K M g w a hf ha hr hG ht
      have hop := cop_ref hop
      refine (aop_sound hN hop hf ha hr fun m hm x hx => ?_).2
      have hco := Array.all_eq_true_iff_forall_mem.1 (aop_cok hop) x hx
      cases x with
      | tmp t => exact ht m hm t (by
          unfold Oper.looksAt
          exact List.mem_append_left _ (List.mem_filterMap.2 ⟨.tmp t, by simpa using hx, rfl⟩))
      | const v => exact (ren_plain m v hco).symm
      | global b =>
        obtain ⟨h1, h2⟩ := hG b hco
        have h3 := hm b h1
        rw [h2] at h3
        simp only [Act.eval, aeval, ren_ptr, renA, h3, Nat.add_zero]
      | func f => simp [Act.eval, aeval, ren, renF, renR_map]
    split at e
    · next u h1 hop =>
      simp only [Option.some.injEq, Prod.mk.injEq] at e
      obtain ⟨rfl, rfl⟩ := e
      refine ⟨aop_le (cop_ref hop), ?_⟩
      intro F K M g w a Q next ro hf ha hr hG ht hn
      rw [hwant (ht M Cl.refl), haw]
      simp only [if_true]
      obtain ⟨n', M', w', r1, r2, r3⟩ := evs hop hf ha hr hG ht
      refine ⟨fun _ _ => trivial, ?_⟩
      rw [Oper.semAt_eq _ _ _ (aop_calm (cop_ref hop)), r1]
      obtain ⟨u', rfl⟩ : ∃ u', n' = .value u' := ⟨_, r3 M' Cl.refl⟩
      exact hn u' M' w' r2 fun m hm => by have := r3 m hm; simpa [AR] using this
    · next h1 hop =>
      simp only [Option.some.injEq, Prod.mk.injEq] at e
      obtain ⟨rfl, rfl⟩ := e
      refine ⟨aop_le (cop_ref hop), ?_⟩
      intro F K M g w a Q next ro hf ha hr hG ht hn
      rw [hwant (ht M Cl.refl), haw]
      simp only [if_true]
      obtain ⟨n', M', w', r1, r2, r3⟩ := evs hop hf ha hr hG ht
      refine ⟨fun _ _ => trivial, ?_⟩
      rw [Oper.semAt_eq _ _ _ (aop_calm (cop_ref hop)), r1]
      obtain rfl : n' = .skip := r3 M' Cl.refl
      exact hn undef M' w' r2 fun m _ => (ren_undef m).symm
    · next f args h1 hop =>
      have hne : f ≠ YF := fun e' => by rw [e'] at e; cases e
      have e : call f args h1 = some (v, h') := by
        cases hb : Nat.beq f YF
        · rw [hb] at e; exact e
        · exact absurd (Nat.eq_of_beq_eq_true hb) hne
      obtain ⟨l2, hcall, _⟩ := hC f args h1 v h' e
      replace hcall := hcall hne
      refine ⟨(aop_le (cop_ref hop)).trans l2, ?_⟩
      intro F K M g w a Q next ro hf ha hr hG ht hn
      rw [hwant (ht M Cl.refl), haw]
      simp only [if_true]
      have hf1 := l2.fp.trans hf
      obtain ⟨n', M', w', r1, r2, r3⟩ := evs hop hf1 ha hr hG ht
      refine ⟨fun _ _ => trivial, ?_⟩
      rw [Oper.semAt_eq _ _ _ (aop_calm (cop_ref hop)), r1]
      obtain ⟨args', rfl⟩ : ∃ args', n' = .enter f args' := ⟨_, r3 M' Cl.refl⟩
      refine ⟨(fun h => by cases h), CallsIn.mono (CallsIn.wd _ (hcall F _ M' _ w' args' hf (ha.next (aop_le (cop_ref hop)) hf1) r2.rep (hG.next (fun _ h => .inl h) r2.keep) fun m hm => by have := r3 m hm; simpa [AR] using this)) ?_⟩
      rintro en w'' ⟨v', M'', rfl, p2, hv⟩
      refine hn v' M'' w'' (Post.trans ha hf1 (aop_le (cop_ref hop)) l2 r2 p2) fun m hm => hv m ?_
      rw [Kn_trans (aop_le (cop_ref hop)).size l2.size]; exact hm
    · next l f tmps as bd h1 hop =>
      obtain ⟨r, hgl, rfl, rfl, rfl, rfl⟩ := aop_round (cop_ref hop)
      obtain ⟨l2, _, hcall⟩ := hC _ _ _ v h' e
      replace hcall := hcall rfl
      refine ⟨(aop_le (cop_ref hop)).trans l2, ?_⟩
      intro F K M g w a Q next ro hf ha hr hG ht hn
      rw [hwant (ht M Cl.refl), haw]
      simp only [if_true]
      have hf1 := l2.fp.trans hf
      obtain ⟨n', M', w', r1, r2, r3⟩ := evs hop hf1 ha hr hG ht
      refine ⟨fun _ _ => trivial, ?_⟩
      rw [Oper.semAt_eq _ _ _ (aop_calm (cop_ref hop)), r1]
      obtain rfl : n' = .round (M' l).b (M' r.fn).s ⟨tmps.map (ren M')⟩ r.assign r.body := r3 M' Cl.refl
      refine ⟨(fun h => by cases h), RoundIn.mono (RoundIn.wd (hcall F _ M' _ w' l r ⟨tmps⟩ ⟨tmps.map (ren M')⟩ rfl hgl hf (ha.next (aop_le (cop_ref hop)) hf1) r2.rep (hG.next (fun _ h => .inl h) r2.keep) fun m hm => ?_)) ?_⟩
      · have := r3 m hm
        simp only [AR, Next.round.injEq, and_true] at this
        rw [renR, renL_map]; exact this.2.2
      rintro en w'' ⟨v', M'', rfl, p2, hv⟩
      refine hn v' M'' w'' (Post.trans ha hf1 (aop_le (cop_ref hop)) l2 r2 p2) fun m hm => hv m ?_
      rw [Kn_trans (aop_le (cop_ref hop)).size l2.size]; exact hm
    · cases e
end Go.Proofs.YtipceoeihiaieaaDoor.Ev
