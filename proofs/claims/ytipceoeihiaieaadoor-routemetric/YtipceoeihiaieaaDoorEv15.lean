/- Code and calls, reckoned. -/
import Derived.Test.YtipceoeihiaieaaDoorEv14
import Derived.LoopNIn
import Derived.Scope
import Derived.RangeFuncRecord
namespace Go.Proofs.YtipceoeihiaieaaDoor.Ev
open Go
open ren (renR renL)
open plain (plainR plainL)

theorem wpIn_scope {F : Fence} {n : Nat} {P : Program} {Q : Exit → Act → World → Prop} {a : Act} {w : World} {c : Code} (h : c.wpIn F n P (Exit.noGoto Q) a w) : (Code.scope c).wpIn F n P Q a w := by
  intro b k cs hro hb hr
  have h0 : (lone (b.atR a (.code (.scope c) :: k)) cs w).fenced P F := fenced_calm hb hr rfl
  have s0 : step P (lone (b.atR a (.code (.scope c) :: k)) cs w) = .next (lone (b.atR a (.code c :: .inScope c :: k)) cs w) := step_lone_go (by simp [stepG, stepG.exec, Frame.atR])
  obtain ⟨e, a₁, w₁, hq, harr⟩ := h b (.inScope c :: k) cs hro hb hr
  cases e with
  | normal =>
    have s1 : step P (lone (b.atR a₁ (.inScope c :: k)) cs w₁) = .next (lone (b.atR a₁ k) cs w₁) := step_lone_go (by simp [stepG, stepG.exec, Frame.atR])
    exact ⟨.normal, a₁, w₁, hq, .head h0 s0 (StepsIn.trans harr (.one (fenced_calm (fr := b.atR a₁ (.inScope c :: k)) hb hr rfl) s1))⟩
  | exit id =>
    exact ⟨.exit id, a₁, w₁, hq, fun k' hk => .head h0 s0 (harr.1 k' (by simp [exitTo, hk])),
      fun hr' hk => let ⟨k₁, h1, h2⟩ := harr.2 hr' (by simp [exitTo, hk]); ⟨k₁, h1, .head h0 s0 h2⟩⟩
  | goto l => exact hq.elim
  | ret => exact ⟨_, a₁, w₁, hq, .of_steps (.one h0 s0) harr⟩
  | panic ch => exact ⟨_, a₁, w₁, hq, .of_steps (.one h0 s0) harr⟩
  | outgrown => exact ⟨_, a₁, w₁, hq, .of_steps (.one h0 s0) harr⟩

inductive AX where
  | normal
  | exit (id : Nat)
  | ret
def AX.ex : AX → Exit
  | .normal => .normal
  | .exit id => .exit id
  | .ret => .ret
/-- What a round that is left so leaves to be done. -/
def AX.jump : AX → Option Code
  | .normal => none
  | .exit id => some (.exit id)
  | .ret => some .ret
def jumpX : Option Code → Option AX
  | none => some .normal
  | some (.exit id) => some (.exit id)
  | some .ret => some .ret
  | _ => none

/- Temporaries as a row; the marks among the deferred calls. -/
noncomputable def Tm.row (T : Tm) : List Value := (List.range T.n).map T.get
theorem row_ren {m : Mp} {T : Tm} {tmps : Array Value} (h : TR m T tmps) : renR m ⟨T.row⟩ = tmps := by
  rw [renR, renL_map]
  apply Array.ext'
  unfold Tm.row
  refine List.ext_getElem? fun i => ?_
  by_cases hi : i < T.n
  · have h2 := h.2 i
    have hs : i < tmps.size := by rw [h.1]; exact hi
    simp only [Array.getD, hs, dif_pos] at h2
    simp [hi, hs]
    exact h2.symm
  · have hs : ¬ i < tmps.size := by rw [h.1]; exact hi
    simp [hi]
    omega
def markOf (m : Mp) (d : Nat) : Deferred := { target := .collected (m d).b, args := #[] }
def DR (m : Mp) (T : Tm) (ds : List Deferred) : Prop := ds = T.ms.map (markOf m)
def TA (m : Mp) (T : Tm) (a : Act) : Prop := TR m T a.tmps ∧ DR m T a.defers
/-- What a run of code leaves, for the code behind it. -/
def ThenC (Q : Exit → Act → World → Prop) (e : Exit) (T' : Tm) (h h' : H) (K : Nat → Prop) (M : Mp) (g : Nat → Option Blk) (w : World) : Prop :=
  ∀ a' M' w', Post h h' K M g w M' w' → (∀ m, Cl (Kn K h.size h'.size) M' m → TA m T' a') → Q e a' w'
theorem ThenC.flat {Q : Exit → Act → World → Prop} {x : Exit} {T T' : Tm} {h h' : H} {K : Nat → Prop} {M : Mp} {g : Nat → Option Blk} {w : World} {a : Act} (e : T'.ms = T.ms) (hT : ∀ m, Cl K M m → TA m T a)
    (hn : ThenC Q x T' h h' K M g w) : Then a.defers Q x T' h h' K M g w := fun a' M' w' p ht hd => hn a' M' w' p fun m hm => ⟨ht m hm, by
      unfold DR
      rw [e, hd]; exact (hT m (Cl.next p.keep hm)).2⟩
def ROk (aro ro : Option Nat) (K : Nat → Prop) (M : Mp) : Prop := ro = aro.map (fun l => (M l).b) ∧ ∀ l, aro = some l → K l
theorem ROk.next {aro ro : Option Nat} {K K' : Nat → Prop} {M M' : Mp} (h : ROk aro ro K M) (hk : ∀ b, K b → K' b) (hm : ∀ b, K b → M' b = M b) : ROk aro ro K' M' := by
  refine ⟨?_, fun l hl => hk l (h.2 l hl)⟩
  rw [h.1]
  cases aro with
  | none => rfl
  | some l => simp only [Option.map_some]; rw [hm l (h.2 l rfl)]

/- Loops over functions. -/
theorem run_enterLoop_inner' {P : Program} {w : World} {l₀ : Nat} {r₀ : Loop} (h : w.heap[l₀]? = some (.loop r₀)) (fn : FuncId) (tmps : Array Value) (ps : Array Tmp) (assign body : Code) :
    (Instr.enterLoop fn tmps ps assign body (some l₀)).run P w =
      .ok (w.heap.size, []) (w.alloc (.loop { state := .ready, pending := none, fn, tmps, params := ps, assign, body, defers := r₀.defers })) := by
  unfold Instr.enterLoop
  simp only [Sem.run_bind, run_getLoop h, run_newObj_alloc, Result.andThen, Sem.run_pure]
noncomputable def enter (aro : Option Nat) (ps : Array Tmp) (assign body : Code) (T : Tm) (h : H) : Option (Nat × Tm × H) :=
  match aro with
  | none => some (h.size + 1, { t := T.t, n := T.n, ms := h.size :: T.ms },
      (h.push (.obj (.deferred (some [])))).push (.obj (.loop { state := .ready, pending := none, fn := h.size + 1, tmps := ⟨T.row⟩, params := ps, assign := assign, body := body, defers := h.size })))
  | some l0 => match h.get l0 with
    | some (.obj (.loop r0)) => some (h.size, T, (h.rd l0).push (.obj (.loop { state := .ready, pending := none, fn := h.size, tmps := ⟨T.row⟩, params := ps, assign := assign, body := body, defers := r0.defers })))
    | _ => none
theorem push_heap {w : World} {o : Obj} : ({ w with heap := w.heap.push o } : World).heap[w.heap.size]? = some o := by simp
theorem enter_sound {P : Program} {aro : Option Nat} {ps : Array Tmp} {assign body : Code} {T T1 : Tm} {h h1 : H} {L : Nat} (e : enter aro ps assign body T h = some (L, T1, h1)) :
    Le h h1 ∧ h.size ≤ L ∧ L < h1.size ∧ (∀ x, aeval T1 x = aeval T x) ∧ ∀ {F : Nat} {K : Nat → Prop} {M : Mp} {g : Nat → Option Blk} {w : World} {a : Act} {ro : Option Nat} (fn : Nat), ROk aro ro K M → Sub h1.fp F → Agree F K g h → Rep K M g w →
      (∀ m, Cl K M m → TA m T a) → ∃ l mark M1 w1, (Instr.enterLoop fn a.tmps ps assign body ro).run P w = .ok (l, mark) w1 ∧ Post h h1 K M g w M1 w1 ∧ (M1 L).b = l ∧
        ∀ m, Cl (Kn K h.size h1.size) M1 m → TA m T1 { a with defers := mark ++ a.defers } := by
  unfold enter at e
  cases aro with
  | none =>
    simp only [Option.some.injEq, Prod.mk.injEq] at e
    obtain ⟨rfl, rfl, rfl⟩ := e
    have l1 := Le.push h (.obj (.deferred (some [])))
    have l2 := Le.push (h.push (.obj (.deferred (some [])))) (.obj (.loop { state := .ready, pending := none, fn := h.size + 1, tmps := ⟨T.row⟩, params := ps, assign := assign, body := body, defers := h.size }))
    refine ⟨l1.trans l2, Nat.le_succ _, Nat.lt_succ_self _, fun x => by cases x <;> rfl, ?_⟩
    intro F K M g w a ro fn hR hf ha hr hT
    have hf1 := l2.fp.trans hf
    obtain rfl : ro = none := hR.1
    have hF1 : F.testBit h.size = true := hf1 _ (by simp [H.push, bit_test])
    have hF2 : F.testBit (h.push (.obj (.deferred (some [])))).size = true := hf _ (by simp [H.push, bit_test])
    have p1 := Post.push (o := .deferred (some [])) (y := .obj (.deferred (some []))) (x := 0) ha hF1 hr fun m _ => ⟨push_heap, rfl⟩
    generalize hM1 : (fun i => if i = h.size then (⟨w.heap.size, 0, 0⟩ : Pl) else M i) = M1 at p1
    have hD : M1 h.size = ⟨w.heap.size, 0, 0⟩ := by rw [← hM1]; exact if_pos rfl
    have p2 := Post.pushG (s := fn) (x := 0) (o := .loop { state := .ready, pending := none, fn := fn, tmps := a.tmps, params := ps, assign := assign, body := body, defers := w.heap.size })
      (y := .obj (.loop { state := .ready, pending := none, fn := h.size + 1, tmps := ⟨T.row⟩, params := ps, assign := assign, body := body, defers := h.size }))
      (ha.next l1 hf1) hF2 p1.rep fun m hm hmL => ⟨by
        rw [push_heap]
        have e1 : m (h.size + 1) = ⟨(w.heap.push (.deferred (some []))).size, fn, 0⟩ := hmL
        have e2 : (m h.size).b = w.heap.size := by rw [hm h.size (.inr ⟨Nat.le_refl _, Nat.lt_succ_self _⟩), hD]
        simp only [renO, e1, e2, row_ren (hT m (Cl.next p1.keep hm)).1], rfl⟩
    refine ⟨_, _, _, _, run_enterLoop_outer _ _ _ _ _, Post.trans ha hf1 l1 l2 p1 p2, ?_, fun m hm => ?_⟩
    · simp
      rw [if_pos (show h.size + 1 = (h.push (.obj (.deferred (some [])))).size from rfl)]
    · have hm1 := Cl.next p2.keep (fun b hb => hm b (by rw [← Kn_trans l1.size l2.size]; exact hb))
      have hm0 := Cl.next p1.keep hm1
      refine ⟨⟨(hT m hm0).1.1, (hT m hm0).1.2⟩, ?_⟩
      have e2 : (m h.size).b = w.heap.size := by rw [hm1 h.size (.inr ⟨Nat.le_refl _, Nat.lt_succ_self _⟩), hD]
      have := (hT m hm0).2
      unfold DR at this ⊢
      simp only [List.map_cons, markOf, e2]
      rw [this]; rfl
  | some l0 =>
    simp only at e
    split at e
    case h_2 => cases e
    next r0 hg0 =>
    simp only [Option.some.injEq, Prod.mk.injEq] at e
    obtain ⟨rfl, rfl, rfl⟩ := e
    have l1 := Le.rd h l0
    have l2 := Le.push (h.rd l0) (.obj (.loop { state := .ready, pending := none, fn := h.size, tmps := ⟨T.row⟩, params := ps, assign := assign, body := body, defers := r0.defers }))
    refine ⟨l1.trans l2, Nat.le_refl _, Nat.lt_succ_self _, fun x => rfl, ?_⟩
    intro F K M g w a ro fn hR hf ha hr hT
    have hf1 := l2.fp.trans hf
    obtain rfl : ro = some (M l0).b := hR.1
    have hF1 : F.testBit l0 = true := hf1 _ (by simp [H.rd, bit_test])
    have hF2 : F.testBit (h.rd l0).size = true := hf _ (by simp [H.push, bit_test])
    have hgl : g l0 = some (.obj (.loop r0)) := (ha.eq l0 hF1).trans hg0
    have p1 := Post.same ha hr (h.rd l0) rfl rfl fun _ => rfl
    have hb0 := (hr.blk l0 _ hgl M Cl.refl).1
    simp only [renO] at hb0
    have p2 := Post.pushG (s := fn) (x := 0) (o := .loop { state := .ready, pending := none, fn := fn, tmps := a.tmps, params := ps, assign := assign, body := body, defers := (M r0.defers).b })
      (y := .obj (.loop { state := .ready, pending := none, fn := h.size, tmps := ⟨T.row⟩, params := ps, assign := assign, body := body, defers := r0.defers }))
      (ha.next l1 hf1) hF2 p1.rep fun m hm hmL => ⟨by
        rw [push_heap]
        have hm0 : Cl K M m := Cl.next p1.keep hm
        have e1 : m h.size = ⟨w.heap.size, fn, 0⟩ := hmL
        have e2 : (m r0.defers).b = (M r0.defers).b := by
          have hbm := (hr.blk l0 _ hgl m hm0).1
          simp only [renO] at hbm
          rw [hb0] at hbm
          simp only [Option.some.injEq, Obj.loop.injEq, Loop.mk.injEq] at hbm
          exact hbm.2.2.2.2.2.2.2.symm
        simp only [renO, e1, e2, row_ren (hT m hm0).1], rfl⟩
    refine ⟨_, _, _, _, run_enterLoop_inner' hb0 _ _ _ _ _, Post.trans ha hf1 l1 l2 p1 p2, ?_, fun m hm => ?_⟩
    · have : h.size = (h.rd l0).size := rfl
      simp [this]
    · have hm1 := Cl.next p2.keep (fun b hb => hm b (by rw [← Kn_trans l1.size l2.size]; exact hb))
      have hm0 : Cl K M m := Cl.next p1.keep hm1
      exact hT m hm0
noncomputable def arange (call : ACall) (P : Program) (GL : Nat → Bool) (aro : Option Nat) (f : Operand) (ps : Array Tmp) (assign body : Code) (T : Tm) (h : H) : Option (AX × Tm × H) :=
  match enter aro ps assign body T h, cOk GL f with
  | some (L, T1, h1), true => match aeval T f with
    | .func (.func g) first captured => bif bodied P g && !(Nat.beq g YF) then
        match call g ⟨first.toList ++ (.func (.yield L) ⟨[]⟩ ⟨[]⟩ :: captured.toList)⟩ h1 with
        | some (_, h2) => match h2.get L with
          | some (.obj (.loop r)) => match r.state, jumpX r.pending with
            | .ready, some x => some (x, T1, h2.put L (some (.obj (.loop { r with state := .exhausted }))))
            | .done, some x => some (x, T1, h2.put L (some (.obj (.loop { r with state := .exhausted }))))
            | _, _ => none
          | _ => none
        | none => none
      else none
    | _ => none
  | _, _ => none

noncomputable def acode (call : ACall) (P : Program) (GL : Nat → Bool) (aro : Option Nat) : Nat → Code → Tm → H → Option (AX × Tm × H)
  | 0, _, _, _ => none
  | n + 1, c, T, h =>
    match c with
    | .skip => some (.normal, T, h)
    | .label _ => some (.normal, T, h)
    | .region _ ops draw => match (match draw with | true => adraw call P GL ops T h | false => aseq call P GL ops ops.toList T h) with
      | some (T', h') => some (.normal, T', h')
      | none => none
    | .seq a b => match acode call P GL aro n a T h with
      | some (.normal, T1, h1) => acode call P GL aro n b T1 h1
      | some (.exit id, T1, h1) => some (.exit id, T1, h1)
      | some (.ret, T1, h1) => some (.ret, T1, h1)
      | none => none
    | .cond c a b => match aeval T c with
      | .bool true => acode call P GL aro n a T h
      | .bool false => acode call P GL aro n b T h
      | _ => none
    | .block id c => match acode call P GL aro n c T h with
      | some (.exit id', T1, h1) => bif Nat.beq id' id then some (.normal, T1, h1) else some (.exit id', T1, h1)
      | some (.normal, T1, h1) => some (.normal, T1, h1)
      | some (.ret, T1, h1) => some (.ret, T1, h1)
      | none => none
    | .loop c => match acode call P GL aro n c T h with
      | some (.normal, T1, h1) => acode call P GL aro n (.loop c) T1 h1
      | some (.exit id, T1, h1) => some (.exit id, T1, h1)
      | some (.ret, T1, h1) => some (.ret, T1, h1)
      | none => none
    | .exit id => some (.exit id, T, h)
    | .ret => some (.ret, T, h)
    | .scope c => acode call P GL aro n c T h
    | .rangeFunc f ps a b => arange call P GL aro f ps a b T h
    | _ => none

def WpOk (P : Program) (aro : Option Nat) (c : Code) (x : AX) (T T' : Tm) (h h' : H) (GL : Nat → Bool) : Prop :=
  Le h h' ∧ ∀ {F : Nat} {K : Nat → Prop} {M : Mp} {g : Nat → Option Blk} {w : World} {a : Act} {Q : Exit → Act → World → Prop} {ro : Option Nat}, ROk aro ro K M → Sub h'.fp F → Agree F K g h → Rep K M g w → GOk GL K M →
      (∀ m, Cl K M m → TA m T a) → ThenC Q x.ex T' h h' K M g w → c.wpIn (Wd ro) 0 P Q a w
def RoundsOk (P : Program) (aro : Option Nat) (c : Code) (n : Nat) (x : AX) (T T' : Tm) (h h' : H) (GL : Nat → Bool) : Prop :=
  Le h h' ∧ ∀ {F : Nat} {K : Nat → Prop} {M : Mp} {g : Nat → Option Blk} {w : World} {a : Act} {Q : Exit → Act → World → Prop} {ro : Option Nat}, ROk aro ro K M → Sub h'.fp F → Agree F K g h → Rep K M g w → GOk GL K M →
      (∀ m, Cl K M m → TA m T a) → ThenC Q x.ex T' h h' K M g w → Code.roundsIn (Wd ro) 0 P c Q n a w

theorem ThenC.next {Q : Exit → Act → World → Prop} {x : Exit} {T' : Tm} {h h1 h' : H} {F : Nat} {K : Nat → Prop} {M : Mp} {g : Nat → Option Blk} {w : World} (l1 : Le h h1) (l2 : Le h1 h') (hf : Sub h'.fp F) (ha : Agree F K g h)
    (hn : ThenC Q x T' h h' K M g w) {M1 : Mp} {w1 : World} (p : Post h h1 K M g w M1 w1) : ThenC Q x T' h1 h' (Kn K h.size h1.size) M1 (Gn g h1) w1 := by
  intro a' M' w' p2 ht
  refine hn a' M' w' (Post.trans ha (l2.fp.trans hf) l1 l2 p p2) (fun m hm => ht m ?_)
  rw [Kn_trans l1.size l2.size]; exact hm

theorem jumpX_wp {P : Program} {ro : Option Nat} {x : AX} {Q : Exit → Act → World → Prop} {a : Act} {w : World} (h : Q x.ex a w) : ∀ (pe : Option Code), jumpX pe = some x →
    (match pe with | none => Q .normal a w | some c => c.wpIn (Wd ro) 0 P Q a w) := by
  intro pe hx
  unfold jumpX at hx
  split at hx
  · simp only [Option.some.injEq] at hx; subst hx; exact h
  · simp only [Option.some.injEq] at hx; subst hx; exact wpIn_exit h
  · simp only [Option.some.injEq] at hx; subst hx; exact wpIn_ret h
  · cases hx

theorem arange_sound {call : ACall} {P : Program} {GL : Nat → Bool} (hN : ∀ (g : Nat) (fn : Func), P.funcs[g]? = some fn → (fn.name == "runtime.NumGoroutine") = false) (hC : CallSound P GL call) {aro : Option Nat} {f : Operand} {ps : Array Tmp} {assign body : Code}
    {T T' : Tm} {h h' : H} {x : AX} (e : arange call P GL aro f ps assign body T h = some (x, T', h')) : WpOk P aro (.rangeFunc f ps assign body) x T T' h h' GL := by
  unfold arange at e
  split at e
  case h_2 => cases e
  next L T1 h1 he hcf =>
  split at e
  case h_2 => cases e
  next g first captured hv =>
  obtain ⟨hbg, e⟩ := bif_some e
  rw [Bool.and_eq_true] at hbg
  obtain ⟨hbg, hgy⟩ := hbg
  have hne : g ≠ YF := fun e' => by rw [e'] at hgy; cases hgy
  split at e
  case h_2 => cases e
  next v h2 hcall =>
  split at e
  case h_2 => cases e
  next r hgL =>
  have e' : r.state ≠ .busy ∧ jumpX r.pending = some x ∧ T1 = T' ∧ h2.put L (some (.obj (.loop { r with state := .exhausted }))) = h' := by
    split at e
    · next x' hs hj =>
      simp only [Option.some.injEq, Prod.mk.injEq] at e
      obtain ⟨rfl, rfl, rfl⟩ := e
      exact ⟨by rw [hs]; simp, hj, rfl, rfl⟩
    · next x' hs hj =>
      simp only [Option.some.injEq, Prod.mk.injEq] at e
      obtain ⟨rfl, rfl, rfl⟩ := e
      exact ⟨by rw [hs]; simp, hj, rfl, rfl⟩
    · cases e
  obtain ⟨hst, hj, rfl, rfl⟩ := e'
  obtain ⟨l1, hL0, hL1, hev, k1⟩ := enter_sound (P := P) he
  obtain ⟨l2, k2, _⟩ := hC _ _ _ _ _ hcall
  replace k2 := k2 hne
  have l3 := Le.put h2 L (some (.obj (.loop { r with state := .exhausted }))) ⟨_, hgL⟩
  refine ⟨(l1.trans l2).trans l3, ?_⟩
  intro F K M gg w a Q ro hR hf ha hr hG hT hn
  have hf2 := l3.fp.trans hf
  have hf1 := l2.fp.trans hf2
  refine wpIn_rangeFunc fun fn _ => ?_
  obtain ⟨l, mark, M1, w1, r1, p1, hML, hTA⟩ := k1 fn hR hf1 ha hr hT
  have hG1 : GOk GL (Kn K h.size h1.size) M1 := hG.next (fun _ h => .inl h) p1.keep
  have ha1 := ha.next l1 hf1
  have ha2 := ha1.next l2 hf2
  have hact : ∀ m, Cl (Kn K h.size h1.size) M1 m → a.eval f = .func (.func g) (renR m first) (renR m captured) := fun m hm => by
    have h0 := TR.eval (x := f) (hT m (Cl.next p1.keep hm)).1 (fun gl hgl => by
      subst hgl
      obtain ⟨h1, h2⟩ := hG1 gl hcf
      rw [hm gl h1]; exact h2) (fun v hv => by subst hv; exact hcf)
    rw [h0, hv]; simp [ren, renF]
  have hKL : Kn K h.size h1.size L := .inr ⟨hL0, hL1⟩
  have hargs : ∀ m, Cl (Kn K h.size h1.size) M1 m → (renR M1 first ++ #[Value.func (.yield l) #[] #[]] ++ renR M1 captured) = renR m ⟨first.toList ++ (.func (.yield L) ⟨[]⟩ ⟨[]⟩ :: captured.toList)⟩ := fun m hm => by
    have h1 := hact m hm
    rw [hact M1 Cl.refl] at h1
    simp only [Value.func.injEq, true_and] at h1
    have hml : (m L).b = l := by rw [hm L hKL]; exact hML
    rw [h1.1, h1.2]
    apply Array.ext'
    simp [renR_map, ren, renF, hml]
  have hinv : ∀ W, (invoke (.fn (.func g) (renR M1 captured)) (renR M1 first ++ #[Value.func (.yield l) #[] #[]])).run P W = .ok (.enter g (renR M1 first ++ #[Value.func (.yield l) #[] #[]] ++ renR M1 captured)) W := fun W => by
    unfold bodied at hbg
    cases hfn : P.funcs[g]? with
    | none => rw [hfn] at hbg; cases hbg
    | some fn =>
      rw [hfn] at hbg
      have hbs : fn.body.isNone = false := by
        simp only at hbg
        cases hbb : fn.body with
        | none => rw [hbb] at hbg; cases hbg
        | some c => rfl
      have hn := hN g fn hfn
      simp only [invoke, callFunc]
      change Sem.run P (match P.funcs[g]? with | none => _ | some fn => _) W = _
      rw [hfn]
      simp only [hn, hbs, Bool.false_eq_true, if_false]
      rfl
  refine ⟨l, mark, w1, { target := .fn (.func g) (renR M1 captured), args := renR M1 first ++ #[Value.func (.yield l) #[] #[]] }, w1, g, renR M1 first ++ #[Value.func (.yield l) #[] #[]] ++ renR M1 captured, w1, r1, ?_, fun _ _ => trivial, hinv w1, (fun h => by cases h), ?_⟩
  · have := hact M1 Cl.refl
    simp only [resolve, this, Deferred.ofValue]
    rw [show (#[Operand.const (.func (.yield l) #[] #[])].map a.eval) = #[Value.func (.yield l) #[] #[]] by simp [Act.eval]]
    rfl
  · refine CallsIn.mono (CallsIn.wd _ (k2 F _ M1 _ w1 _ hf2 ha1 p1.rep hG1 hargs)) ?_
    rintro en w2 ⟨v', M2, rfl, p2, hv2⟩
    have hFL : F.testBit L = true := hf _ (by simp [H.put, bit_test])
    have p12 := Post.trans ha hf1 l1 l2 p1 p2
    have hgL' : Gn (Gn gg h1) h2 L = some (.obj (.loop r)) := (ha2.eq L hFL).trans hgL
    have hk2 : Kn (Kn K h.size h1.size) h1.size h2.size L := .inl hKL
    have hM2L : M2 L = M1 L := p2.keep L hKL
    have hrec := (p2.rep.blk L _ hgL' M2 Cl.refl).1
    simp only [renO] at hrec
    rw [hM2L, hML] at hrec
    have hlt : l < w2.heap.size := (Array.getElem?_eq_some_iff.1 hrec).1
    have hend := run_endLoop (P := P) hrec hst
    refine ⟨r.pending, _, hend, ?_⟩
    have p3 := Post.turn (w' := w2.putObj l (.loop { state := .exhausted, pending := r.pending, fn := (M2 r.fn).s, tmps := renR M2 r.tmps, params := r.params, assign := r.assign, body := r.body, defers := (M2 r.defers).b }))
      (y := .obj (.loop { r with state := .exhausted })) ha2 hFL p2.rep hgL' (by simp) (fun k hk => by
        rw [hM2L, hML] at hk
        exact World.putObj_heap_other hk) (fun m hm => ⟨by
        rw [hM2L, hML, World.putObj_heap_same hlt]
        have hrm := (p2.rep.blk L _ hgL' m hm).1
        simp only [renO] at hrm
        rw [hM2L, hML, hrec] at hrm
        simp only [Option.some.injEq, Obj.loop.injEq, Loop.mk.injEq] at hrm
        simp only [renO, Option.some.injEq, Obj.loop.injEq, Loop.mk.injEq, true_and]
        exact ⟨hrm.2.2.1, hrm.2.2.2.1, hrm.2.2.2.2.2.2.2⟩, rfl⟩) ⟨rfl, rfl, rfl⟩
    refine jumpX_wp (hn _ M2 _ (Post.trans ha hf2 (l1.trans l2) l3 p12 ?_) fun m hm => ?_) _ hj
    · have : Kn (Kn K h.size h1.size) h1.size h2.size = Kn K h.size h2.size := Kn_trans l1.size l2.size
      rw [← this, ← Gn_trans l2]
      exact p3
    · refine hTA m (Cl.next (a := h1.size) (b := h2.size) p2.keep ?_)
      rw [Kn_trans l1.size l2.size]; exact hm

theorem acode_sound {call : ACall} {P : Program} {GL : Nat → Bool} (hN : ∀ (g : Nat) (fn : Func), P.funcs[g]? = some fn → (fn.name == "runtime.NumGoroutine") = false) (hC : CallSound P GL call) (hmix : P.follows .mixedOrders = true) {aro : Option Nat} :
    ∀ (n : Nat), (∀ {c : Code} {T T' : Tm} {h h' : H} {x : AX}, acode call P GL aro n c T h = some (x, T', h') → WpOk P aro c x T T' h h' GL) ∧
      (∀ {c : Code} {T T' : Tm} {h h' : H} {x : AX}, acode call P GL aro n (.loop c) T h = some (x, T', h') → x ≠ .normal ∧ RoundsOk P aro c n x T T' h h' GL) := by
  intro n
  induction n with
  | zero =>
    constructor
    · intro c T T' h h' x e; cases e
    · intro c T T' h h' x e; cases e
  | succ n ih =>
    obtain ⟨ih, ihl⟩ := ih
    have loop : ∀ {c : Code} {T T' : Tm} {h h' : H} {x : AX}, acode call P GL aro (n + 1) (.loop c) T h = some (x, T', h') → x ≠ .normal ∧ RoundsOk P aro c (n + 1) x T T' h h' GL := by
      intro c T T' h h' x e
      simp only [acode] at e
      split at e
      · next T1 h1 e1 =>
        obtain ⟨l1, k1⟩ := ih e1
        obtain ⟨hx, l2, k2⟩ := ihl e
        refine ⟨hx, l1.trans l2, ?_⟩
        intro F K M g w a Q ro hR hf ha hr hG hT hn
        have hf1 := l2.fp.trans hf
        rw [roundsIn_succ]
        refine k1 hR hf1 ha hr hG hT ?_
        intro a1 M1 w1 p1 ht1
        exact k2 (hR.next (fun _ h => .inl h) p1.keep) hf (ha.next l1 hf1) p1.rep (hG.next (fun _ h => .inl h) p1.keep) ht1 (hn.next l1 l2 hf ha p1)
      · next id T1 h1 e1 =>
        simp only [Option.some.injEq, Prod.mk.injEq] at e
        obtain ⟨rfl, rfl, rfl⟩ := e
        obtain ⟨l1, k1⟩ := ih e1
        refine ⟨by simp, l1, ?_⟩
        intro F K M g w a Q ro hR hf ha hr hG hT hn
        rw [roundsIn_succ]
        exact k1 hR hf ha hr hG hT hn
      · next T1 h1 e1 =>
        simp only [Option.some.injEq, Prod.mk.injEq] at e
        obtain ⟨rfl, rfl, rfl⟩ := e
        obtain ⟨l1, k1⟩ := ih e1
        refine ⟨by simp, l1, ?_⟩
        intro F K M g w a Q ro hR hf ha hr hG hT hn
        rw [roundsIn_succ]
        exact k1 hR hf ha hr hG hT hn
      · cases e
    refine ⟨?_, loop⟩
    intro c T T' h h' x e
    cases c with
    | skip =>
      simp only [acode, Option.some.injEq, Prod.mk.injEq] at e
      obtain ⟨rfl, rfl, rfl⟩ := e
      refine ⟨Le.refl _, ?_⟩
      intro F K M g w a Q ro hR hf ha hr hG hT hn
      exact wpIn_skip (hn a M w (Post.same ha hr h rfl rfl fun _ => rfl) (fun m hm => hT m (by rwa [Kn_self] at hm)))
    | label l =>
      simp only [acode, Option.some.injEq, Prod.mk.injEq] at e
      obtain ⟨rfl, rfl, rfl⟩ := e
      refine ⟨Le.refl _, ?_⟩
      intro F K M g w a Q ro hR hf ha hr hG hT hn
      exact wpIn_label (hn a M w (Post.same ha hr h rfl rfl fun _ => rfl) (fun m hm => hT m (by rwa [Kn_self] at hm)))
    | region id ops draw =>
      simp only [acode] at e
      split at e
      case h_2 => cases e
      next T1 h1 er =>
      simp only [Option.some.injEq, Prod.mk.injEq] at e
      obtain ⟨rfl, rfl, rfl⟩ := e
      cases draw with
      | true =>
        simp only at er
        refine ⟨adraw_le hN hC er, ?_⟩
        intro F K M g w a Q ro hR hf ha hr hG hT hn
        exact adraw_sound hN hC hmix er hf ha hr hG (fun m hm => (hT m hm).1) rfl (hn.flat (adraw_ms er) hT)
      | false =>
        simp only at er
        obtain ⟨l1, k1⟩ := aseq_sound hN hC ops.toList er
        refine ⟨l1, ?_⟩
        intro F K M g w a Q ro hR hf ha hr hG hT hn
        exact wpIn_region_list (k1 hf ha hr hG (fun m hm => (hT m hm).1) rfl (hn.flat (aseq_ms _ er) hT))
    | seq c1 c2 =>
      simp only [acode] at e
      split at e
      · next T1 h1 e1 =>
        obtain ⟨l1, k1⟩ := ih e1
        obtain ⟨l2, k2⟩ := ih e
        refine ⟨l1.trans l2, ?_⟩
        intro F K M g w a Q ro hR hf ha hr hG hT hn
        have hf1 := l2.fp.trans hf
        refine wpIn_seq (k1 hR hf1 ha hr hG hT ?_)
        intro a1 M1 w1 p1 ht1
        exact k2 (hR.next (fun _ h => .inl h) p1.keep) hf (ha.next l1 hf1) p1.rep (hG.next (fun _ h => .inl h) p1.keep) ht1 (hn.next l1 l2 hf ha p1)
      · next id T1 h1 e1 =>
        simp only [Option.some.injEq, Prod.mk.injEq] at e
        obtain ⟨rfl, rfl, rfl⟩ := e
        obtain ⟨l1, k1⟩ := ih e1
        exact ⟨l1, fun hR hf ha hr hG hT hn => wpIn_seq (k1 hR hf ha hr hG hT hn)⟩
      · next T1 h1 e1 =>
        simp only [Option.some.injEq, Prod.mk.injEq] at e
        obtain ⟨rfl, rfl, rfl⟩ := e
        obtain ⟨l1, k1⟩ := ih e1
        exact ⟨l1, fun hR hf ha hr hG hT hn => wpIn_seq (k1 hR hf ha hr hG hT hn)⟩
      · cases e
    | cond c c1 c2 =>
      simp only [acode] at e
      have ev : ∀ {t : Bool} {M : Mp} {a : Act}, aeval T c = .bool t → TR M T a.tmps → a.eval c = .bool t := by
        intro t M a ht hT
        cases c with
        | tmp i => have := hT.2 i; simp only [aeval] at ht; rw [ht] at this; simpa [Act.eval, ren] using this
        | const v => exact ht
        | global g => cases ht
        | func f => cases ht
      split at e
      · next ht =>
        obtain ⟨l1, k1⟩ := ih e
        refine ⟨l1, ?_⟩
        intro F K M g w a Q ro hR hf ha hr hG hT hn
        exact wpIn_cond_true (ev ht (hT M Cl.refl).1) (k1 hR hf ha hr hG hT hn)
      · next ht =>
        obtain ⟨l1, k1⟩ := ih e
        refine ⟨l1, ?_⟩
        intro F K M g w a Q ro hR hf ha hr hG hT hn
        exact wpIn_cond_false (ev ht (hT M Cl.refl).1) (k1 hR hf ha hr hG hT hn)
      · cases e
    | block id c =>
      simp only [acode] at e
      split at e
      · next id' T1 h1 e1 =>
        obtain ⟨l1, k1⟩ := ih e1
        cases hid : Nat.beq id' id
        · rw [hid] at e
          simp only [cond_false, Option.some.injEq, Prod.mk.injEq] at e
          obtain ⟨rfl, rfl, rfl⟩ := e
          have hne : id' ≠ id := fun h => by rw [h] at hid; simp at hid
          refine ⟨l1, ?_⟩
          intro F K M g w a Q ro hR hf ha hr hG hT hn
          refine wpIn_block (k1 hR hf ha hr hG hT ?_)
          intro a1 M1 w1 p1 ht1
          change (if id' = id then Q .normal a1 w1 else Q (.exit id') a1 w1)
          rw [if_neg hne]; exact hn a1 M1 w1 p1 ht1
        · rw [hid] at e
          simp only [cond_true, Option.some.injEq, Prod.mk.injEq] at e
          obtain ⟨rfl, rfl, rfl⟩ := e
          have he := Nat.eq_of_beq_eq_true hid
          refine ⟨l1, ?_⟩
          intro F K M g w a Q ro hR hf ha hr hG hT hn
          refine wpIn_block (k1 hR hf ha hr hG hT ?_)
          intro a1 M1 w1 p1 ht1
          change (if id' = id then Q .normal a1 w1 else Q (.exit id') a1 w1)
          rw [if_pos he]; exact hn a1 M1 w1 p1 ht1
      · next T1 h1 e1 =>
        simp only [Option.some.injEq, Prod.mk.injEq] at e
        obtain ⟨rfl, rfl, rfl⟩ := e
        obtain ⟨l1, k1⟩ := ih e1
        exact ⟨l1, fun hR hf ha hr hG hT hn => wpIn_block (k1 hR hf ha hr hG hT hn)⟩
      · next T1 h1 e1 =>
        simp only [Option.some.injEq, Prod.mk.injEq] at e
        obtain ⟨rfl, rfl, rfl⟩ := e
        obtain ⟨l1, k1⟩ := ih e1
        exact ⟨l1, fun hR hf ha hr hG hT hn => wpIn_block (k1 hR hf ha hr hG hT hn)⟩
      · cases e
    | loop c =>
      obtain ⟨_, l1, k1⟩ := loop e
      exact ⟨l1, fun hR hf ha hr hG hT hn => wpIn_loop_rounds (n + 1) (k1 hR hf ha hr hG hT hn)⟩
    | exit id =>
      simp only [acode, Option.some.injEq, Prod.mk.injEq] at e
      obtain ⟨rfl, rfl, rfl⟩ := e
      refine ⟨Le.refl _, ?_⟩
      intro F K M g w a Q ro hR hf ha hr hG hT hn
      exact wpIn_exit (hn a M w (Post.same ha hr h rfl rfl fun _ => rfl) (fun m hm => hT m (by rwa [Kn_self] at hm)))
    | ret =>
      simp only [acode, Option.some.injEq, Prod.mk.injEq] at e
      obtain ⟨rfl, rfl, rfl⟩ := e
      refine ⟨Le.refl _, ?_⟩
      intro F K M g w a Q ro hR hf ha hr hG hT hn
      exact wpIn_ret (hn a M w (Post.same ha hr h rfl rfl fun _ => rfl) (fun m hm => hT m (by rwa [Kn_self] at hm)))
    | scope c =>
      simp only [acode] at e
      obtain ⟨l1, k1⟩ := ih e
      refine ⟨l1, ?_⟩
      intro F K M g w a Q ro hR hf ha hr hG hT hn
      refine wpIn_scope (k1 hR hf ha hr hG hT ?_)
      intro a1 M1 w1 p1 ht1
      have := hn a1 M1 w1 p1 ht1
      cases x <;> exact this
    | goto l => cases e
    | refuse w => cases e
    | rangeFunc f ps a b => exact arange_sound hN hC e

/- Calls. -/
inductive NoWr : {α : Type} → Sem α → Prop
  | pure {α : Type} {a : α} : NoWr (.pure a)
  | load {α : Type} {md : Mode} {a : Addr} {k : Value → Sem α} (h : ∀ v, NoWr (k v)) : NoWr (.load md a k)
  | program {α : Type} {k : Program → Sem α} (h : ∀ p, NoWr (k p)) : NoWr (.program k)
  | halt {α : Type} {x : Halt} : NoWr (Sem.halt x : Sem α)
theorem NoWr.run {α : Type} {s : Sem α} (hs : NoWr s) {P : Program} {w w' : World} {a : α} (h : s.run P w = .ok a w') : w' = w := by
  induction hs with
  | pure => simp only [Sem.run, Result.ok.injEq] at h; exact h.2.symm
  | load _ ih =>
    simp only [Sem.run] at h
    split at h
    · exact ih _ h
    · split at h
      · exact ih _ h
      · cases h
  | program _ ih => exact ih _ h
  | halt => cases h
theorem NoWr.bnd {α β : Type} {s : Sem α} {f : α → Sem β} (hs : NoWr s) (hf : ∀ a, NoWr (f a)) : NoWr (s >>= f) := by
  induction hs with
  | pure => exact hf _
  | load _ ih => exact .load fun v => ih v
  | program _ ih => exact .program fun p => ih p
  | halt => exact .halt
theorem noWr_typeInfo (t : TypeId) : NoWr (typeInfo t) := by
  unfold Go.typeInfo
  refine NoWr.bnd (.program fun p => .pure) fun p => ?_
  split
  · exact .pure
  · exact .halt
theorem noWr_underlying (t : TypeId) : NoWr (underlying t) := by
  unfold Go.underlying
  refine NoWr.bnd (.program fun p => .pure) fun p => ?_
  split
  · exact .pure
  · exact .halt
theorem noWr_loadCellsFrom (a : Addr) : ∀ (n i : Nat) (acc : Array Value), NoWr (loadCellsFrom a i n acc)
  | 0, _, _ => .pure
  | n + 1, _, _ => NoWr.bnd (.load fun _ => .pure) fun _ => noWr_loadCellsFrom a n _ _
theorem noWr_loadVar (t : TypeId) (a : Addr) : NoWr (loadVar t a) := by
  unfold Go.loadVar
  refine NoWr.bnd ?_ fun b => ?_
  · unfold isAgg
    refine NoWr.bnd (noWr_underlying t) fun d => ?_
    split <;> exact .pure
  · split
    · exact NoWr.bnd (NoWr.bnd (noWr_typeInfo t) fun _ => .pure) fun _ => NoWr.bnd (noWr_loadCellsFrom a _ _ _) fun _ => .pure
    · exact .load fun _ => .pure
theorem noWr_asAddr (v : Value) : NoWr (asAddr v) := by
  unfold asAddr
  split
  · exact .pure
  · unfold runtimePanic
    exact NoWr.bnd (.program fun _ => .pure) fun _ => .halt
  · exact .halt
theorem noWr_mapM {α β : Type} {f : α → Sem β} (h : ∀ x, NoWr (f x)) : ∀ l : List α, NoWr (l.mapM f)
  | [] => by rw [List.mapM_nil]; exact .pure
  | x :: l => by
    rw [List.mapM_cons]
    exact NoWr.bnd (h x) fun _ => NoWr.bnd (noWr_mapM h l) fun _ => .pure
theorem noWr_results (fn : Func) (tmps : Array Value) : NoWr (results fn tmps) := by
  unfold results
  refine NoWr.bnd ?_ fun _ => .pure
  rw [Array.mapM_eq_mapM_toList]
  refine NoWr.bnd (noWr_mapM (fun x => ?_) _) fun _ => .pure
  split
  · exact .pure
  · exact NoWr.bnd (noWr_asAddr _) fun _ => noWr_loadVar _ _

noncomputable def resSem (fn : Func) (T : Tm) : Sem Value := do
  let vs ← fn.results.mapM fun
    | .tmp t => pure (T.get t)
    | .cell a t => do loadVar t (← asAddr (T.get a))
  pure (if h : vs.size = 1 then vs[0] else .tuple vs)
theorem sim_mapM {P : Program} {m : Mp} {α : Type} {f f' : α → Sem Value} (h : ∀ x, Sim P (RV m) m (f x) (f' x)) : ∀ l : List α, Sim P (fun x y => y = x.map (ren m)) m (l.mapM f) (l.mapM f')
  | [] => by rw [List.mapM_nil, List.mapM_nil]; exact .pure rfl
  | x :: l => by
    rw [List.mapM_cons, List.mapM_cons]
    refine Sim.bnd (h x) ?_
    rintro v _ rfl
    refine Sim.bnd (sim_mapM h l) ?_
    rintro vs _ rfl
    exact .pure rfl
theorem sim_results {P : Program} {m : Mp} {fn : Func} {T : Tm} {tmps : Array Value} (ht : TR m T tmps) : Sim P (RV m) m (resSem fn T) (results fn tmps) := by
  unfold resSem results
  refine Sim.bnd (R := fun x y => y = renR m x) ?_ ?_
  · rw [Array.mapM_eq_mapM_toList, Array.mapM_eq_mapM_toList]
    refine Sim.bnd (sim_mapM (fun x => ?_) _) ?_
    · cases x with
      | tmp t => exact .pure (ht.2 t)
      | cell a t =>
        simp only
        rw [ht.2 a]
        refine Sim.bnd (sim_asAddr _) ?_
        rintro a _ rfl
        exact sim_loadVar _ _
    · rintro x _ rfl
      exact .pure (by simp [renR_map])
  · rintro vs _ rfl
    refine .pure ?_
    by_cases h1 : vs.size = 1
    · have h2 : (renR m vs).size = 1 := by rw [ren_size]; exact h1
      rw [dif_pos h1, dif_pos h2]
      simp only [RV, renR_map, Array.getElem_map]
    · have h2 : ¬ (renR m vs).size = 1 := by rw [ren_size]; exact h1
      rw [dif_neg h1, dif_neg h2]
      exact (ren_tuple vs).symm

noncomputable def ofArgs : Nat → List Value → Tr Value → Tr Value
  | _, [], t => t
  | i, v :: l, t => ofArgs (i + 1) l (t.set (i + 1) i (some v))
theorem ofArgs_get : ∀ (l : List Value) (i : Nat) (t : Tr Value) (k : Nat), (ofArgs i l t).get k = if i ≤ k ∧ k < i + l.length then l[k - i]? else t.get k
  | [], i, t, k => by simp only [ofArgs, List.length_nil]; rw [if_neg (by omega)]
  | v :: l, i, t, k => by
    simp only [ofArgs, List.length_cons]
    rw [ofArgs_get l (i + 1)]
    by_cases h1 : i + 1 ≤ k ∧ k < i + 1 + l.length
    · rw [if_pos h1, if_pos (by omega), show k - i = (k - (i + 1)) + 1 by omega, List.getElem?_cons_succ]
    · rw [if_neg h1]
      by_cases h2 : k = i
      · subst h2
        rw [if_pos (by omega), Nat.sub_self, List.getElem?_cons_zero, Tr.get_set _ _ _ _ (by omega)]
      · rw [if_neg (by omega), Tr.get_set_ne _ _ _ _ _ h2]
noncomputable def startT (fn : Func) (args : Array Value) : Tm := { t := ofArgs 0 args.toList .leaf, n := args.size + (fn.ntmps - args.size), ms := [] }
theorem startT_ok {m : Mp} {fn : Func} {args args' : Array Value} (h : args' = renR m args) : TR m (startT fn args) (args' ++ Array.replicate (fn.ntmps - args'.size) undef) := by
  subst h
  refine ⟨by simp [startT, ren_size], fun t => ?_⟩
  unfold Tm.get startT
  simp only
  rw [ofArgs_get, Array.getD_eq_getD_getElem?]
  simp only [Nat.zero_le, true_and, Nat.zero_add, Nat.sub_zero, Array.length_toList, Array.getElem?_toList]
  by_cases ht : t < args.size
  · rw [if_pos ht, Array.getElem?_append_left (by rw [ren_size]; exact ht), renR_get]
    rw [Array.getElem?_eq_getElem ht]; rfl
  · rw [if_neg ht, Array.getElem?_append_right (by rw [ren_size]; omega)]
    rw [Tr.get, Tr.getP_leaf, Option.getD_none, ren_undef, Array.getElem?_replicate]
    split <;> rfl

noncomputable def rowT (l : List Value) : Tm := { t := ofArgs 0 l .leaf, n := l.length, ms := [] }
theorem rowT_ok {m : Mp} {l tmps' : Array Value} (h : tmps' = renR m l) : TR m (rowT l.toList) tmps' := by
  subst h
  refine ⟨by simp [rowT, ren_size], fun t => ?_⟩
  unfold Tm.get rowT
  simp only
  rw [ofArgs_get, Array.getD_eq_getD_getElem?]
  simp only [Nat.zero_le, true_and, Nat.zero_add, Nat.sub_zero, Array.length_toList, Array.getElem?_toList]
  by_cases ht : t < l.size
  · rw [if_pos ht, renR_get]
    rw [Array.getElem?_eq_getElem ht]; rfl
  · rw [if_neg ht, Tr.get, Tr.getP_leaf, Option.getD_none, ren_undef, Array.getElem?_eq_none (by rw [ren_size]; omega)]
    rfl

/-- The record of a loop is turned. -/
theorem turnL {F : Nat} {K : Nat → Prop} {M : Mp} {g : Nat → Option Blk} {h : H} {w : World} {l : Nat} {r : Loop} (ha : Agree F K g h) (hF : F.testBit l = true) (hr : Rep K M g w) (hg : h.get l = some (.obj (.loop r))) (st : LoopState) (pe : Option Code) :
    w.heap[(M l).b]? = some (.loop { r with fn := (M r.fn).s, tmps := renR M r.tmps, defers := (M r.defers).b }) ∧
    Post h (h.put l (some (.obj (.loop { r with state := st, pending := pe })))) K M g w M (w.putObj (M l).b (.loop { r with state := st, pending := pe, fn := (M r.fn).s, tmps := renR M r.tmps, defers := (M r.defers).b })) := by
  have hgl : g l = some (.obj (.loop r)) := (ha.eq l hF).trans hg
  have hrec := (hr.blk l _ hgl M Cl.refl).1
  simp only [renO] at hrec
  have hlt : (M l).b < w.heap.size := (Array.getElem?_eq_some_iff.1 hrec).1
  refine ⟨hrec, Post.turn ha hF hr hgl (by simp) (fun k hk => World.putObj_heap_other hk) (fun m hm => ⟨?_, rfl⟩) ⟨rfl, rfl, rfl⟩⟩
  rw [World.putObj_heap_same hlt]
  have hrm := (hr.blk l _ hgl m hm).1
  simp only [renO] at hrm
  rw [hrec] at hrm
  simp only [Option.some.injEq, Obj.loop.injEq, Loop.mk.injEq] at hrm
  simp only [renO, Option.some.injEq, Obj.loop.injEq, Loop.mk.injEq, true_and]
  exact ⟨hrm.2.2.1, hrm.2.2.2.1, hrm.2.2.2.2.2.2.2⟩

/-- The marks among the deferred calls are come to. -/
noncomputable def takeAll : List Nat → H → Option H
  | [], h => some h
  | d :: ds, h => match h.get d with
    | some (.obj (.deferred (some []))) => takeAll ds (h.put d (some (.obj (.deferred none))))
    | _ => none
theorem takeAll_sound {P : Program} : ∀ (ds : List Nat) {h h' : H}, takeAll ds h = some h' → Le h h' ∧ ∀ {F : Nat} {K : Nat → Prop} {M : Mp} {g : Nat → Option Blk} {w : World} {fn : Func} {tmps : Array Value} {R : Ending → World → Prop},
    Sub h'.fp F → Agree F K g h → Rep K M g w → (∀ w', Post h h' K M g w M w' → ∃ v, (results fn tmps).run P w' = .ok v w' ∧ R (.returned v) w') → LeavesInM Fence.wide 0 P fn tmps R (ds.map (markOf M)) .returning w
  | [], h, h', e => by
    simp only [takeAll, Option.some.injEq] at e
    subst e
    refine ⟨Le.refl _, ?_⟩
    intro F K M g w fn tmps R hf ha hr hn
    exact hn w (Post.same ha hr h rfl rfl fun _ => rfl)
  | d :: ds, h, h', e => by
    simp only [takeAll] at e
    split at e
    case h_2 => cases e
    next hg =>
    have l1 := Le.put h d (some (.obj (.deferred none))) ⟨_, hg⟩
    obtain ⟨l2, k2⟩ := takeAll_sound ds e
    refine ⟨l1.trans l2, ?_⟩
    intro F K M g w fn tmps R hf ha hr hn
    have hf1 := l2.fp.trans hf
    have hF : F.testBit d = true := hf1 _ (by simp [H.put, bit_test])
    have hgl : g d = some (.obj (.deferred (some []))) := (ha.eq d hF).trans hg
    have hrec := (hr.blk d _ hgl M Cl.refl).1
    simp only [renO] at hrec
    have hlt : (M d).b < w.heap.size := (Array.getElem?_eq_some_iff.1 hrec).1
    have p1 := Post.turn (w' := w.putObj (M d).b (.deferred none)) (y := .obj (.deferred none)) ha hF hr hgl (by simp) (fun k hk => World.putObj_heap_other hk) (fun m hm => ⟨by rw [World.putObj_heap_same hlt]; rfl, rfl⟩) ⟨rfl, rfl, rfl⟩
    refine ⟨by simp, .inl ⟨(M d).b, _, rfl, run_takeDeferred hrec, ?_⟩⟩
    exact k2 hf (ha.next l1 hf1) p1.rep fun w' p2 => hn w' (Post.trans ha hf1 l1 l2 p1 p2)

def FUEL : Nat := 1000000
noncomputable def around (call : ACall) (P : Program) (GL : Nat → Bool) (args : Array Value) (h : H) : Option (Value × H) :=
  match args with
  | ⟨[.func (.yield l) _ _, .tuple tmps]⟩ => match h.get l with
    | some (.obj (.loop r)) => match acode call P GL (some l) FUEL r.assign (rowT tmps.toList) (h.rd l) with
      | some (.normal, T1, h1) => match h1.get l with
        | some (.obj (.loop r1)) => match r1.state with
          | .ready => match acode call P GL (some l) FUEL r.body T1 (h1.put l (some (.obj (.loop { r1 with state := .busy })))) with
            | some (x, _, h2) => match h2.get l with
              | some (.obj (.loop r2)) => some (.bool x.jump.isNone, h2.put l (some (.obj (.loop { r2 with state := bif x.jump.isNone then .ready else .done, pending := x.jump }))))
              | _ => none
            | none => none
          | _ => none
        | _ => none
      | _ => none
    | _ => none
  | _ => none
theorem around_sound {P : Program} {GL : Nat → Bool} (hN : ∀ (g : Nat) (fn : Func), P.funcs[g]? = some fn → (fn.name == "runtime.NumGoroutine") = false) (hmix : P.follows .mixedOrders = true) {call : ACall} (hC : CallSound P GL call)
    {args : Array Value} {h h' : H} {v : Value} (e : around call P GL args h = some (v, h')) : Le h h' ∧
      ∀ F K M g w l r tmps tmps', args = ⟨[.func (.yield l) ⟨[]⟩ ⟨[]⟩, .tuple tmps]⟩ → h.get l = some (.obj (.loop r)) → Sub h'.fp F → Agree F K g h → Rep K M g w → GOk GL K M →
      (∀ m, Cl K M m → tmps' = renR m tmps) → RoundIn Fence.wide 0 P (M l).b (M r.fn).s tmps' r.assign r.body w (Came h h' K M g w v) := by
  unfold around at e
  split at e
  case h_2 => cases e
  next l fi ca tmps =>
  split at e
  case h_2 => cases e
  next r hg =>
  split at e
  case h_2 => cases e
  next T1 h1 e1 =>
  split at e
  case h_2 => cases e
  next r1 hg1 =>
  split at e
  case h_2 => cases e
  next hst =>
  split at e
  case h_2 => cases e
  next x T2 h2 e2 =>
  split at e
  case h_2 => cases e
  next r2 hg2 =>
  simp only [Option.some.injEq, Prod.mk.injEq] at e
  obtain ⟨rfl, rfl⟩ := e
  have l0 := Le.rd h l
  obtain ⟨l1, k1⟩ := (acode_sound hN hC hmix FUEL).1 e1
  have l2 := Le.put h1 l (some (.obj (.loop { r1 with state := .busy }))) ⟨_, hg1⟩
  obtain ⟨l3, k3⟩ := (acode_sound hN hC hmix FUEL).1 e2
  have l4 := Le.put h2 l (some (.obj (.loop { r2 with state := bif x.jump.isNone then .ready else .done, pending := x.jump }))) ⟨_, hg2⟩
  refine ⟨(((l0.trans l1).trans l2).trans l3).trans l4, ?_⟩
  intro F K M g w l' r' tmps0 tmps' ha' hg' hf ha hr hG hargs
  simp only [Array.mk.injEq, List.cons.injEq, Value.func.injEq, Fn.yield.injEq, Value.tuple.injEq, and_true] at ha'
  obtain ⟨⟨rfl, _, _⟩, rfl⟩ := ha'
  rw [hg] at hg'
  simp only [Option.some.injEq, Blk.obj.injEq, Obj.loop.injEq] at hg'
  subst hg'
  have hf3 := l4.fp.trans hf
  have hf2 := l3.fp.trans hf3
  have hf1 := l2.fp.trans hf2
  have hf0 := l1.fp.trans hf1
  have hF : F.testBit l = true := hf0 _ (by simp [H.rd, bit_test])
  have hKl : K l := hr.known l _ ((ha.eq l hF).trans hg)
  have p0 := Post.same ha hr (h.rd l) rfl rfl fun _ => rfl
  have keepl : ∀ {M' : Mp} {a b : Nat}, (∀ b, K b → M' b = M b) → (M' l).b = (M l).b := fun hk => by rw [hk l hKl]
  refine roundIn_of_wpIn (F := Fence.wide) trivial ?_
  change Code.wpIn (Wd (some (M l).b)) 0 P _ _ _ _
  have hK0 : ∀ b, K b → Kn K h.size (h.rd l).size b := fun b hb => .inl hb
  refine k1 (ro := some (M l).b) ⟨rfl, fun b hb => by cases hb; exact hK0 _ hKl⟩ hf1 (ha.next l0 hf0) p0.rep (hG.next hK0 p0.keep) (fun m hm => ⟨rowT_ok (hargs m (Cl.next p0.keep hm)), rfl⟩) ?_
  intro a1 M1 w1 q1 ht1
  have p1 := Post.trans ha hf0 l0 l1 p0 q1
  have l01 := l0.trans l1
  have ha1 := ha.next l01 hf1
  obtain ⟨hrec1, q2⟩ := turnL ha1 hF p1.rep hg1 .busy r1.pending
  have hM1 : (M1 l).b = (M l).b := by rw [p1.keep l hKl]
  have p2 := Post.trans ha hf1 l01 l2 p1 q2
  have l02 := l01.trans l2
  have ha2 := ha.next l02 hf2
  have hrec1' := hrec1
  rw [hM1] at hrec1'
  have hbeg := run_beginRound (P := P) hrec1' hst
  refine ⟨_, hbeg, ?_⟩
  change Code.wpIn (Wd (some (M l).b)) 0 P _ _ _ _
  have hw2 : w1.putObj (M l).b (.loop { r1 with state := .busy, fn := (M1 r1.fn).s, tmps := renR M1 r1.tmps, defers := (M1 r1.defers).b }) = w1.putObj (M1 l).b (.loop { r1 with state := .busy, pending := r1.pending, fn := (M1 r1.fn).s, tmps := renR M1 r1.tmps, defers := (M1 r1.defers).b }) := by rw [hM1]
  rw [hw2]
  refine k3 (ro := some (M l).b) ⟨by simp only [Option.map_some]; rw [p2.keep l hKl], fun b hb => by cases hb; exact .inl hKl⟩ hf3 ha2 p2.rep (hG.next (fun _ h => .inl h) p2.keep) (fun m hm => ht1 m ?_) ?_
  · have := Cl.next (a := h1.size) (b := h1.size) (K := Kn K h.size h1.size) (M := M1) (M' := M1) (m := m) (fun _ _ => rfl) (by rw [Kn_self]; exact hm)
    rw [Kn_trans l0.size l1.size]; exact this
  intro a3 M3 w3 q3 ht3
  have p3 := Post.trans ha hf2 l02 l3 p2 q3
  have l03 := l02.trans l3
  have ha3 := ha.next l03 hf3
  obtain ⟨hrec3, q4⟩ := turnL ha3 hF p3.rep hg2 (bif x.jump.isNone then .ready else .done) x.jump
  have hM3 : (M3 l).b = (M l).b := by rw [p3.keep l hKl]
  have p4 := Post.trans ha hf3 l03 l4 p3 q4
  have fin : ∃ v w', (Instr.endRound (M l).b x.jump).run P w3 = .ok v w' ∧ Came h (h2.put l (some (.obj (.loop { r2 with state := bif x.jump.isNone then .ready else .done, pending := x.jump })))) K M g w (.bool x.jump.isNone) (.returned v) w' := by
    have hend := run_endRound (P := P) x.jump hrec3
    rw [hM3] at hend p4
    refine ⟨_, _, hend, _, M3, rfl, ?_, fun m hm => by simp [ren]⟩
    have : (if x.jump.isNone = true then LoopState.ready else .done) = bif x.jump.isNone then LoopState.ready else .done := by cases x.jump.isNone <;> rfl
    rw [this]
    exact p4
  cases x <;> exact fin

noncomputable def acall1 (P : Program) (GL : Nat → Bool) (call : ACall) : ACall := fun f args h =>
  bif Nat.beq f YF then around call P GL args h else
    match P.funcs[f]? with
    | some fn => match fn.body with
      | some c => match acode call P GL none FUEL c (startT fn args) h with
        | some (.normal, T', h') => match takeAll T'.ms h' with
          | some h2 => arun P (resSem fn T') h2
          | none => none
        | some (.ret, T', h') => match takeAll T'.ms h' with
          | some h2 => arun P (resSem fn T') h2
          | none => none
        | _ => none
      | none => none
    | none => none

theorem acall1_sound {P : Program} {GL : Nat → Bool} (hN : ∀ (g : Nat) (fn : Func), P.funcs[g]? = some fn → (fn.name == "runtime.NumGoroutine") = false) (hmix : P.follows .mixedOrders = true) {call : ACall} (hC : CallSound P GL call) : CallSound P GL (acall1 P GL call) := by
    intro f args h v h' e
    simp only [acall1] at e
    rcases hb : Nat.beq f YF with _ | _
    · rw [hb] at e
      have hne : f ≠ YF := fun h => by rw [h] at hb; cases hb
      simp only [cond_false] at e
      split at e
      case h_2 => cases e
      next fn hfn =>
      split at e
      case h_2 => cases e
      next c hbd =>
      have key : ∀ (x : AX) (T' : Tm) (h1 h2 : H), (x = .normal ∨ x = .ret) → acode call P GL none FUEL c (startT fn args) h = some (x, T', h1) → takeAll T'.ms h1 = some h2 → arun P (resSem fn T') h2 = some (v, h') →
          Le h h' ∧ ∀ F K M g w args', Sub h'.fp F → Agree F K g h → Rep K M g w → GOk GL K M → (∀ m, Cl K M m → args' = renR m args) → Calls P f args' w (Came h h' K M g w v) := by
        intro x T' h1 h2 hx e1 e3 e2
        obtain ⟨l1, k1⟩ := (acode_sound hN hC hmix FUEL).1 e1
        obtain ⟨l3, k3⟩ := takeAll_sound (P := P) _ e3
        have l2 := arun_le _ e2
        refine ⟨(l1.trans l3).trans l2, ?_⟩
        intro F K M g w args' hf ha hr hG hargs
        have hf2 := l2.fp.trans hf
        have hf1 := l3.fp.trans hf2
        refine callsIn_wide (n := 0).1 (callsIn_of_wp_marks hfn hbd trivial ?_)
        change Code.wpIn (Wd none) 0 P _ _ _ _
        refine k1 (ro := none) ⟨rfl, fun l hl => by cases hl⟩ hf1 ha hr hG (fun m hm => ⟨startT_ok (hargs m hm), rfl⟩) ?_
        intro a1 M1 w1 p1 ht1
        have fin : LeavesInM Fence.wide 0 P fn a1.tmps (Came h h' K M g w v) a1.defers .returning w1 := by
          rw [(ht1 M1 Cl.refl).2]
          refine k3 hf2 (ha.next l1 hf1) p1.rep fun w2 p2 => ?_
          have p12 := Post.trans ha hf1 l1 l3 p1 p2
          obtain ⟨v', M2, w3, r1, p3, r3⟩ := arun_sound (R := fun m => RV m) (resSem fn T') (s' := results fn a1.tmps) e2 hf (ha.next (l1.trans l3) hf2) p12.rep (fun m hm => sim_results (ht1 m (by
            have := Cl.next (K := Kn K h.size h1.size) (a := h1.size) (b := h2.size) (M := M1) (M' := M1) (m := m) (fun _ _ => rfl) (by rw [Kn_trans l1.size l3.size]; exact hm)
            exact this)).1)
          have hw := (noWr_results fn a1.tmps).run r1
          subst hw
          exact ⟨v', r1, v', M2, rfl, Post.trans ha hf2 (l1.trans l3) l2 p12 p3, fun m hm => r3 m (by rw [Kn_trans (l1.trans l3).size l2.size]; exact hm)⟩
        rcases hx with rfl | rfl <;> exact fin
      have done : ∀ {L : Le h h' ∧ ∀ F K M g w args', Sub h'.fp F → Agree F K g h → Rep K M g w → GOk GL K M → (∀ m, Cl K M m → args' = renR m args) → Calls P f args' w (Came h h' K M g w v)}, Le h h' ∧
          (f ≠ YF → ∀ F K M g w args', Sub h'.fp F → Agree F K g h → Rep K M g w → GOk GL K M → (∀ m, Cl K M m → args' = renR m args) → Calls P f args' w (Came h h' K M g w v)) ∧
          (f = YF → ∀ F K M g w l r tmps tmps', args = ⟨[.func (.yield l) ⟨[]⟩ ⟨[]⟩, .tuple tmps]⟩ → h.get l = some (.obj (.loop r)) → Sub h'.fp F → Agree F K g h → Rep K M g w → GOk GL K M →
            (∀ m, Cl K M m → tmps' = renR m tmps) → RoundIn Fence.wide 0 P (M l).b (M r.fn).s tmps' r.assign r.body w (Came h h' K M g w v)) := fun {L} => ⟨L.1, fun _ => L.2, fun h => absurd h hne⟩
      split at e
      · next T' h1 e1 =>
        split at e
        case h_2 => cases e
        next h2 e3 => exact done (L := key _ T' h1 h2 (.inl rfl) e1 e3 e)
      · next T' h1 e1 =>
        split at e
        case h_2 => cases e
        next h2 e3 => exact done (L := key _ T' h1 h2 (.inr rfl) e1 e3 e)
      · cases e
    · rw [hb] at e
      have he := Nat.eq_of_beq_eq_true hb
      obtain ⟨l1, k1⟩ := around_sound hN hmix hC e
      exact ⟨l1, fun h => absurd he h, fun _ => k1⟩
end Go.Proofs.YtipceoeihiaieaaDoor.Ev
