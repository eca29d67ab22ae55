/- Code and calls as closures, made once each: the same, in fewer steps. -/
import Derived.Test.YtipceoeihiaieaaDoorEv15
namespace Go.Proofs.YtipceoeihiaieaaDoor.Ev
open Go
open ren (renR renL)
open plain (plainR plainL)

structure SClo where
  run : ACall → Tm → H → Option (Value × H)
structure QClo where
  run : ACall → Tm → H → Option (Tm × H)
structure RClo where
  run : ACall → Tm → H → Option (List (Value × H) × Tm)
structure CClo where
  run : ACall → Option Nat → Nat → Tm → H → Option (AX × Tm × H)
structure FClo where
  run : ACall → Array Value → H → Option (Value × H)
structure VClo where
  run : Tm → H → Option (Value × H)

section
variable (P : Program) (GL : Nat → Bool) (ops : Array Oper)

noncomputable def stepC (o : Oper) : SClo :=
  match o.guard with
  | none => ⟨fun call T h => match (cop P GL o).run (aeval T) h with
    | some (.value v, h') => some (v, h')
    | some (.skip, h') => some (undef, h')
    | some (.enter f args, h') => bif Nat.beq f YF then none else call f args h'
    | some (.round l _ tmps _ _, h') => call YF ⟨[.func (.yield l) ⟨[]⟩ ⟨[]⟩, .tuple ⟨tmps⟩]⟩ h'
    | none => none⟩
  | some _ => ⟨fun call T h => astep call P GL ops o T h⟩
theorem stepC_eq (o : Oper) (call : ACall) (T : Tm) (h : H) : (stepC P GL ops o).run call T h = astep call P GL ops o T h := by
  unfold stepC
  split
  · next hg =>
    unfold astep awanted
    rw [hg]
    rfl
  · rfl

noncomputable def seqC (l : List Oper) : QClo :=
  @List.rec Oper (fun _ => QClo) ⟨fun _ T h => some (T, h)⟩ (fun o _ ih => ⟨fun call T h => match (stepC P GL ops o).run call T h with
    | some (v, h') => ih.run call (T.put o.dst v) h'
    | none => none⟩) l
theorem seqC_eq (call : ACall) : ∀ (l : List Oper) (T : Tm) (h : H), (seqC P GL ops l).run call T h = aseq call P GL ops l T h
  | [], _, _ => rfl
  | o :: l, T, h => by
    simp only [aseq, ← stepC_eq]
    change (match (stepC P GL ops o).run call T h with
      | some (v, h') => (seqC P GL ops l).run call (T.put o.dst v) h'
      | none => none) = _
    cases (stepC P GL ops o).run call T h with
    | none => rfl
    | some x => exact seqC_eq call l _ _

noncomputable def rsC (l : List Oper) : RClo :=
  @List.rec Oper (fun _ => RClo) ⟨fun _ T _ => some ([], T)⟩ (fun o _ ih => ⟨fun call T h => match (stepC P GL ops o).run call T h.clear with
    | some (v, h1) => match ih.run call (T.put o.dst v) h1 with
      | some (r, T') => some ((v, h1) :: r, T')
      | none => none
    | none => none⟩) l
theorem rsC_eq (call : ACall) : ∀ (l : List Oper) (T : Tm) (h : H), (rsC P GL ops l).run call T h = runSeq call P GL ops l T h
  | [], _, _ => rfl
  | o :: l, T, h => by
    simp only [runSeq, ← stepC_eq]
    change (match (stepC P GL ops o).run call T h.clear with
      | some (v, h1) => match (rsC P GL ops l).run call (T.put o.dst v) h1 with
        | some (r, T') => some ((v, h1) :: r, T')
        | none => none
      | none => none) = _
    cases (stepC P GL ops o).run call T h.clear with
    | none => rfl
    | some x => simp only [rsC_eq call l]; cases runSeq call P GL ops l (T.put o.dst x.1) x.2 <;> rfl

/- The look at a region's order: what hangs on the text alone, what on the run. -/
def dt0 : List Oper → List Nat → List Dt
  | o :: l, b :: bs => { bf := b, lk := maskOf (o.looksAt ops), d := maskOf o.dst.toList, fp := 0, wr := 0 } :: dt0 l bs
  | _, _ => []
noncomputable def dynOk : List Nat → List (Value × H) → Nat → List (Nat × Nat × Nat) → Bool
  | b :: bs, x :: r, j, acc => bif Nat.beq x.2.fp 0 && Nat.beq x.2.wr 0 then dynOk bs r (j + 1) acc
    else acc.all (fun p => b.testBit p.1 || (Nat.beq (Nat.land p.2.2 x.2.fp) 0 && Nat.beq (Nat.land x.2.wr p.2.1) 0)) && dynOk bs r (j + 1) ((j, x.2.fp, x.2.wr) :: acc)
  | _, _, _, _ => true
theorem dynOk_spec : ∀ (bs : List Nat) (r : List (Value × H)) (j : Nat) (acc : List (Nat × Nat × Nat)), dynOk bs r j acc = true →
    (∀ p ∈ acc, ∀ (k b : Nat) (x : Value × H), bs[k]? = some b → r[k]? = some x → b.testBit p.1 = true ∨ (Nat.beq (Nat.land p.2.2 x.2.fp) 0 = true ∧ Nat.beq (Nat.land x.2.wr p.2.1) 0 = true)) ∧
    ∀ (i k b : Nat) (x y : Value × H), i < k → r[i]? = some x → bs[k]? = some b → r[k]? = some y → b.testBit (j + i) = true ∨ (Nat.beq (Nat.land x.2.wr y.2.fp) 0 = true ∧ Nat.beq (Nat.land y.2.wr x.2.fp) 0 = true)
  | [], _, _, _, _ => ⟨fun p _ k b x h => by simp at h, fun i k b x y _ _ h => by simp at h⟩
  | _ :: _, [], _, _, _ => ⟨fun p _ k b x _ h => by simp at h, fun i k b x y _ h => by simp at h⟩
  | b0 :: bs, x0 :: r, j, acc, h => by
    have zl : ∀ a, Nat.beq (Nat.land 0 a) 0 = true := fun a => by rw [show Nat.land 0 a = 0 from Nat.zero_and a]; rfl
    have zr : ∀ a, Nat.beq (Nat.land a 0) 0 = true := fun a => by rw [show Nat.land a 0 = 0 from Nat.and_zero a]; rfl
    simp only [dynOk] at h
    cases hq : (Nat.beq x0.2.fp 0 && Nat.beq x0.2.wr 0)
    · rw [hq] at h
      simp only [cond_false, Bool.and_eq_true, List.all_eq_true, Bool.or_eq_true] at h
      obtain ⟨h1, h2⟩ := h
      obtain ⟨a1, a2⟩ := dynOk_spec bs r (j + 1) _ h2
      refine ⟨fun p hp k b x hb hx => ?_, fun i k b x y hik hx hb hy => ?_⟩
      · cases k with
        | zero =>
          simp only [List.getElem?_cons_zero, Option.some.injEq] at hb hx
          subst hb hx
          exact h1 p hp
        | succ k =>
          simp only [List.getElem?_cons_succ] at hb hx
          exact a1 p (List.mem_cons_of_mem _ hp) k b x hb hx
      · cases k with
        | zero => omega
        | succ k =>
          simp only [List.getElem?_cons_succ] at hb hy
          cases i with
          | zero =>
            simp only [List.getElem?_cons_zero, Option.some.injEq] at hx
            subst hx
            exact a1 (j, x0.2.fp, x0.2.wr) List.mem_cons_self k b y hb hy
          | succ i =>
            simp only [List.getElem?_cons_succ] at hx
            have := a2 i k b x y (by omega) hx hb hy
            rwa [show j + 1 + i = j + (i + 1) by omega] at this
    · rw [hq] at h
      simp only [cond_true] at h
      simp only [Bool.and_eq_true, Nat.beq_eq] at hq
      obtain ⟨a1, a2⟩ := dynOk_spec bs r (j + 1) _ h
      refine ⟨fun p hp k b x hb hx => ?_, fun i k b x y hik hx hb hy => ?_⟩
      · cases k with
        | zero =>
          simp only [List.getElem?_cons_zero, Option.some.injEq] at hb hx
          subst hb hx
          right
          rw [hq.1, hq.2]
          exact ⟨zr _, zl _⟩
        | succ k =>
          simp only [List.getElem?_cons_succ] at hb hx
          exact a1 p hp k b x hb hx
      · cases k with
        | zero => omega
        | succ k =>
          simp only [List.getElem?_cons_succ] at hb hy
          cases i with
          | zero =>
            simp only [List.getElem?_cons_zero, Option.some.injEq] at hx
            subst hx
            right
            rw [hq.1, hq.2]
            exact ⟨zl _, zr _⟩
          | succ i =>
            simp only [List.getElem?_cons_succ] at hx
            have := a2 i k b x y (by omega) hx hb hy
            rwa [show j + 1 + i = j + (i + 1) by omega] at this
theorem chkOne_of {x : Dt} {i : Nat} : ∀ {l : List Dt}, (∀ y ∈ l, y.bf.testBit i = true ∨ disj x y = true) → chkOne x i l = true
  | [], _ => rfl
  | z :: l, h => by
    simp only [chkOne, Bool.and_eq_true, Bool.or_eq_true]
    exact ⟨h z List.mem_cons_self, chkOne_of fun y hy => h y (List.mem_cons_of_mem _ hy)⟩
theorem chkAll_of : ∀ {l : List Dt} {k : Nat}, (∀ (i j : Nat) (x y : Dt), i < j → l[i]? = some x → l[j]? = some y → y.bf.testBit (k + i) = true ∨ disj x y = true) → chkAll k l = true
  | [], _, _ => rfl
  | z :: l, k, h => by
    simp only [chkAll, Bool.and_eq_true]
    refine ⟨chkOne_of fun y hy => ?_, chkAll_of fun i j x y hij hx hy => ?_⟩
    · obtain ⟨j, hj⟩ := List.getElem?_of_mem hy
      exact h 0 (j + 1) z y (by omega) rfl (by simpa using hj)
    · have := h (i + 1) (j + 1) x y (by omega) (by simpa using hx) (by simpa using hy)
      rwa [show k + 1 + i = k + (i + 1) by omega]
theorem dtOf_dt0 : ∀ (l : List Oper) (bs : List Nat) (r : List (Value × H)) (k : Nat) (x : Dt), (dtOf ops l bs r)[k]? = some x →
    ∃ y b v, (dt0 ops l bs)[k]? = some y ∧ bs[k]? = some b ∧ r[k]? = some v ∧ y.bf = x.bf ∧ y.lk = x.lk ∧ y.d = x.d ∧ x.bf = b ∧ x.fp = v.2.fp ∧ x.wr = v.2.wr
  | [], _, _, _, _, h => by simp [dtOf] at h
  | _ :: _, [], _, _, _, h => by simp [dtOf] at h
  | _ :: _, _ :: _, [], _, _, h => by simp [dtOf] at h
  | o :: l, b :: bs, v :: r, k, x, h => by
    simp only [dtOf, dt0] at h ⊢
    cases k with
    | zero =>
      simp only [List.getElem?_cons_zero, Option.some.injEq] at h
      subst h
      exact ⟨_, b, v, rfl, rfl, rfl, rfl, rfl, rfl, rfl, rfl, rfl⟩
    | succ k =>
      simp only [List.getElem?_cons_succ] at h ⊢
      exact dtOf_dt0 l bs r k x h
theorem chk_split {l : List Oper} {bs : List Nat} {r : List (Value × H)} (h1 : chkAll 0 (dt0 ops l bs) = true) (h2 : dynOk bs r 0 [] = true) : chkAll 0 (dtOf ops l bs r) = true := by
  refine chkAll_of fun i j x y hij hx hy => ?_
  obtain ⟨x', bx, vx, e1, e2, e3, e4, e5, e6, e7, e8, e9⟩ := dtOf_dt0 ops l bs r i x hx
  obtain ⟨y', bY, vy, f1, f2, f3, f4, f5, f6, f7, f8, f9⟩ := dtOf_dt0 ops l bs r j y hy
  have a1 := chkAll_spec h1 i j x' y' hij e1 f1
  have a2 := (dynOk_spec bs r 0 [] h2).2 i j bY vx vy hij e3 f2 f3
  rw [f4] at a1
  rw [← f7] at a2
  rcases a1 with a1 | a1
  · exact .inl a1
  · rcases a2 with a2 | a2
    · exact .inl a2
    · right
      simp only [disj, Bool.and_eq_true] at a1 ⊢
      rw [e8, e9, f8, f9, ← e6, ← e5, ← f5, ← f6]
      exact ⟨⟨⟨a2.1, a2.2⟩, a1.1.2⟩, a1.2⟩

noncomputable def mergeC (r : List (Value × H)) : H → H :=
  @List.rec (Value × H) (fun _ => H → H) (fun h => h) (fun x _ ih h => ih { heap := x.2.heap, size := x.2.size, fp := Nat.lor h.fp x.2.fp, wr := Nat.lor h.wr x.2.wr }) r
theorem mergeC_eq : ∀ (r : List (Value × H)) (h : H), mergeC r h = merge h r
  | [], _ => rfl
  | _ :: r, _ => mergeC_eq r _
noncomputable def drawC : QClo :=
  match bfGo ops.toList [] with
  | some bs => bif chkAll 0 (dt0 ops ops.toList bs) then ⟨fun call T h => match (rsC P GL ops ops.toList).run call T h with
      | some (r, T') => bif dynOk bs r 0 [] then some (T', mergeC r h) else none
      | none => none⟩ else ⟨fun _ _ _ => none⟩
  | none => ⟨fun _ _ _ => none⟩
theorem drawC_ref {call : ACall} {T : Tm} {h : H} {x : Tm × H} (e : (drawC P GL ops).run call T h = some x) : adraw call P GL ops T h = some x := by
  unfold drawC at e
  split at e
  case h_2 => cases e
  next bs hb =>
  cases hs : chkAll 0 (dt0 ops ops.toList bs)
  · rw [hs] at e; cases e
  rw [hs] at e
  simp only [cond_true, rsC_eq] at e
  unfold adraw
  rw [hb]
  cases hr : runSeq call P GL ops ops.toList T h with
  | none => rw [hr] at e; cases e
  | some y =>
    obtain ⟨r, T'⟩ := y
    rw [hr] at e
    simp only at e ⊢
    obtain ⟨h2, e⟩ := bif_some e
    rw [chk_split ops hs h2, cond_true, ← e, mergeC_eq]
end

section
variable (P : Program) (GL : Nat → Bool)
noncomputable def codeC (c : Code) : CClo :=
  @Code.rec (fun _ => CClo)
    ⟨fun _ _ n T h => @Nat.rec (fun _ => Option (AX × Tm × H)) none (fun _ _ => some (.normal, T, h)) n⟩
    (fun _ ops draw => match draw with
      | true => ⟨fun call _ n T h => @Nat.rec (fun _ => Option (AX × Tm × H)) none (fun _ _ => match (drawC P GL ops).run call T h with
        | some (T', h') => some (.normal, T', h')
        | none => none) n⟩
      | false => ⟨fun call _ n T h => @Nat.rec (fun _ => Option (AX × Tm × H)) none (fun _ _ => match (seqC P GL ops ops.toList).run call T h with
        | some (T', h') => some (.normal, T', h')
        | none => none) n⟩)
    (fun _ _ ia ib => ⟨fun call aro n T h => @Nat.rec (fun _ => Option (AX × Tm × H)) none (fun n _ => match ia.run call aro n T h with
      | some (.normal, T1, h1) => ib.run call aro n T1 h1
      | x => x) n⟩)
    (fun c _ _ ia ib => ⟨fun call aro n T h => @Nat.rec (fun _ => Option (AX × Tm × H)) none (fun n _ => match aeval T c with
      | .bool true => ia.run call aro n T h
      | .bool false => ib.run call aro n T h
      | _ => none) n⟩)
    (fun id _ ic => ⟨fun call aro n T h => @Nat.rec (fun _ => Option (AX × Tm × H)) none (fun n _ => match ic.run call aro n T h with
      | some (.exit id', T1, h1) => bif Nat.beq id' id then some (.normal, T1, h1) else some (.exit id', T1, h1)
      | x => x) n⟩)
    (fun _ ic => ⟨fun call aro n => @Nat.rec (fun _ => Tm → H → Option (AX × Tm × H)) (fun _ _ => none) (fun n ih T h => match ic.run call aro n T h with
      | some (.normal, T1, h1) => ih T1 h1
      | x => x) n⟩)
    (fun f ps a b _ _ => ⟨fun call aro n T h => @Nat.rec (fun _ => Option (AX × Tm × H)) none (fun _ _ => arange call P GL aro f ps a b T h) n⟩)
    (fun id => ⟨fun _ _ n T h => @Nat.rec (fun _ => Option (AX × Tm × H)) none (fun _ _ => some (.exit id, T, h)) n⟩)
    (fun _ ic => ⟨fun call aro n T h => @Nat.rec (fun _ => Option (AX × Tm × H)) none (fun n _ => ic.run call aro n T h) n⟩)
    (fun _ => ⟨fun _ _ n T h => @Nat.rec (fun _ => Option (AX × Tm × H)) none (fun _ _ => some (.normal, T, h)) n⟩)
    (fun _ => ⟨fun _ _ _ _ _ => none⟩)
    (⟨fun _ _ n T h => @Nat.rec (fun _ => Option (AX × Tm × H)) none (fun _ _ => some (.ret, T, h)) n⟩)
    (fun _ => ⟨fun _ _ _ _ _ => none⟩) c
theorem codeC_ref {call : ACall} {aro : Option Nat} (c : Code) : ∀ {n : Nat} {T : Tm} {h : H} {x : AX × Tm × H}, (codeC P GL c).run call aro n T h = some x → acode call P GL aro n c T h = some x := by
  induction c with
  | skip => intro n T h x e; cases n <;> exact e
  | region id ops draw =>
    intro n T h x e
    cases n with
    | zero => cases draw <;> cases e
    | succ n =>
      cases draw with
      | true =>
        change (match (drawC P GL ops).run call T h with
          | some (T', h') => some (AX.normal, T', h')
          | none => none) = some x at e
        cases hd : (drawC P GL ops).run call T h with
        | none => rw [hd] at e; cases e
        | some y =>
          rw [hd] at e
          simp only [acode, drawC_ref P GL ops hd]
          exact e
      | false =>
        change (match (seqC P GL ops ops.toList).run call T h with
          | some (T', h') => some (AX.normal, T', h')
          | none => none) = some x at e
        rw [seqC_eq] at e
        simp only [acode]
        exact e
  | seq a b ia ib =>
    intro n T h x e
    cases n with
    | zero => cases e
    | succ n =>
      change (match (codeC P GL a).run call aro n T h with
        | some (.normal, T1, h1) => (codeC P GL b).run call aro n T1 h1
        | x => x) = some x at e
      cases ha : (codeC P GL a).run call aro n T h with
      | none => rw [ha] at e; cases e
      | some y =>
        obtain ⟨y, T1, h1⟩ := y
        rw [ha] at e
        simp only [acode, ia ha]
        cases y with
        | normal => exact ib e
        | exit id => exact e
        | ret => exact e
  | cond c a b ia ib =>
    intro n T h x e
    cases n with
    | zero => cases e
    | succ n =>
      change (match aeval T c with
        | .bool true => (codeC P GL a).run call aro n T h
        | .bool false => (codeC P GL b).run call aro n T h
        | _ => none) = some x at e
      simp only [acode]
      split at e
      · next hv => rw [hv]; exact ia e
      · next hv => rw [hv]; exact ib e
      · cases e
  | block id c ic =>
    intro n T h x e
    cases n with
    | zero => cases e
    | succ n =>
      change (match (codeC P GL c).run call aro n T h with
        | some (.exit id', T1, h1) => bif Nat.beq id' id then some (AX.normal, T1, h1) else some (.exit id', T1, h1)
        | x => x) = some x at e
      cases hc : (codeC P GL c).run call aro n T h with
      | none => rw [hc] at e; cases e
      | some y =>
        obtain ⟨y, T1, h1⟩ := y
        rw [hc] at e
        simp only [acode, ic hc]
        cases y <;> exact e
  | loop c ic =>
    intro n
    induction n with
    | zero => intro T h x e; cases e
    | succ n ih =>
      intro T h x e
      change (match (codeC P GL c).run call aro n T h with
        | some (.normal, T1, h1) => (codeC P GL (.loop c)).run call aro n T1 h1
        | x => x) = some x at e
      cases hc : (codeC P GL c).run call aro n T h with
      | none => rw [hc] at e; cases e
      | some y =>
        obtain ⟨y, T1, h1⟩ := y
        rw [hc] at e
        simp only [acode, ic hc]
        cases y with
        | normal => exact ih e
        | exit id => exact e
        | ret => exact e
  | rangeFunc f ps a b ia ib => intro n T h x e; cases n <;> exact e
  | exit id => intro n T h x e; cases n <;> exact e
  | scope c ic =>
    intro n T h x e
    cases n with
    | zero => cases e
    | succ n => simp only [acode]; exact ic e
  | label l => intro n T h x e; cases n <;> exact e
  | goto l => intro n T h x e; cases e
  | ret => intro n T h x e; cases n <;> exact e
  | refuse w => intro n T h x e; cases e

noncomputable def resL (l : List ResultVar) : Tm → H → Option (List Value × H) :=
  @List.rec ResultVar (fun _ => Tm → H → Option (List Value × H)) (fun _ h => some ([], h)) (fun r _ ih T h => match r with
    | .tmp t => match ih T h with
      | some (vs, h') => some (T.get t :: vs, h')
      | none => none
    | .cell a t => match T.get a with
      | .pointer (some ad) => match arun P (loadVar t ad) h with
        | some (v, h1) => match ih T h1 with
          | some (vs, h') => some (v :: vs, h')
          | none => none
        | none => none
      | _ => none) l
theorem arun_bnd {P : Program} {α β : Type} (s : Sem α) (f : α → Sem β) (h : H) : arun P (s >>= f) h = (arun P s h).bind fun x => arun P (f x.1) x.2 := arun_bind s f h
noncomputable def rvSem (T : Tm) : ResultVar → Sem Value
  | .tmp t => pure (T.get t)
  | .cell a t => do loadVar t (← asAddr (T.get a))
theorem resL_eq (T : Tm) : ∀ (l : List ResultVar) (h : H) (x : List Value × H), resL P l T h = some x → arun P (l.mapM (rvSem T)) h = some x
  | [], h, x, e => by rw [List.mapM_nil]; exact e
  | .tmp t :: l, h, x, e => by
    rw [List.mapM_cons, arun_bnd]
    change (match resL P l T h with
      | some (vs, h') => some (T.get t :: vs, h')
      | none => none) = some x at e
    change arun P (l.mapM (rvSem T) >>= fun vs => pure (T.get t :: vs)) h = _
    rw [arun_bnd]
    cases hl : resL P l T h with
    | none => rw [hl] at e; cases e
    | some y => rw [hl] at e; rw [resL_eq T l h y hl]; exact e
  | .cell a t :: l, h, x, e => by
    rw [List.mapM_cons, arun_bnd]
    change (match T.get a with
      | .pointer (some ad) => match arun P (loadVar t ad) h with
        | some (v, h1) => match resL P l T h1 with
          | some (vs, h') => some (v :: vs, h')
          | none => none
        | none => none
      | _ => none) = some x at e
    split at e
    case h_2 => cases e
    next ad ha =>
    have hrv : rvSem T (.cell a t) = loadVar t ad := by simp only [rvSem, ha]; rfl
    rw [hrv]
    cases hv : arun P (loadVar t ad) h with
    | none => rw [hv] at e; cases e
    | some y =>
      rw [hv] at e
      simp only [Option.bind_some]
      rw [arun_bnd]
      cases hl : resL P l T y.2 with
      | none => simp only [hl] at e; cases e
      | some z => simp only [hl] at e; rw [resL_eq T l _ z hl]; exact e
noncomputable def resC (fn : Func) : VClo :=
  match fn.results.toList with
  | [.tmp t] => ⟨fun T h => some (T.get t, h)⟩
  | l => ⟨fun T h => match resL P l T h with
    | some ([v], h') => some (v, h')
    | some (vs, h') => some (.tuple ⟨vs⟩, h')
    | none => none⟩
theorem res_fin (fn : Func) (T : Tm) (h : H) (vs : List Value) (h' : H) (e : resL P fn.results.toList T h = some (vs, h')) : arun P (resSem fn T) h = some (match vs with | [v] => v | _ => .tuple ⟨vs⟩, h') := by
  have hr : resSem fn T = ((List.toArray <$> fn.results.toList.mapM (rvSem T)) >>= fun vs => pure (if h : vs.size = 1 then vs[0] else .tuple vs)) := by
    unfold resSem
    rw [Array.mapM_eq_mapM_toList]
    rfl
  rw [hr, arun_bnd]
  have hm : arun P (List.toArray <$> fn.results.toList.mapM (rvSem T)) h = some (vs.toArray, h') := by
    change arun P ((fn.results.toList.mapM (rvSem T)) >>= fun l => pure l.toArray) h = _
    rw [arun_bnd, resL_eq P T _ h _ e]; rfl
  rw [hm]
  match vs with
  | [] => rfl
  | [v] => rfl
  | _ :: _ :: _ => rfl
theorem resC_ref (fn : Func) (T : Tm) (h : H) (x : Value × H) (e : (resC P fn).run T h = some x) : arun P (resSem fn T) h = some x := by
  unfold resC at e
  split at e
  · next t ht =>
    have : resL P fn.results.toList T h = some ([T.get t], h) := by rw [ht]; rfl
    rw [res_fin P fn T h _ _ this]
    exact e
  · simp only at e
    split at e
    · next v h' hl => rw [res_fin P fn T h _ _ hl]; exact e
    · next vs h' hne hl =>
      rw [res_fin P fn T h _ _ hl, ← e]
      match vs with
      | [] => rfl
      | [v] => exact absurd rfl (hne v)
      | _ :: _ :: _ => rfl
    · cases e

noncomputable def argsC (l : List Value) : Nat → Tr Value → Tr Value :=
  @List.rec Value (fun _ => Nat → Tr Value → Tr Value) (fun _ t => t) (fun v _ ih i t => ih (i + 1) (Tr.setP (pathOf i) (some v) t)) l
theorem argsC_eq : ∀ (l : List Value) (i : Nat) (t : Tr Value), argsC l i t = ofArgs i l t
  | [], _, _ => rfl
  | _ :: l, i, _ => argsC_eq l (i + 1) _
noncomputable def aroundC (call : ACall) (args : Array Value) (h : H) : Option (Value × H) :=
  match args with
  | ⟨[.func (.yield l) _ _, .tuple tmps]⟩ => match h.get l with
    | some (.obj (.loop r)) => match (codeC P GL r.assign).run call (some l) FUEL { t := argsC tmps.toList 0 .leaf, n := tmps.toList.length, ms := [] } (h.rd l) with
      | some (.normal, T1, h1) => match h1.get l with
        | some (.obj (.loop r1)) => match r1.state with
          | .ready => match (codeC P GL r.body).run call (some l) FUEL T1 (h1.put l (some (.obj (.loop { r1 with state := .busy })))) with
            | some (x, _, h2) => match h2.get l with
              | some (.obj (.loop r2)) => some (.bool x.jump.isNone, h2.put l (some (.obj (.loop { r2 with state := bif x.jump.isNone then .ready else .done, pending := x.jump }))))
              | _ => none
            | none => none
          | _ => none
        | _ => none
      | _ => none
    | _ => none
  | _ => none
theorem aroundC_ref {call : ACall} {args : Array Value} {h : H} {x : Value × H} (e : aroundC P GL call args h = some x) : around call P GL args h = some x := by
  unfold aroundC at e
  unfold around
  split at e
  case h_2 => cases e
  next l fi ca tmps =>
  simp only
  split at e
  case h_2 => cases e
  next r hg =>
  rw [hg]
  simp only
  split at e
  case h_2 => cases e
  next T1 h1 e1 =>
  have e1' := codeC_ref P GL _ e1
  rw [argsC_eq] at e1'
  change acode call P GL (some l) FUEL r.assign (rowT tmps.toList) (h.rd l) = _ at e1'
  rw [e1']
  simp only
  split at e
  case h_2 => cases e
  next r1 hg1 =>
  rw [hg1]
  simp only
  split at e
  case h_2 => cases e
  next hst =>
  rw [hst]
  simp only
  split at e
  case h_2 => cases e
  next x2 T2 h2 e2 =>
  rw [codeC_ref P GL _ e2]
  exact e
noncomputable def fnC (f : FuncId) : FClo :=
  bif Nat.beq f YF then ⟨aroundC P GL⟩ else
  match P.funcs[f]? with
  | some fn => match fn.body with
    | some c => ⟨fun call args h => match (codeC P GL c).run call none FUEL { t := argsC args.toList 0 .leaf, n := args.size + (fn.ntmps - args.size), ms := [] } h with
      | some (.normal, T', h') => match takeAll T'.ms h' with
        | some h2 => (resC P fn).run T' h2
        | none => none
      | some (.ret, T', h') => match takeAll T'.ms h' with
        | some h2 => (resC P fn).run T' h2
        | none => none
      | _ => none⟩
    | none => ⟨fun _ _ _ => none⟩
  | none => ⟨fun _ _ _ => none⟩
theorem fnC_ref {call : ACall} {f : FuncId} {args : Array Value} {h : H} {x : Value × H} (e : (fnC P GL f).run call args h = some x) : acall1 P GL call f args h = some x := by
  unfold fnC at e
  unfold acall1
  cases hy : Nat.beq f YF
  case true =>
    rw [hy] at e
    exact aroundC_ref P GL e
  rw [hy] at e
  simp only [cond_false] at e ⊢
  split at e
  case h_2 => cases e
  next fn hfn =>
  split at e
  case h_2 => cases e
  next c hb =>
  rw [hfn]
  simp only [hb]
  simp only at e
  have hs : startT fn args = { t := argsC args.toList 0 .leaf, n := args.size + (fn.ntmps - args.size), ms := [] } := by unfold startT; rw [argsC_eq]
  split at e
  · next T' h' hc =>
    split at e
    case h_2 => cases e
    next h2 ht => rw [hs, codeC_ref P GL c hc]; simp only [ht]; exact resC_ref P fn T' h2 x e
  · next T' h' hc =>
    split at e
    case h_2 => cases e
    next h2 ht => rw [hs, codeC_ref P GL c hc]; simp only [ht]; exact resC_ref P fn T' h2 x e
  · cases e
noncomputable def kcall (n : Nat) : ACall :=
  @Nat.rec (fun _ => ACall) (fun _ _ _ => none) (fun _ ih f args h => (fnC P GL f).run ih args h) n
theorem CallSound.mono {P : Program} {GL : Nat → Bool} {c c' : ACall} (h : CallSound P GL c') (hc : ∀ f args h x, c f args h = some x → c' f args h = some x) : CallSound P GL c :=
  fun f args hh v h' e => h f args hh v h' (hc _ _ _ _ e)
theorem kcall_sound {P : Program} {GL : Nat → Bool} (hN : ∀ (g : Nat) (fn : Func), P.funcs[g]? = some fn → (fn.name == "runtime.NumGoroutine") = false) (hmix : P.follows .mixedOrders = true) : ∀ n, CallSound P GL (kcall P GL n)
  | 0 => fun f args h v h' e => by cases e
  | n + 1 => CallSound.mono (acall1_sound hN hmix (kcall_sound hN hmix n)) fun _ _ _ _ e => fnC_ref P GL e
end
end Go.Proofs.YtipceoeihiaieaaDoor.Ev
