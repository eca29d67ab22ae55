import Derived.Test.YtjiopaojhenanaaGreatDoorWn87fee2c3
import Derived.Lib.LaidU8
import Derived.ChangeAt
namespace Go.Proofs.YtjiopaojhenanaaGreatDoor.Ev
open Go
open ren (renR renL)
open plain (plainR plainL)
structure SClo where
  run : ACall -> Tm -> H -> Option (Value × H)
structure QClo where
  run : ACall -> Tm -> H -> Option (Tm × H)
structure RClo where
  run : ACall -> Tm -> H -> Option (List (Value × H) × Tm)
structure CClo where
  run : ACall -> Option Nat -> Nat -> Tm -> H -> Option (AX × Tm × H)
structure FClo where
  run : ACall -> Array Value -> H -> Option (Value × H)
structure VClo where
  run : Tm -> H -> Option (Value × H)
section
variable (P : Program) (GL : Nat -> Bool) (ops : Array Oper)
noncomputable def stepC (o : Oper) : SClo :=
  match o.guard with
  | none => ⟨fun call T h => match (cop P GL o).run (aeval T) h with
    | some (.value v, h') => some (v, h')
    | some (.skip, h') => some (undef, h')
    | some (.enter f args, h') => bif Nat.beq f YF then none else call f args h'
    | some (.round l _ tmps _ _, h') => call YF ⟨[.func (.yield l) ⟨[]⟩ ⟨[]⟩, .tuple ⟨tmps⟩]⟩ h'
    | none => none⟩
  | some _ => ⟨fun call T h => astep call P GL ops o T h⟩
theorem stepC_eq (o : Oper) (call : ACall) (T : Tm) (h : H) : (stepC P GL ops o).run call T h = astep call P GL ops o T h := by
  unfold stepC
  split
  . next hg =>
    unfold astep awanted
    rw [hg]
    rfl
  . rfl
noncomputable def seqC (l : List Oper) : QClo :=
  @List.rec Oper (fun _ => QClo) ⟨fun _ T h => some (T, h)⟩ (fun o _ ih => ⟨fun call T h => match (stepC P GL ops o).run call T h with
    | some (v, h') => ih.run call (T.put o.dst v) h'
    | none => none⟩) l
theorem seqC_eq (call : ACall) : ∀ (l : List Oper) (T : Tm) (h : H), (seqC P GL ops l).run call T h = aseq call P GL ops l T h
  | [], _, _ => rfl
  | o :: l, T, h => by
    simp only [aseq, ← stepC_eq]
    change (match (stepC P GL ops o).run call T h with
      | some (v, h') => (seqC P GL ops l).run call (T.put o.dst v) h'
      | none => none) = _
    cases (stepC P GL ops o).run call T h with
    | none => rfl
    | some x => exact seqC_eq call l _ _
noncomputable def rsC (l : List Oper) : RClo :=
  @List.rec Oper (fun _ => RClo) ⟨fun _ T _ => some ([], T)⟩ (fun o _ ih => ⟨fun call T h => match (stepC P GL ops o).run call T h.clear with
    | some (v, h1) => match ih.run call (T.put o.dst v) h1 with
      | some (r, T') => some ((v, h1) :: r, T')
      | none => none
    | none => none⟩) l
theorem rsC_eq (call : ACall) : ∀ (l : List Oper) (T : Tm) (h : H), (rsC P GL ops l).run call T h = runSeq call P GL ops l T h
  | [], _, _ => rfl
  | o :: l, T, h => by
    simp only [runSeq, ← stepC_eq]
    change (match (stepC P GL ops o).run call T h.clear with
      | some (v, h1) => match (rsC P GL ops l).run call (T.put o.dst v) h1 with
        | some (r, T') => some ((v, h1) :: r, T')
        | none => none
      | none => none) = _
    cases (stepC P GL ops o).run call T h.clear with
    | none => rfl
    | some x => simp only [rsC_eq call l]; cases runSeq call P GL ops l (T.put o.dst x.1) x.2 <;> rfl
def dt0 : List Oper -> List Nat -> List Dt
  | o :: l, b :: bs => { bf := b, lk := maskOf (o.looksAt ops), d := maskOf o.dst.toList, fp := 0, wr := 0 } :: dt0 l bs
  | _, _ => []
noncomputable def dynOk : List Nat -> List (Value × H) -> Nat -> List (Nat × Nat × Nat) -> Bool
  | b :: bs, x :: r, j, acc => bif Nat.beq x.2.fp 0 && Nat.beq x.2.wr 0 then dynOk bs r (j + 1) acc
    else acc.all (fun p => b.testBit p.1 || (Nat.beq (Nat.land p.2.2 x.2.fp) 0 && Nat.beq (Nat.land x.2.wr p.2.1) 0)) && dynOk bs r (j + 1) ((j, x.2.fp, x.2.wr) :: acc)
  | _, _, _, _ => true
theorem dynOk_spec : ∀ (bs : List Nat) (r : List (Value × H)) (j : Nat) (acc : List (Nat × Nat × Nat)), dynOk bs r j acc = true ->
    (∀ p ∈ acc, ∀ (k b : Nat) (x : Value × H), bs[k]? = some b -> r[k]? = some x -> b.testBit p.1 = true ∨ (Nat.beq (Nat.land p.2.2 x.2.fp) 0 = true /\ Nat.beq (Nat.land x.2.wr p.2.1) 0 = true)) /\
    ∀ (i k b : Nat) (x y : Value × H), i < k -> r[i]? = some x -> bs[k]? = some b -> r[k]? = some y -> b.testBit (j + i) = true ∨ (Nat.beq (Nat.land x.2.wr y.2.fp) 0 = true /\ Nat.beq (Nat.land y.2.wr x.2.fp) 0 = true)
  | [], _, _, _, _ => ⟨fun p _ k b x h => by simp at h, fun i k b x y _ _ h => by simp at h⟩
  | _ :: _, [], _, _, _ => ⟨fun p _ k b x _ h => by simp at h, fun i k b x y _ h => by simp at h⟩
  | b0 :: bs, x0 :: r, j, acc, h => by
    have zl : ∀ a, Nat.beq (Nat.land 0 a) 0 = true := fun a => by rw [show Nat.land 0 a = 0 from Nat.zero_and a]; rfl
    have zr : ∀ a, Nat.beq (Nat.land a 0) 0 = true := fun a => by rw [show Nat.land a 0 = 0 from Nat.and_zero a]; rfl
    simp only [dynOk] at h
    cases hq : (Nat.beq x0.2.fp 0 && Nat.beq x0.2.wr 0)
    . rw [hq] at h
      simp only [cond_false, Bool.and_eq_true, List.all_eq_true, Bool.or_eq_true] at h
      obtain ⟨h1, h2⟩ := h
      obtain ⟨a1, a2⟩ := dynOk_spec bs r (j + 1) _ h2
      refine ⟨fun p hp k b x hb hx => ?_, fun i k b x y hik hx hb hy => ?_⟩
      . cases k with
        | zero =>
          simp only [List.getElem?_cons_zero, Option.some.injEq] at hb hx
          subst hb hx
          exact h1 p hp
        | succ k =>
          simp only [List.getElem?_cons_succ] at hb hx
          exact a1 p (List.mem_cons_of_mem _ hp) k b x hb hx
      . cases k with
        | zero => omega
        | succ k =>
          simp only [List.getElem?_cons_succ] at hb hy
          cases i with
          | zero =>
            simp only [List.getElem?_cons_zero, Option.some.injEq] at hx
            subst hx
            exact a1 (j, x0.2.fp, x0.2.wr) List.mem_cons_self k b y hb hy
          | succ i =>
            simp only [List.getElem?_cons_succ] at hx
            have := a2 i k b x y (by omega) hx hb hy
            rwa [show j + 1 + i = j + (i + 1) by omega] at this
    . rw [hq] at h
      simp only [cond_true] at h
      simp only [Bool.and_eq_true, Nat.beq_eq] at hq
      obtain ⟨a1, a2⟩ := dynOk_spec bs r (j + 1) _ h
      refine ⟨fun p hp k b x hb hx => ?_, fun i k b x y hik hx hb hy => ?_⟩
      . cases k with
        | zero =>
          simp only [List.getElem?_cons_zero, Option.some.injEq] at hb hx
          subst hb hx
          right
          rw [hq.1, hq.2]
          exact ⟨zr _, zl _⟩
        | succ k =>
          simp only [List.getElem?_cons_succ] at hb hx
          exact a1 p hp k b x hb hx
      . cases k with
        | zero => omega
        | succ k =>
          simp only [List.getElem?_cons_succ] at hb hy
          cases i with
          | zero =>
            simp only [List.getElem?_cons_zero, Option.some.injEq] at hx
            subst hx
            right
            rw [hq.1, hq.2]
            exact ⟨zl _, zr _⟩
          | succ i =>
            simp only [List.getElem?_cons_succ] at hx
            have := a2 i k b x y (by omega) hx hb hy
            rwa [show j + 1 + i = j + (i + 1) by omega] at this
theorem chkOne_of {x : Dt} {i : Nat} : ∀ {l : List Dt}, (∀ y ∈ l, y.bf.testBit i = true ∨ disj x y = true) -> chkOne x i l = true
  | [], _ => rfl
  | z :: l, h => by
    simp only [chkOne, Bool.and_eq_true, Bool.or_eq_true]
    exact ⟨h z List.mem_cons_self, chkOne_of fun y hy => h y (List.mem_cons_of_mem _ hy)⟩
theorem chkAll_of : ∀ {l : List Dt} {k : Nat}, (∀ (i j : Nat) (x y : Dt), i < j -> l[i]? = some x -> l[j]? = some y -> y.bf.testBit (k + i) = true ∨ disj x y = true) -> chkAll k l = true
  | [], _, _ => rfl
  | z :: l, k, h => by
    simp only [chkAll, Bool.and_eq_true]
    refine ⟨chkOne_of fun y hy => ?_, chkAll_of fun i j x y hij hx hy => ?_⟩
    . obtain ⟨j, hj⟩ := List.getElem?_of_mem hy
      exact h 0 (j + 1) z y (by omega) rfl (by simpa using hj)
    . have := h (i + 1) (j + 1) x y (by omega) (by simpa using hx) (by simpa using hy)
      rwa [show k + 1 + i = k + (i + 1) by omega]
theorem dtOf_dt0 : ∀ (l : List Oper) (bs : List Nat) (r : List (Value × H)) (k : Nat) (x : Dt), (dtOf ops l bs r)[k]? = some x ->
    ∃ y b v, (dt0 ops l bs)[k]? = some y /\ bs[k]? = some b /\ r[k]? = some v /\ y.bf = x.bf /\ y.lk = x.lk /\ y.d = x.d /\ x.bf = b /\ x.fp = v.2.fp /\ x.wr = v.2.wr
  | [], _, _, _, _, h => by simp [dtOf] at h
  | _ :: _, [], _, _, _, h => by simp [dtOf] at h
  | _ :: _, _ :: _, [], _, _, h => by simp [dtOf] at h
  | o :: l, b :: bs, v :: r, k, x, h => by
    simp only [dtOf, dt0] at h ⊢
    cases k with
    | zero =>
      simp only [List.getElem?_cons_zero, Option.some.injEq] at h
      subst h
      exact ⟨_, b, v, rfl, rfl, rfl, rfl, rfl, rfl, rfl, rfl, rfl⟩
    | succ k =>
      simp only [List.getElem?_cons_succ] at h ⊢
      exact dtOf_dt0 l bs r k x h
theorem chk_split {l : List Oper} {bs : List Nat} {r : List (Value × H)} (h1 : chkAll 0 (dt0 ops l bs) = true) (h2 : dynOk bs r 0 [] = true) : chkAll 0 (dtOf ops l bs r) = true := by
  refine chkAll_of fun i j x y hij hx hy => ?_
  obtain ⟨x', bx, vx, e1, e2, e3, e4, e5, e6, e7, e8, e9⟩ := dtOf_dt0 ops l bs r i x hx
  obtain ⟨y', bY, vy, f1, f2, f3, f4, f5, f6, f7, f8, f9⟩ := dtOf_dt0 ops l bs r j y hy
  have a1 := chkAll_spec h1 i j x' y' hij e1 f1
  have a2 := (dynOk_spec bs r 0 [] h2).2 i j bY vx vy hij e3 f2 f3
  rw [f4] at a1
  rw [← f7] at a2
  rcases a1 with a1 | a1
  . exact .inl a1
  . rcases a2 with a2 | a2
    . exact .inl a2
    . right
      simp only [disj, Bool.and_eq_true] at a1 ⊢
      rw [e8, e9, f8, f9, ← e6, ← e5, ← f5, ← f6]
      exact ⟨⟨⟨a2.1, a2.2⟩, a1.1.2⟩, a1.2⟩
noncomputable def mergeC (r : List (Value × H)) : H -> H :=
  @List.rec (Value × H) (fun _ => H -> H) (fun h => h) (fun x _ ih h => ih { heap := x.2.heap, size := x.2.size, fp := Nat.lor h.fp x.2.fp, wr := Nat.lor h.wr x.2.wr }) r
theorem mergeC_eq : ∀ (r : List (Value × H)) (h : H), mergeC r h = merge h r
  | [], _ => rfl
  | _ :: r, _ => mergeC_eq r _
noncomputable def drawC : QClo :=
  match bfGo ops.toList [] with
  | some bs => bif chkAll 0 (dt0 ops ops.toList bs) then ⟨fun call T h => match (rsC P GL ops ops.toList).run call T h with
      | some (r, T') => bif dynOk bs r 0 [] then some (T', mergeC r h) else none
      | none => none⟩ else ⟨fun _ _ _ => none⟩
  | none => ⟨fun _ _ _ => none⟩
theorem drawC_ref {call : ACall} {T : Tm} {h : H} {x : Tm × H} (e : (drawC P GL ops).run call T h = some x) : adraw call P GL ops T h = some x := by
  unfold drawC at e
  split at e
  case h_2 => cases e
  next bs hb =>
  cases hs : chkAll 0 (dt0 ops ops.toList bs)
  . rw [hs] at e; cases e
  rw [hs] at e
  simp only [cond_true, rsC_eq] at e
  unfold adraw
  rw [hb]
  cases hr : runSeq call P GL ops ops.toList T h with
  | none => rw [hr] at e; cases e
  | some y =>
    obtain ⟨r, T'⟩ := y
    rw [hr] at e
    simp only at e ⊢
    obtain ⟨h2, e⟩ := bif_some e
    rw [chk_split ops hs h2, cond_true, ← e, mergeC_eq]
end
section
variable (P : Program) (GL : Nat -> Bool)
noncomputable def codeC (c : Code) : CClo :=
  @Code.rec (fun _ => CClo)
    ⟨fun _ _ n T h => @Nat.rec (fun _ => Option (AX × Tm × H)) none (fun _ _ => some (.normal, T, h)) n⟩
    (fun _ ops draw => match draw with
      | true => ⟨fun call _ n T h => @Nat.rec (fun _ => Option (AX × Tm × H)) none (fun _ _ => match (drawC P GL ops).run call T h with
        | some (T', h') => some (.normal, T', h')
        | none => none) n⟩
      | false => ⟨fun call _ n T h => @Nat.rec (fun _ => Option (AX × Tm × H)) none (fun _ _ => match (seqC P GL ops ops.toList).run call T h with
        | some (T', h') => some (.normal, T', h')
        | none => none) n⟩)
    (fun _ _ ia ib => ⟨fun call aro n T h => @Nat.rec (fun _ => Option (AX × Tm × H)) none (fun n _ => match ia.run call aro n T h with
      | some (.normal, T1, h1) => ib.run call aro n T1 h1
      | x => x) n⟩)
    (fun c _ _ ia ib => ⟨fun call aro n T h => @Nat.rec (fun _ => Option (AX × Tm × H)) none (fun n _ => match aeval T c with
      | .bool true => ia.run call aro n T h
      | .bool false => ib.run call aro n T h
      | _ => none) n⟩)
    (fun id _ ic => ⟨fun call aro n T h => @Nat.rec (fun _ => Option (AX × Tm × H)) none (fun n _ => match ic.run call aro n T h with
      | some (.exit id', T1, h1) => bif Nat.beq id' id then some (.normal, T1, h1) else some (.exit id', T1, h1)
      | x => x) n⟩)
    (fun _ ic => ⟨fun call aro n => @Nat.rec (fun _ => Tm -> H -> Option (AX × Tm × H)) (fun _ _ => none) (fun n ih T h => match ic.run call aro n T h with
      | some (.normal, T1, h1) => ih T1 h1
      | x => x) n⟩)
    (fun f ps a b _ _ => ⟨fun call aro n T h => @Nat.rec (fun _ => Option (AX × Tm × H)) none (fun _ _ => arange call P GL aro f ps a b T h) n⟩)
    (fun id => ⟨fun _ _ n T h => @Nat.rec (fun _ => Option (AX × Tm × H)) none (fun _ _ => some (.exit id, T, h)) n⟩)
    (fun _ ic => ⟨fun call aro n T h => @Nat.rec (fun _ => Option (AX × Tm × H)) none (fun n _ => ic.run call aro n T h) n⟩)
    (fun _ => ⟨fun _ _ n T h => @Nat.rec (fun _ => Option (AX × Tm × H)) none (fun _ _ => some (.normal, T, h)) n⟩)
    (fun _ => ⟨fun _ _ _ _ _ => none⟩)
    (⟨fun _ _ n T h => @Nat.rec (fun _ => Option (AX × Tm × H)) none (fun _ _ => some (.ret, T, h)) n⟩)
    (fun _ => ⟨fun _ _ _ _ _ => none⟩) c
theorem codeC_ref {call : ACall} {aro : Option Nat} (c : Code) : ∀ {n : Nat} {T : Tm} {h : H} {x : AX × Tm × H}, (codeC P GL c).run call aro n T h = some x -> acode call P GL aro n c T h = some x := by
  induction c with
  | skip => intro n T h x e; cases n <;> exact e
  | region id ops draw =>
    intro n T h x e
    cases n with
    | zero => cases draw <;> cases e
    | succ n =>
      cases draw with
      | true =>
        change (match (drawC P GL ops).run call T h with
          | some (T', h') => some (AX.normal, T', h')
          | none => none) = some x at e
        cases hd : (drawC P GL ops).run call T h with
        | none => rw [hd] at e; cases e
        | some y =>
          rw [hd] at e
          simp only [acode, drawC_ref P GL ops hd]
          exact e
      | false =>
        change (match (seqC P GL ops ops.toList).run call T h with
          | some (T', h') => some (AX.normal, T', h')
          | none => none) = some x at e
        rw [seqC_eq] at e
        simp only [acode]
        exact e
  | seq a b ia ib =>
    intro n T h x e
    cases n with
    | zero => cases e
    | succ n =>
      change (match (codeC P GL a).run call aro n T h with
        | some (.normal, T1, h1) => (codeC P GL b).run call aro n T1 h1
        | x => x) = some x at e
      cases ha : (codeC P GL a).run call aro n T h with
      | none => rw [ha] at e; cases e
      | some y =>
        obtain ⟨y, T1, h1⟩ := y
        rw [ha] at e
        simp only [acode, ia ha]
        cases y with
        | normal => exact ib e
        | exit id => exact e
        | ret => exact e
  | cond c a b ia ib =>
    intro n T h x e
    cases n with
    | zero => cases e
    | succ n =>
      change (match aeval T c with
        | .bool true => (codeC P GL a).run call aro n T h
        | .bool false => (codeC P GL b).run call aro n T h
        | _ => none) = some x at e
      simp only [acode]
      split at e
      . next hv => rw [hv]; exact ia e
      . next hv => rw [hv]; exact ib e
      . cases e
  | block id c ic =>
    intro n T h x e
    cases n with
    | zero => cases e
    | succ n =>
      change (match (codeC P GL c).run call aro n T h with
        | some (.exit id', T1, h1) => bif Nat.beq id' id then some (AX.normal, T1, h1) else some (.exit id', T1, h1)
        | x => x) = some x at e
      cases hc : (codeC P GL c).run call aro n T h with
      | none => rw [hc] at e; cases e
      | some y =>
        obtain ⟨y, T1, h1⟩ := y
        rw [hc] at e
        simp only [acode, ic hc]
        cases y <;> exact e
  | loop c ic =>
    intro n
    induction n with
    | zero => intro T h x e; cases e
    | succ n ih =>
      intro T h x e
      change (match (codeC P GL c).run call aro n T h with
        | some (.normal, T1, h1) => (codeC P GL (.loop c)).run call aro n T1 h1
        | x => x) = some x at e
      cases hc : (codeC P GL c).run call aro n T h with
      | none => rw [hc] at e; cases e
      | some y =>
        obtain ⟨y, T1, h1⟩ := y
        rw [hc] at e
        simp only [acode, ic hc]
        cases y with
        | normal => exact ih e
        | exit id => exact e
        | ret => exact e
  | rangeFunc f ps a b ia ib => intro n T h x e; cases n <;> exact e
  | exit id => intro n T h x e; cases n <;> exact e
  | scope c ic =>
    intro n T h x e
    cases n with
    | zero => cases e
    | succ n => simp only [acode]; exact ic e
  | label l => intro n T h x e; cases n <;> exact e
  | goto l => intro n T h x e; cases e
  | ret => intro n T h x e; cases n <;> exact e
  | refuse w => intro n T h x e; cases e
noncomputable def resL (l : List ResultVar) : Tm -> H -> Option (List Value × H) :=
  @List.rec ResultVar (fun _ => Tm -> H -> Option (List Value × H)) (fun _ h => some ([], h)) (fun r _ ih T h => match r with
    | .tmp t => match ih T h with
      | some (vs, h') => some (T.get t :: vs, h')
      | none => none
    | .cell a t => match T.get a with
      | .pointer (some ad) => match arun P (loadVar t ad) h with
        | some (v, h1) => match ih T h1 with
          | some (vs, h') => some (v :: vs, h')
          | none => none
        | none => none
      | _ => none) l
theorem arun_bnd {P : Program} {α β : Type} (s : Sem α) (f : α -> Sem β) (h : H) : arun P (s >>= f) h = (arun P s h).bind fun x => arun P (f x.1) x.2 := arun_bind s f h
noncomputable def rvSem (T : Tm) : ResultVar -> Sem Value
  | .tmp t => pure (T.get t)
  | .cell a t => do loadVar t (← asAddr (T.get a))
theorem resL_eq (T : Tm) : ∀ (l : List ResultVar) (h : H) (x : List Value × H), resL P l T h = some x -> arun P (l.mapM (rvSem T)) h = some x
  | [], h, x, e => by rw [List.mapM_nil]; exact e
  | .tmp t :: l, h, x, e => by
    rw [List.mapM_cons, arun_bnd]
    change (match resL P l T h with
      | some (vs, h') => some (T.get t :: vs, h')
      | none => none) = some x at e
    change arun P (l.mapM (rvSem T) >>= fun vs => pure (T.get t :: vs)) h = _
    rw [arun_bnd]
    cases hl : resL P l T h with
    | none => rw [hl] at e; cases e
    | some y => rw [hl] at e; rw [resL_eq T l h y hl]; exact e
  | .cell a t :: l, h, x, e => by
    rw [List.mapM_cons, arun_bnd]
    change (match T.get a with
      | .pointer (some ad) => match arun P (loadVar t ad) h with
        | some (v, h1) => match resL P l T h1 with
          | some (vs, h') => some (v :: vs, h')
          | none => none
        | none => none
      | _ => none) = some x at e
    split at e
    case h_2 => cases e
    next ad ha =>
    have hrv : rvSem T (.cell a t) = loadVar t ad := by simp only [rvSem, ha]; rfl
    rw [hrv]
    cases hv : arun P (loadVar t ad) h with
    | none => rw [hv] at e; cases e
    | some y =>
      rw [hv] at e
      simp only [Option.bind_some]
      rw [arun_bnd]
      cases hl : resL P l T y.2 with
      | none => simp only [hl] at e; cases e
      | some z => simp only [hl] at e; rw [resL_eq T l _ z hl]; exact e
noncomputable def resC (fn : Func) : VClo :=
  match fn.results.toList with
  | [.tmp t] => ⟨fun T h => some (T.get t, h)⟩
  | l => ⟨fun T h => match resL P l T h with
    | some ([v], h') => some (v, h')
    | some (vs, h') => some (.tuple ⟨vs⟩, h')
    | none => none⟩
theorem res_fin (fn : Func) (T : Tm) (h : H) (vs : List Value) (h' : H) (e : resL P fn.results.toList T h = some (vs, h')) : arun P (resSem fn T) h = some (match vs with | [v] => v | _ => .tuple ⟨vs⟩, h') := by
  have hr : resSem fn T = ((List.toArray <$> fn.results.toList.mapM (rvSem T)) >>= fun vs => pure (if h : vs.size = 1 then vs[0] else .tuple vs)) := by
    unfold resSem
    rw [Array.mapM_eq_mapM_toList]
    rfl
  rw [hr, arun_bnd]
  have hm : arun P (List.toArray <$> fn.results.toList.mapM (rvSem T)) h = some (vs.toArray, h') := by
    change arun P ((fn.results.toList.mapM (rvSem T)) >>= fun l => pure l.toArray) h = _
    rw [arun_bnd, resL_eq P T _ h _ e]; rfl
  rw [hm]
  match vs with
  | [] => rfl
  | [v] => rfl
  | _ :: _ :: _ => rfl
theorem resC_ref (fn : Func) (T : Tm) (h : H) (x : Value × H) (e : (resC P fn).run T h = some x) : arun P (resSem fn T) h = some x := by
  unfold resC at e
  split at e
  . next t ht =>
    have : resL P fn.results.toList T h = some ([T.get t], h) := by rw [ht]; rfl
    rw [res_fin P fn T h _ _ this]
    exact e
  . simp only at e
    split at e
    . next v h' hl => rw [res_fin P fn T h _ _ hl]; exact e
    . next vs h' hne hl =>
      rw [res_fin P fn T h _ _ hl, ← e]
      match vs with
      | [] => rfl
      | [v] => exact absurd rfl (hne v)
      | _ :: _ :: _ => rfl
    . cases e
noncomputable def argsC (l : List Value) : Nat -> Tr Value -> Tr Value :=
  @List.rec Value (fun _ => Nat -> Tr Value -> Tr Value) (fun _ t => t) (fun v _ ih i t => ih (i + 1) (Tr.setP (pathOf i) (some v) t)) l
theorem argsC_eq : ∀ (l : List Value) (i : Nat) (t : Tr Value), argsC l i t = ofArgs i l t
  | [], _, _ => rfl
  | _ :: l, i, _ => argsC_eq l (i + 1) _
noncomputable def aroundC (call : ACall) (args : Array Value) (h : H) : Option (Value × H) :=
  match args with
  | ⟨[.func (.yield l) _ _, .tuple tmps]⟩ => match h.get l with
    | some (.obj (.loop r)) => match (codeC P GL r.assign).run call (some l) FUEL { t := argsC tmps.toList 0 .leaf, n := tmps.toList.length, ms := [] } (h.rd l) with
      | some (.normal, T1, h1) => match h1.get l with
        | some (.obj (.loop r1)) => match r1.state with
          | .ready => match (codeC P GL r.body).run call (some l) FUEL T1 (h1.put l (some (.obj (.loop { r1 with state := .busy })))) with
            | some (x, _, h2) => match h2.get l with
              | some (.obj (.loop r2)) => some (.bool x.jump.isNone, h2.put l (some (.obj (.loop { r2 with state := bif x.jump.isNone then .ready else .done, pending := x.jump }))))
              | _ => none
            | none => none
          | _ => none
        | _ => none
      | _ => none
    | _ => none
  | _ => none
theorem aroundC_ref {call : ACall} {args : Array Value} {h : H} {x : Value × H} (e : aroundC P GL call args h = some x) : around call P GL args h = some x := by
  unfold aroundC at e
  unfold around
  split at e
  case h_2 => cases e
  next l fi ca tmps =>
  simp only
  split at e
  case h_2 => cases e
  next r hg =>
  rw [hg]
  simp only
  split at e
  case h_2 => cases e
  next T1 h1 e1 =>
  have e1' := codeC_ref P GL _ e1
  rw [argsC_eq] at e1'
  change acode call P GL (some l) FUEL r.assign (rowT tmps.toList) (h.rd l) = _ at e1'
  rw [e1']
  simp only
  split at e
  case h_2 => cases e
  next r1 hg1 =>
  rw [hg1]
  simp only
  split at e
  case h_2 => cases e
  next hst =>
  rw [hst]
  simp only
  split at e
  case h_2 => cases e
  next x2 T2 h2 e2 =>
  rw [codeC_ref P GL _ e2]
  exact e
noncomputable def fnC (f : FuncId) : FClo :=
  bif Nat.beq f YF then ⟨aroundC P GL⟩ else
  match P.funcs[f]? with
  | some fn => match fn.body with
    | some c => ⟨fun call args h => match (codeC P GL c).run call none FUEL { t := argsC args.toList 0 .leaf, n := args.size + (fn.ntmps - args.size), ms := [] } h with
      | some (.normal, T', h') => match takeAll T'.ms h' with
        | some h2 => (resC P fn).run T' h2
        | none => none
      | some (.ret, T', h') => match takeAll T'.ms h' with
        | some h2 => (resC P fn).run T' h2
        | none => none
      | _ => none⟩
    | none => ⟨fun _ _ _ => none⟩
  | none => ⟨fun _ _ _ => none⟩
theorem fnC_ref {call : ACall} {f : FuncId} {args : Array Value} {h : H} {x : Value × H} (e : (fnC P GL f).run call args h = some x) : acall1 P GL call f args h = some x := by
  unfold fnC at e
  unfold acall1
  cases hy : Nat.beq f YF
  case true =>
    rw [hy] at e
    exact aroundC_ref P GL e
  rw [hy] at e
  simp only [cond_false] at e ⊢
  split at e
  case h_2 => cases e
  next fn hfn =>
  split at e
  case h_2 => cases e
  next c hb =>
  rw [hfn]
  simp only [hb]
  simp only at e
  have hs : startT fn args = { t := argsC args.toList 0 .leaf, n := args.size + (fn.ntmps - args.size), ms := [] } := by unfold startT; rw [argsC_eq]
  split at e
  . next T' h' hc =>
    split at e
    case h_2 => cases e
    next h2 ht => rw [hs, codeC_ref P GL c hc]; simp only [ht]; exact resC_ref P fn T' h2 x e
  . next T' h' hc =>
    split at e
    case h_2 => cases e
    next h2 ht => rw [hs, codeC_ref P GL c hc]; simp only [ht]; exact resC_ref P fn T' h2 x e
  . cases e
end
open ren (renR renL)
open plain (plainR plainL)
def fkNat : FloatKind -> Nat
  | .f32 => 0
  | .f64 => 1
def beqL : List UInt8 -> List UInt8 -> Bool
  | [], [] => true
  | a :: l, b :: m => Nat.beq a.toNat b.toNat && beqL l m
  | _, _ => false
theorem beqL_eq : ∀ {l m : List UInt8}, beqL l m = true -> l = m
  | [], [], _ => rfl
  | [], _ :: _, h => by cases h
  | _ :: _, [], h => by cases h
  | a :: l, b :: m, h => by
    simp only [beqL, Bool.and_eq_true, Nat.beq_eq] at h
    rw [UInt8.toNat_inj.1 h.1, beqL_eq h.2]
def beqA : Option Addr -> Option Addr -> Bool
  | none, none => true
  | some a, some b => Nat.beq a.block b.block && Nat.beq a.off b.off && a.spot.isNone && b.spot.isNone
  | _, _ => false
theorem beqA_eq {a b : Option Addr} (h : beqA a b = true) : a = b := by
  cases a <;> cases b <;> simp only [beqA, Bool.false_eq_true] at h ⊢
  next a b =>
  simp only [Bool.and_eq_true, Nat.beq_eq, Option.isNone_iff_eq_none] at h
  obtain ⟨⟨⟨h1, h2⟩, h3⟩, h4⟩ := h
  cases a; cases b
  simp_all
def beqV : Value -> Value -> Bool
  | .bool a, .bool b => a == b
  | .int j a, .int k b => Nat.beq (kNat j) (kNat k) && eqI a b
  | .float j a, .float k b => Nat.beq (fkNat j) (fkNat k) && Nat.beq a b
  | .complex j a c, .complex k b d => Nat.beq (fkNat j) (fkNat k) && Nat.beq a b && Nat.beq c d
  | .string a, .string b => beqL a.data.toList b.data.toList
  | .pointer a, .pointer b => beqA a b
  | .slice a l c, .slice b m d => beqA a b && Nat.beq l m && Nat.beq c d
  | .func (.func f) a b, .func (.func g) c d => Nat.beq f g && beqR a c && beqR b d
  | .nilFunc, .nilFunc => true
  | .nilIface, .nilIface => true
  | .iface t v, .iface u w => Nat.beq t u && beqV v w
  | .agg a, .agg b => beqR a b
  | .tuple a, .tuple b => beqR a b
  | _, _ => false
  where
  beqR : Array Value -> Array Value -> Bool
    | ⟨l⟩, ⟨m⟩ => beqVs l m
  beqVs : List Value -> List Value -> Bool
    | [], [] => true
    | v :: l, w :: m => beqV v w && beqVs l m
    | _, _ => false
open beqV (beqR beqVs)
theorem fkNat_inj {a b : FloatKind} (h : Nat.beq (fkNat a) (fkNat b) = true) : a = b := by
  cases a <;> cases b <;> first | rfl | (cases h)
theorem beqV_eq : ∀ {v w : Value}, beqV v w = true -> v = w
  | .bool a, w, h => by
    cases w <;> simp_all [beqV]
  | .int j a, w, h => by
    cases w <;> simp only [beqV, Bool.and_eq_true, Bool.false_eq_true] at h
    rw [kNat_inj h.1, show a = _ from by simpa [eqI_eq] using h.2]
  | .float j a, w, h => by
    cases w <;> simp only [beqV, Bool.and_eq_true, Bool.false_eq_true] at h
    rw [fkNat_inj h.1, Nat.eq_of_beq_eq_true h.2]
  | .complex j a c, w, h => by
    cases w <;> simp only [beqV, Bool.and_eq_true, Bool.false_eq_true] at h
    rw [fkNat_inj h.1.1, Nat.eq_of_beq_eq_true h.1.2, Nat.eq_of_beq_eq_true h.2]
  | .string a, w, h => by
    cases w <;> simp only [beqV, Bool.false_eq_true] at h
    congr 1
    apply ByteArray.ext
    exact Array.toList_inj.1 (beqL_eq h)
  | .pointer a, w, h => by
    cases w <;> simp only [beqV, Bool.false_eq_true] at h
    rw [beqA_eq h]
  | .slice a l c, w, h => by
    cases w <;> simp only [beqV, Bool.and_eq_true, Bool.false_eq_true] at h
    rw [beqA_eq h.1.1, Nat.eq_of_beq_eq_true h.1.2, Nat.eq_of_beq_eq_true h.2]
  | .func (.func f) a b, .func (.func g) c d, h => by
    simp only [beqV, Bool.and_eq_true] at h
    rw [Nat.eq_of_beq_eq_true h.1.1, goR h.1.2, goR h.2]
  | .nilFunc, .nilFunc, _ => rfl
  | .nilIface, .nilIface, _ => rfl
  | .iface t v, .iface u w, h => by
    simp only [beqV, Bool.and_eq_true] at h
    rw [Nat.eq_of_beq_eq_true h.1, beqV_eq h.2]
  | .agg a, .agg b, h => by
    simp only [beqV] at h
    rw [goR h]
  | .tuple a, .tuple b, h => by
    simp only [beqV] at h
    rw [goR h]
  where
  goR : ∀ {a b : Array Value}, beqR a b = true -> a = b
    | ⟨l⟩, ⟨m⟩, h => by
      simp only [beqR] at h
      rw [goL h]
  goL : ∀ {l m : List Value}, beqVs l m = true -> l = m
    | [], [], _ => rfl
    | [], _ :: _, h => by simp [beqVs] at h
    | _ :: _, [], h => by simp [beqVs] at h
    | v :: l, w :: m, h => by
      simp only [beqVs, Bool.and_eq_true] at h
      rw [beqV_eq h.1, goL h.2]
theorem beqVs_eq : ∀ {l m : List Value}, beqVs l m = true -> l = m
  | [], [], _ => rfl
  | [], _ :: _, h => by simp [beqVs] at h
  | _ :: _, [], h => by simp [beqVs] at h
  | v :: l, w :: m, h => by
    simp only [beqVs, Bool.and_eq_true] at h
    rw [beqV_eq h.1, beqVs_eq h.2]
def beqB : Blk -> Blk -> Bool
  | .row a s, .row b t => Nat.beq s t && beqVs a b
  | .ro a, .ro b => beqVs a b
  | _, _ => false
theorem beqB_eq {a b : Blk} (h : beqB a b = true) : a = b := by
  cases a <;> cases b <;> simp only [beqB, Bool.and_eq_true, Bool.false_eq_true] at h
  . rw [Nat.eq_of_beq_eq_true h.1, beqVs_eq h.2]
  . rw [beqVs_eq h]
structure Sum where
  f : FuncId
  args : List Value
  s0 : Nat
  pre : List (Nat × Blk)
  v : Value
  s1 : Nat
  fp : Nat
  wr : Nat
  post : List (Nat × Blk)
  kill : List Nat
noncomputable def ofList (l : List (Nat × Blk)) : Tr Blk :=
  @List.rec (Nat × Blk) (fun _ => Tr Blk) .leaf (fun x _ ih => Tr.setP (pathOf x.1) (some x.2) ih) l
theorem ofList_get : ∀ {l : List (Nat × Blk)} {b : Nat} {x : Blk}, (ofList l).get b = some x -> (b, x) ∈ l
  | [], b, x, h => by
    change Tr.getP (pathOf b) .leaf = some x at h
    rw [Tr.getP_leaf] at h; cases h
  | y :: l, b, x, h => by
    change Tr.getP (pathOf b) (Tr.setP (pathOf y.1) (some y.2) (ofList l)) = some x at h
    by_cases e : b = y.1
    . subst e
      rw [Tr.getP_setP] at h
      simp only [Option.some.injEq] at h
      subst h
      exact List.mem_cons_self
    . rw [Tr.getP_setP_ne _ _ _ _ (fun p => e (pathOf_inj p))] at h
      exact List.mem_cons_of_mem _ (ofList_get h)
theorem ofList_none {l : List (Nat × Blk)} {b : Nat} (h : ∀ x ∈ l, x.1 ≠ b) : (ofList l).get b = none := by
  cases hg : (ofList l).get b with
  | none => rfl
  | some x => exact absurd rfl (h _ (ofList_get hg))
noncomputable def Sum.h0 (s : Sum) : H := { heap := ofList s.pre, size := s.s0, fp := 0, wr := 0 }
noncomputable def setAll (post : List (Nat × Blk)) (kill : List Nat) (t : Tr Blk) : Tr Blk :=
  post.foldl (fun t x => Tr.setP (pathOf x.1) (some x.2) t) (kill.foldl (fun t b => Tr.setP (pathOf b) none t) t)
theorem setKill_get : ∀ (kill : List Nat) (t : Tr Blk) (b : Nat), (kill.foldl (fun t b => Tr.setP (pathOf b) none t) t).get b = if b ∈ kill then none else t.get b
  | [], t, b => by simp
  | k :: kill, t, b => by
    rw [List.foldl_cons, setKill_get kill]
    by_cases h1 : b ∈ kill
    . simp [h1]
    . by_cases e : b = k
      . subst e
        simp only [h1, if_false, List.mem_cons, true_or, if_true]
        exact Tr.getP_setP _ _ _
      . simp only [h1, if_false, List.mem_cons, e, false_or]
        exact Tr.getP_setP_ne _ _ _ _ (fun p => e (pathOf_inj p))
theorem setPost_get : ∀ (post : List (Nat × Blk)) (t : Tr Blk) (b : Nat), ((∃ x, (b, x) ∈ post /\ (post.foldl (fun t x => Tr.setP (pathOf x.1) (some x.2) t) t).get b = some x)) ∨
    ((∀ x ∈ post, x.1 ≠ b) /\ (post.foldl (fun t x => Tr.setP (pathOf x.1) (some x.2) t) t).get b = t.get b)
  | [], t, b => .inr ⟨fun x h => (by cases h), rfl⟩
  | y :: post, t, b => by
    rw [List.foldl_cons]
    rcases setPost_get post (Tr.setP (pathOf y.1) (some y.2) t) b with ⟨x, h1, h2⟩ | ⟨h1, h2⟩
    . exact .inl ⟨x, List.mem_cons_of_mem _ h1, h2⟩
    . by_cases e : b = y.1
      . subst e
        exact .inl ⟨y.2, List.mem_cons_self, h2.trans (Tr.getP_setP _ _ _)⟩
      . refine .inr ⟨fun x hx => ?_, h2.trans (Tr.getP_setP_ne _ _ _ _ (fun p => e (pathOf_inj p)))⟩
        rcases List.mem_cons.1 hx with rfl | hx
        . exact fun p => e p.symm
        . exact h1 x hx
noncomputable def Sum.out (s : Sum) (h : H) : H := { heap := setAll s.post s.kill h.heap, size := s.s1, fp := Nat.lor h.fp s.fp, wr := Nat.lor h.wr s.wr }
noncomputable def Sum.hit (s : Sum) (f : FuncId) (args : Array Value) (h : H) : Bool :=
  Nat.beq s.f f && Nat.beq s.s0 h.size && beqVs s.args args.toList && s.pre.all fun x => match h.get x.1 with
    | some y => beqB x.2 y
    | none => false
def Sum.fine (s : Sum) : Bool :=
  s.pre.all (fun x => Nat.blt x.1 s.s0) && s.post.all (fun x => s.wr.testBit x.1) && s.kill.all (fun b => s.wr.testBit b) &&
    (List.range s.s0).all (fun b => (!s.fp.testBit b || s.pre.any fun x => Nat.beq x.1 b) && (!s.wr.testBit b || s.kill.contains b || s.post.any fun x => Nat.beq x.1 b)) && !(Nat.beq s.f YF)
theorem Sum.fine_ne {s : Sum} (h : s.fine = true) : s.f ≠ YF := fun e => by
  unfold Sum.fine at h
  rw [Bool.and_eq_true, e] at h
  cases h.2
noncomputable def Sum.valid (s : Sum) (call : ACall) : Bool :=
  s.fine && match call s.f ⟨s.args⟩ s.h0 with
    | some (v, h') => beqV v s.v && Nat.beq h'.size s.s1 && Nat.beq h'.fp s.fp && Nat.beq h'.wr s.wr && s.post.all fun x => match h'.get x.1 with
      | some y => beqB x.2 y
      | none => false
    | none => false
structure SumOk (P : Program) (GL : Nat -> Bool) (s : Sum) : Prop where
  fine : s.fine = true
  ex : ∃ (call : ACall) (h' : H), CallSound P GL call /\ call s.f ⟨s.args⟩ s.h0 = some (s.v, h') /\ h'.size = s.s1 /\ h'.fp = s.fp /\ h'.wr = s.wr /\ ∀ x ∈ s.post, h'.get x.1 = some x.2
theorem SumOk.of {P : Program} {GL : Nat -> Bool} {s : Sum} {call : ACall} (hC : CallSound P GL call) (h : s.valid call = true) : SumOk P GL s := by
  unfold Sum.valid at h
  rw [Bool.and_eq_true] at h
  obtain ⟨h1, h2⟩ := h
  refine ⟨h1, ?_⟩
  split at h2
  case h_2 => cases h2
  next v h' hc =>
  simp only [Bool.and_eq_true, Nat.beq_eq, List.all_eq_true] at h2
  obtain ⟨⟨⟨⟨a1, a2⟩, a3⟩, a4⟩, a5⟩ := h2
  refine ⟨call, h', hC, by rw [hc, beqV_eq a1], a2, a3, a4, fun x hx => ?_⟩
  have := a5 x hx
  split at this
  . next y hy => rw [hy, beqB_eq this]
  . cases this
theorem Rep.less {K : Nat -> Prop} {M : Mp} {g g' : Nat -> Option Blk} {w : World} (hr : Rep K M g w) (h : ∀ b x, g' b = some x -> g b = some x) : Rep K M g' w :=
  ⟨fun b x hb m hm => hr.blk b x (h b x hb) m hm, fun b x hb => hr.known b x (h b x hb), fun b c x y hb hc hn => hr.inj b c x y (h b x hb) (h c y hc) hn, hr.lt⟩
theorem Sum.sound {P : Program} {GL : Nat -> Bool} {s : Sum} (hs : SumOk P GL s) {f : FuncId} {args : Array Value} {h : H} (hh : s.hit f args h = true) :
    Le h (s.out h) /\ ∀ F K M g w args', Sub (s.out h).fp F -> Agree F K g h -> Rep K M g w -> GOk GL K M -> (∀ m, Cl K M m -> args' = renR m args) ->
      Calls P f args' w (Came h (s.out h) K M g w s.v) := by
  obtain ⟨hfine, call, h', hC, hcall, z1, z2, z3, z4⟩ := hs
  have hne := Sum.fine_ne hfine
  simp only [Sum.hit, Bool.and_eq_true, Nat.beq_eq, List.all_eq_true] at hh
  obtain ⟨⟨⟨rfl, hs0⟩, ha⟩, hpre⟩ := hh
  have hargs : args = ⟨s.args⟩ := by
    apply Array.ext'
    exact (beqVs_eq ha).symm
  subst hargs
  simp only [Sum.fine, Bool.and_eq_true, List.all_eq_true, Nat.blt_eq, List.mem_range, Bool.or_eq_true, Bool.not_eq_true', List.any_eq_true, Nat.beq_eq, List.contains_iff_mem] at hfine
  obtain ⟨⟨⟨⟨f1, f2⟩, f3⟩, f4⟩, _⟩ := hfine
  obtain ⟨l1, k1, _⟩ := hC _ _ _ _ _ hcall
  replace k1 := k1 hne
  have hpre' : ∀ b x, s.h0.get b = some x -> h.get b = some x := fun b x hb => by
    have hm : (b, x) ∈ s.pre := ofList_get hb
    have := hpre _ hm
    split at this
    . next y hy => exact hy.trans (congrArg some (beqB_eq this).symm)
    . cases this
  have hout : ∀ b, (s.out h).get b = (s.out h).heap.get b := fun _ => rfl
  have ocase : ∀ b, (∃ x, (b, x) ∈ s.post /\ (s.out h).get b = some x) ∨ ((∀ x ∈ s.post, x.1 ≠ b) /\ (s.out h).get b = if b ∈ s.kill then none else h.get b) := fun b => by
    rcases setPost_get s.post (s.kill.foldl (fun t b => Tr.setP (pathOf b) none t) h.heap) b with ⟨x, h1, h2⟩ | ⟨h1, h2⟩
    . exact .inl ⟨x, h1, h2⟩
    . exact .inr ⟨h1, h2.trans (setKill_get _ _ _)⟩
  have omiss : ∀ b, s.wr.testBit b = false -> (s.out h).get b = h.get b := fun b hb => by
    rcases ocase b with ⟨x, h1, _⟩ | ⟨_, h2⟩
    . have := f2 _ h1
      rw [hb] at this; cases this
    . rw [h2, if_neg (fun hk => by have := f3 b hk; rw [hb] at this; cases this)]
  have wr2 : ∀ b, (s.out h).wr.testBit b = (h.wr.testBit b || s.wr.testBit b) := fun b => lor_test
  have fp2 : ∀ b, (s.out h).fp.testBit b = (h.fp.testBit b || s.fp.testBit b) := fun b => lor_test
  have wrfp : ∀ b, s.wr.testBit b = true -> s.fp.testBit b = true := fun b hb => by
    rcases l1.wf b (by rw [z3]; exact hb) with h3 | h3
    . change (0 : Nat).testBit b = true at h3; simp at h3
    . rwa [z2] at h3
  have hsz : s.s0 <= s.s1 := by have := l1.size; rw [z1] at this; exact this
  have hle : Le h (s.out h) := by
    refine ⟨by rw [← hs0]; exact hsz, fun b hb => by rw [fp2, hb]; rfl, fun b hb => by rw [wr2, hb]; rfl, fun b hb => ?_, fun b hb => ?_, fun b h1 h2 => ?_, fun b x h1 h2 => ?_⟩
    . rw [wr2, Bool.or_eq_true] at hb
      refine hb.imp id fun h3 => ?_
      rw [fp2, wrfp b h3, Bool.or_true]
    . rw [wr2, Bool.or_eq_false_iff] at hb
      exact omiss b hb.2
    . rw [wr2, ← z3, l1.new b (by rw [← hs0] at h1; exact h1) (by rw [z1]; exact h2), Bool.or_true]
    . rcases ocase b with ⟨y, h3, h4⟩ | ⟨_, h4⟩
      . obtain ⟨q, hq⟩ := l1.old b y (by rw [← hs0] at h1; exact h1) (z4 _ h3)
        exact ⟨q, hpre' b q hq⟩
      . rw [h4] at h2
        split at h2
        . cases h2
        . exact ⟨x, h2⟩
  refine ⟨hle, ?_⟩
  intro F K M g w args' hF ha hr hG hargs
  have hFs : Sub s.fp F := fun b hb => hF b (by rw [fp2, hb, Bool.or_true])
  have hag : Agree s.fp K g s.h0 := by
    refine ⟨fun b hb => ?_, fun b hb h1 => ha.free b (hFs b hb) (by rw [← hs0]; exact h1), fun b hb => by change (0 : Nat).testBit b = true at hb; simp at hb⟩
    rcases Nat.lt_or_ge b s.s0 with h1 | h1
    . obtain ⟨x, hx, hxb⟩ := ((f4 b h1).1).resolve_left (by rw [hb]; simp)
      subst hxb
      cases hg : s.h0.get x.1 with
      | none =>
        exfalso
        have : ∀ {l : List (Nat × Blk)} {y : Nat × Blk}, y ∈ l -> (ofList l).get y.1 ≠ none := by
          intro l
          induction l with
          | nil => intro y hy; cases hy
          | cons z l ih =>
            intro y hy hn
            change Tr.getP (pathOf y.1) (Tr.setP (pathOf z.1) (some z.2) (ofList l)) = none at hn
            by_cases e : y.1 = z.1
            . rw [e, Tr.getP_setP] at hn; cases hn
            . rw [Tr.getP_setP_ne _ _ _ _ (fun p => e (pathOf_inj p))] at hn
              rcases List.mem_cons.1 hy with rfl | hy
              . exact e rfl
              . exact ih hy hn
        exact this hx hg
      | some q => rw [ha.eq _ (hFs _ hb), hpre' _ q hg]
    . have hk : ¬ K b := ha.free b (hFs b hb) (by rw [← hs0]; exact h1)
      have hg : g b = none := by
        cases hgb : g b with
        | none => rfl
        | some x => exact absurd (hr.known b x hgb) hk
      rw [hg]
      exact (ofList_none fun x hx e => by have := f1 x hx; omega).symm
  refine Calls.mono (k1 s.fp K M g w args' (by rw [z2]; exact Sub.refl _) hag hr hG hargs) ?_
  rintro e w' ⟨v', M', rfl, p, hv⟩
  have hs0' : s.h0.size = h.size := hs0
  have hsz' : h'.size = (s.out h).size := z1
  refine ⟨v', M', rfl, ?_, fun m hm => hv m (by rw [hs0', hsz']; exact hm)⟩
  have less : ∀ b x, Gn g (s.out h) b = some x -> Gn g h' b = some x := by
    intro b x hb
    cases hw : s.wr.testBit b
    . rw [Gn_miss (by rw [z3]; exact hw)]
      cases hw2 : h.wr.testBit b
      . rwa [Gn_miss (by rw [wr2, hw, hw2]; rfl)] at hb
      . rw [Gn_hit (by rw [wr2, hw2]; rfl), omiss b hw] at hb
        rw [ha.eq b (ha.wr b hw2)]; exact hb
    . rw [Gn_hit (by rw [wr2, hw, Bool.or_true])] at hb
      rw [Gn_hit (by rw [z3]; exact hw)]
      rcases ocase b with ⟨y, h3, h4⟩ | ⟨h3, h4⟩
      . rw [h4] at hb
        simp only [Option.some.injEq] at hb
        subst hb
        exact z4 _ h3
      . rw [h4] at hb
        split at hb
        . cases hb
        . next hnk =>
          exfalso
          rcases Nat.lt_or_ge b s.s0 with h1 | h1
          . rcases (f4 b h1).2 with (h5 | h5) | ⟨x, h5, h6⟩
            . rw [hw] at h5; cases h5
            . exact hnk h5
            . exact h3 x h5 h6
          . have hF' : F.testBit b = true := hFs b (wrfp b hw)
            have hk := ha.free b hF' (by rw [← hs0]; exact h1)
            have hgb : g b = some x := by rw [ha.eq b hF']; exact hb
            exact hk (hr.known b x hgb)
  refine ⟨p.keep, ?_, fun r hr' hh => p.frame r hr' fun b x hb hw => hh b x hb (by rw [wr2, ← z3, hw, Bool.or_true]), fun b x hk hb => ?_, p.grow, p.env⟩
  . have := p.rep
    rw [hs0', hsz'] at this
    exact this.less less
  . exact (p.fresh b x hk (less b x hb)).imp id fun ⟨a, y, q1, q2, q3⟩ => ⟨a, y, q1, by rw [wr2, ← z3, q2, Bool.or_true], q3⟩
noncomputable def look (tab : List Sum) (f : FuncId) (args : Array Value) (h : H) : Option (Value × H) :=
  @List.rec Sum (fun _ => Option (Value × H)) none (fun s _ ih => bif s.hit f args h then some (s.v, s.out h) else ih) tab
noncomputable def scall (P : Program) (GL : Nat -> Bool) (tab : List Sum) (n : Nat) : ACall :=
  @Nat.rec (fun _ => ACall) (fun _ _ _ => none) (fun _ ih f args h => match look tab f args h with
    | some r => some r
    | none => (fnC P GL f).run ih args h) n
theorem look_spec {f : FuncId} {args : Array Value} {h : H} {r : Value × H} : ∀ {tab : List Sum}, look tab f args h = some r -> ∃ s ∈ tab, s.hit f args h = true /\ r = (s.v, s.out h)
  | [], e => by cases e
  | s :: tab, e => by
    change (bif s.hit f args h then some (s.v, s.out h) else look tab f args h) = some r at e
    cases hh : s.hit f args h
    . rw [hh] at e
      obtain ⟨s', h1, h2⟩ := look_spec e
      exact ⟨s', List.mem_cons_of_mem _ h1, h2⟩
    . rw [hh] at e
      simp only [cond_true, Option.some.injEq] at e
      exact ⟨s, List.mem_cons_self, hh, e.symm⟩
theorem scall_sound {P : Program} {GL : Nat -> Bool} {tab : List Sum} (hN : ∀ (g : Nat) (fn : Func), P.funcs[g]? = some fn -> (fn.name == "runtime.NumGoroutine") = false) (hmix : P.follows .mixedOrders = true)
    (ht : ∀ s ∈ tab, SumOk P GL s) : ∀ n, CallSound P GL (scall P GL tab n)
  | 0 => fun f args h v h' e => by cases e
  | n + 1 => by
    intro f args h v h' e
    change (match look tab f args h with
      | some r => some r
      | none => (fnC P GL f).run (scall P GL tab n) args h) = some (v, h') at e
    split at e
    . next r hl =>
      obtain ⟨s, hs, hh, rfl⟩ := look_spec hl
      simp only [Option.some.injEq, Prod.mk.injEq] at e
      obtain ⟨rfl, rfl⟩ := e
      have hfe : f = s.f := by
        simp only [Sum.hit, Bool.and_eq_true, Nat.beq_eq] at hh
        exact hh.1.1.1.symm
      obtain ⟨l1, k1⟩ := Sum.sound (ht s hs) hh
      exact ⟨l1, fun _ => k1, fun he => absurd (hfe.symm.trans he) (Sum.fine_ne (ht s hs).fine)⟩
    . exact acall1_sound hN hmix (scall_sound hN hmix ht n) f args h v h' (fnC_ref P GL e)
end Go.Proofs.YtjiopaojhenanaaGreatDoor.Ev
namespace Go.Proofs.YtjiopaojhenanaaGreatDoor.Ev
open Go Go.Lib Go.RowKit Go.ChangeAt
open ren (renR renL)
open plain (plainR plainL)
open beqV (beqR beqVs)
def flF (rec : TypeId -> DataW Unit -> Option (List Value)) : List Field -> List (DataW Unit) -> Nat -> Option (List Value)
  | [], [], _ => some []
  | f :: fs, d :: ds, off => if Nat.beq f.offset off then (rec f.type d).bind fun l => (flF rec fs ds (off + l.length)).bind fun r => some (l ++ r) else none
  | _, _, _ => none
def flA (rec : DataW Unit -> Option (List Value)) (c : Nat) : List (DataW Unit) -> Option (List Value)
  | [] => some []
  | d :: ds => (rec d).bind fun l => if Nat.beq l.length c then (flA rec c ds).bind fun r => some (l ++ r) else none
def fl (P : Program) : Nat -> TypeId -> DataW Unit -> Option (List Value)
  | 0, _, _ => none
  | n + 1, t, d => match P.underlying t, d with
    | some .bool, .lit (.bool b) => some [.bool b]
    | some (.int k), .lit (.int j z) => if Nat.beq (kNat j) (kNat k) then some [.int k z] else none
    | some .string, .lit (.string bs) => some [.string ⟨bs.toArray⟩]
    | some (.struct fs), .agg ds => flF (fl P n) fs.toList ds 0
    | some (.array _ e), .agg ds => flA (fl P n e) (P.cellsOf e) ds
    | _, _ => none
def At (vs cs : List Value) : Prop := ∀ (i : Nat) (v : Value), vs[i]? = some v -> cs[i]? = some v
theorem At.drop {l cs : List Value} {k c : Nat} (h : At l ((cs.drop k).take c)) {i : Nat} {v : Value} (hi : l[i]? = some v) : cs[k + i]? = some v := by
  have := h i v hi
  rw [List.getElem?_take] at this
  split at this
  . rwa [List.getElem?_drop] at this
  . cases this
theorem At.join {l r cs : List Value} {k c : Nat} (h : At l ((cs.drop k).take c)) (hr : ∀ i v, r[i]? = some v -> cs[k + l.length + i]? = some v) : ∀ i v, (l ++ r)[i]? = some v -> cs[k + i]? = some v := by
  intro i v hi
  rw [List.getElem?_append] at hi
  split at hi
  . exact h.drop hi
  . next hl =>
    have := hr _ _ hi
    rwa [show k + l.length + (i - l.length) = k + i by omega] at this
section
variable {enc : TypeId × Value -> Unit} {P : Program} {w : World} {base : Nat} {sp : Nat -> Bool} {held : Bool}
theorem flF_at {rec : TypeId -> DataW Unit -> Option (List Value)} {cs : List Value} : ∀ (fs : List Field) (ds : List (DataW Unit)) (off : Nat) (r : List Value), flF rec fs ds off = some r ->
    (∀ (i : Nat) (f : Field) (d : DataW Unit), fs[i]? = some f -> ds[i]? = some d -> ∀ l, rec f.type d = some l -> At l ((cs.drop f.offset).take (P.cellsOf f.type))) -> ∀ i v, r[i]? = some v -> cs[off + i]? = some v
  | [], [], off, r, e, _ => by
    simp only [flF, Option.some.injEq] at e
    subst e
    intro i v hi
    simp at hi
  | [], _ :: _, _, _, e, _ => by cases e
  | _ :: _, [], _, _, e, _ => by cases e
  | f :: fs, d :: ds, off, r, e, h => by
    simp only [flF] at e
    split at e
    . next ho =>
      obtain rfl := Nat.eq_of_beq_eq_true ho
      simp only [Option.bind_eq_some_iff, Option.some.injEq] at e
      obtain ⟨l, h1, r', h2, rfl⟩ := e
      refine At.join (h 0 f d rfl rfl l h1) ?_
      exact flF_at fs ds _ r' h2 fun i f' d' hf hd => h (i + 1) f' d' (by simpa using hf) (by simpa using hd)
    . cases e
theorem flA_at {rec : DataW Unit -> Option (List Value)} {cs : List Value} {c : Nat} : ∀ (ds : List (DataW Unit)) (k : Nat) (r : List Value), flA rec c ds = some r ->
    (∀ (i : Nat) (d : DataW Unit), ds[i]? = some d -> ∀ l, rec d = some l -> At l ((cs.drop ((k + i) * c)).take c)) -> ∀ i v, r[i]? = some v -> cs[k * c + i]? = some v
  | [], k, r, e, _ => by
    simp only [flA, Option.some.injEq] at e
    subst e
    intro i v hi
    simp at hi
  | d :: ds, k, r, e, h => by
    simp only [flA, Option.bind_eq_some_iff] at e
    obtain ⟨l, h1, e⟩ := e
    split at e
    . next hc =>
      simp only [Option.bind_eq_some_iff, Option.some.injEq] at e
      obtain ⟨r', h2, rfl⟩ := e
      have hc := Nat.eq_of_beq_eq_true hc
      refine At.join (c := c) (h 0 d rfl l h1) ?_
      intro i v hi
      have := flA_at ds (k + 1) r' h2 (fun i d' hd => by
        have := h (i + 1) d' (by simpa using hd)
        rwa [show k + (i + 1) = k + 1 + i by omega] at this) i v hi
      rw [Nat.add_mul, Nat.one_mul] at this
      rw [hc]; exact this
      
    . cases e
theorem fl_at : ∀ (n : Nat) (t : TypeId) (d : DataW Unit) (vs : List Value), fl P n t d = some vs -> ∀ (fuel : Nat) (cs : List Value) (p : List MemPlace), DataW.trod enc P w base sp held fuel t cs = some (d, p) -> At vs cs
  | 0, _, _, _, e, _, _, _, _ => by cases e
  | n + 1, t, d, vs, e, fuel, cs, p, h => by
    simp only [fl] at e
    split at e
    . next ht =>
      obtain ⟨b, rfl, hb⟩ := DataW.trod_bool ht h
      simp only [Prod.mk.injEq, DataW.lit.injEq, Lit.bool.injEq] at hb
      simp only [Option.some.injEq] at e
      subst e
      rw [hb.1]
      exact fun _ _ => id
    . next ht =>
      obtain ⟨b, rfl, hb, _⟩ := DataW.trod_int ht h
      simp only [Prod.mk.injEq, DataW.lit.injEq, Lit.int.injEq] at hb
      split at e
      . simp only [Option.some.injEq] at e
        subst e
        rw [hb.1.2]
        exact fun _ _ => id
      . cases e
    . next ht =>
      obtain ⟨b, rfl, hb, _⟩ := DataW.trod_string ht h
      simp only [Prod.mk.injEq, DataW.lit.injEq, Lit.string.injEq] at hb
      simp only [Option.some.injEq] at e
      subst e
      rw [hb.1]
      exact fun _ _ => id
    . next ht =>
      obtain ⟨xs, m, rfl, hx, hl, hxl, hall⟩ := DataW.trod_struct ht h
      simp only [Prod.mk.injEq, DataW.agg.injEq] at hx
      have := flF_at (P := P) (cs := cs) _ _ 0 vs e (fun i f d' hf hd l hl => by
        rw [hx.1] at hd
        simp only [List.getElem?_map, Option.map_eq_some_iff] at hd
        obtain ⟨y, hy, rfl⟩ := hd
        have h3 := hall i f (by simpa using hf)
        rw [hy] at h3
        exact fl_at n f.type y.1 l hl m _ y.2 h3)
      intro i v hi
      have := this i v hi
      rwa [Nat.zero_add] at this
    . next k e' ds ht =>
      have := flA_at (cs := cs) _ 0 vs e (fun i d' hd l hl => by
        rcases Nat.lt_or_ge i k with hi | hi
        . obtain ⟨fuel', d'', q, h1, h2⟩ := array_elem ht h i hi
          rw [hd] at h1
          simp only [Option.some.injEq] at h1
          subst h1
          rw [Nat.zero_add]
          exact fl_at n e' d' l hl fuel' _ q h2
        . exfalso
          obtain ⟨xs, hx, hlen⟩ : ∃ xs : List (DataW Unit × List MemPlace), ds = xs.map (·.1) /\ xs.length = k := by
            cases fuel with
            | zero => simp [DataW.trod] at h
            | succ fuel =>
              simp only [DataW.trod, ht] at h
              split at h
              . obtain ⟨xs, hm, hx⟩ := Option.map_eq_some_iff.1 h
                simp only [Prod.mk.injEq, DataW.agg.injEq] at hx
                exact ⟨xs, hx.1.symm, by simpa using mapM_length hm⟩
              . cases h
          rw [hx, List.getElem?_eq_none (by simp; omega)] at hd
          cases hd)
      intro i v hi
      have := this i v hi
      rwa [Nat.zero_mul, Nat.zero_add] at this
    . cases e
end
theorem cells_of_reads {P : Program} {w : World} {n : String} {d : DataW Unit} {g : Nat} {t : TypeId} {vs : List Value} (m : Nat) (h : VarReads P w n d) (hg : P.globalNamed n = some g) (ht : (P.globals[g]?).map (·.type) = some t)
    (hf : fl P m t d = some vs) : ∀ i v, vs[i]? = some v -> w.cell? ⟨g, i, none⟩ = some v := by
  obtain ⟨g', t', cs, fuel, p, h1, h2, h3, h4⟩ := h
  obtain rfl := Option.some.inj (hg.symm.trans h1)
  obtain rfl := Option.some.inj (ht.symm.trans h2)
  intro i v hi
  have h5 := fl_at m _ d vs hf fuel cs.toList p h4 i v hi
  have := World.var?_cell h1 h3 i
  rw [Array.getElem?_toList] at h5
  rw [h5] at this
  exact this
def tables (GL : Nat -> Bool) (l : List (Nat × Blk)) : Bool := l.all fun x => GL x.1 && match x.2 with
  | .ro vs => plainL vs
  | _ => false
theorem SumOk.calls {P : Program} {GL : Nat -> Bool} {s : Sum} (hs : SumOk P GL s) {w : World} (hpre : tables GL s.pre = true) (hargs : plainL s.args = true) (hv : plain s.v = true)
    (hGL : ∀ b, GL b = true -> b < s.s0 /\ s.wr.testBit b = false /\ b < w.heap.size) (hw : ∀ b vs, (b, Blk.ro vs) ∈ s.pre -> ∀ i v, vs[i]? = some v -> w.cell? ⟨b, i, none⟩ = some v) :
    Calls P s.f ⟨s.args⟩ w fun e w' => e = .returned s.v /\ Below w.heap.size w w' := by
  obtain ⟨hfine, call, h', hC, hcall, z1, z2, z3, z4⟩ := hs
  obtain ⟨l1, k1, _⟩ := hC _ _ _ _ _ hcall
  replace k1 := k1 (Sum.fine_ne hfine)
  have hp : ∀ b x, s.h0.get b = some x -> GL b = true /\ ∃ vs, x = .ro vs /\ plainL vs = true /\ (b, Blk.ro vs) ∈ s.pre := fun b x hb => by
    have hm : (b, x) ∈ s.pre := ofList_get hb
    have := List.all_eq_true.1 hpre _ hm
    simp only [Bool.and_eq_true] at this
    refine ⟨this.1, ?_⟩
    cases x with
    | ro vs => exact ⟨vs, rfl, this.2, hm⟩
    | row _ _ => cases this.2
    | obj _ => cases this.2
  refine Calls.mono (k1 s.fp (fun b => GL b = true) (fun b => ⟨b, 0, 0⟩) s.h0.get w ⟨s.args⟩ (by rw [z2]; exact Sub.refl _) ⟨fun _ _ => rfl, fun b _ h1 h2 => ?_, fun b hb => ?_⟩ ⟨?_, fun b x hb => (hp b x hb).1, fun b c _ _ _ _ h => h, fun b hb => (hGL b hb).2.2⟩
    (fun b hb => ⟨hb, rfl⟩) fun m _ => (renR_plain m _ (by simpa [plainR] using hargs)).symm) ?_
  . have := (hGL b h2).1
    change s.s0 <= b at h1
    omega
  . change (0 : Nat).testBit b = true at hb
    simp at hb
  . intro b x hb m _
    obtain ⟨_, vs, rfl, hpl, hm⟩ := hp b x hb
    intro i v hi
    rw [ren_plain m v (plainL_iff.1 hpl v (List.mem_of_getElem? hi)), Nat.zero_add]
    exact hw b vs hm i v hi
  . rintro e w' ⟨v', M', rfl, p, hr⟩
    refine ⟨?_, p.env.1, p.env.2.1, p.env.2.2, p.grow, fun k hk => p.frame k hk fun b x hb hwb => ?_⟩
    . rw [hr M' Cl.refl, ren_plain _ _ hv]
    . exfalso
      rw [z3, (hGL b (hp b x hb).1).2.1] at hwb
      cases hwb
end Go.Proofs.YtjiopaojhenanaaGreatDoor.Ev
