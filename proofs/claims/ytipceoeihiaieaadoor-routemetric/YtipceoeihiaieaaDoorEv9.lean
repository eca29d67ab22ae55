/- One operation, reckoned, is run so. -/
import Derived.Test.YtipceoeihiaieaaDoorEv8
import Derived.RangeFuncRecord
namespace Go.Proofs.YtipceoeihiaieaaDoor.Ev
open Go
open ren (renR renL)
open plain (plainR plainL)

inductive AN where
  | value (v : Value)
  | skip
  | enter (f : FuncId) (args : Array Value)
  | round (l f : Nat) (tmps : List Value) (assign body : Code)
def AR (m : Mp) (n : AN) (n' : Next) : Prop :=
  match n with
  | .value v => n' = .value (ren m v)
  | .skip => n' = .skip
  | .enter f args => n' = .enter f (renR m args)
  | .round l f tmps assign body => n' = .round (m l).b (m f).s ⟨tmps.map (ren m)⟩ assign body

/-- What a round's temporaries begin as. -/
def putAll : List Tmp → List Value → List Value → List Value
  | p :: ps, v :: vs, t => putAll ps vs (t.set p v)
  | _, _, t => t
theorem putAll_map (f : Value → Value) : ∀ (ps : List Tmp) (vs t : List Value), (putAll ps vs t).map f = putAll ps (vs.map f) (t.map f)
  | [], _, _ => rfl
  | _ :: _, [], _ => rfl
  | p :: ps, v :: vs, t => by simp only [putAll, List.map_cons]; rw [putAll_map f ps vs, List.map_set]
theorem putAll_fold : ∀ (ps : List Tmp) (vs t : List Value), (ps.zip vs).foldl (fun (x : Array Value) (y : Tmp × Value) => x.setIfInBounds y.1 y.2) (⟨t⟩ : Array Value) = ⟨putAll ps vs t⟩
  | [], _, _ => rfl
  | _ :: _, [], _ => rfl
  | p :: ps, v :: vs, t => by simp only [putAll, List.zip_cons_cons, List.foldl_cons]; rw [← putAll_fold ps vs]; simp

theorem ar_v {m : Mp} {v u : Value} (h : u = ren m v) : AR m (.value v) (.value u) := by subst h; rfl
def cOk (GL : Nat → Bool) : Operand → Bool
  | .const v => plain v
  | .global g => GL g
  | _ => true
noncomputable def viaV (P : Program) (s : Sem Value) (h : H) : Option (AN × H) :=
  match arun P s h with
  | some (v, h') => some (.value v, h')
  | none => none
noncomputable def viaU (P : Program) (s : Sem Unit) (h : H) : Option (AN × H) :=
  match arun P s h with
  | some (_, h') => some (.skip, h')
  | none => none
def plainN (P : Program) (ρ : Operand → Value) (o : Oper) (h : H) : Option (AN × H) :=
  bif o.op.operands.all (fun x => plain (ρ x)) then
    match pureRun P (execOp ρ o) with
    | some (.value v) => bif plain v then some (.value v, h) else none
    | _ => none
  else none
def bodied (P : Program) (g : FuncId) : Bool :=
  match P.funcs[g]? with
  | some fn => fn.body.isSome
  | none => false
def capVal : Value → Bool
  | .int _ n => Nat.blt (IntKind.i64.wrap n).toNat Big
  | _ => true
def lenKind : Option Value → Bool
  | some (.slice _ _ _) => true
  | some (.string _) => true
  | _ => false

/-- A bound of a slicing. -/
def bnd (d : Nat) : Option Value → Option Nat
  | none => some d
  | some (.int _ i) => bif decide (0 ≤ i) then some i.toNat else none
  | _ => none
/-- A part of a row whose capacity is known only from below, its own capacity said. -/
def aslice3 (P : Program) (t : TypeId) (x : Value) (lo hi : Option Value) (mv : Value) : Option Value :=
  match x, P.underlying t, hi with
  | .slice (some a) _ cap, some (.slice e), some hv =>
    match P.info? e, bnd 0 lo, bnd 0 (some hv), bnd 0 (some mv) with
    | some i, some l, some u, some q => bif Nat.ble Big cap && Nat.ble l u && Nat.ble u q && Nat.ble q (cap - Big) && Nat.blt q Big && (Nat.beq l 0 || Nat.blt l q) then
        some (.slice (some (a.add (l * i.size))) (u - l) (q - l)) else none
    | _, _, _, _ => none
  | _, _, _ => none
/-- A part of a row whose capacity is known only from below. -/
def aslice2 (P : Program) (t : TypeId) (x : Value) (lo hi mx : Option Value) : Option Value :=
  match x, P.underlying t, mx with
  | .slice (some a) len cap, some (.slice e), none =>
    match P.info? e, bnd 0 lo, bnd len hi with
    | some i, some l, some u => bif Nat.ble Big cap && Nat.ble l u && Nat.ble u (cap - Big) && (Nat.beq l 0 || Nat.blt l (cap - Big)) then
        some (.slice (some (a.add (l * i.size))) (u - l) (Big + (cap - Big - l))) else none
    | _, _, _ => none
  | _, _, _ => none
def aslice (P : Program) (t : TypeId) (x : Value) (lo hi mx : Option Value) : Option Value :=
  match mx with
  | none => aslice2 P t x lo hi none
  | some mv => aslice3 P t x lo hi mv
theorem bnd_run {P : Program} {m : Mp} {d y n : Nat} {v : Value} {c : BoundsCode} (h : bnd d (some v) = some n) (hn : n ≤ y) (w : World) : (Instr.sliceBound (ren m v) y c).run P w = .ok n w := by
  cases v <;> simp only [bnd, reduceCtorEq] at h
  case int k i =>
    cases hi : decide (0 ≤ i)
    · rw [hi] at h; cases h
    · rw [hi] at h
      simp only [cond_true, Option.some.injEq] at h
      subst h
      have hi' := of_decide_eq_true hi
      have h2 : i ≤ (y : Int) := by omega
      simp only [Instr.sliceBound, ren, asIntOf, pure_bind]
      rw [if_pos ⟨hi', h2⟩]; rfl
theorem bif_some' {α : Type} {c : Bool} {x : Option α} {y : α} (h : (bif c then x else none) = some y) : c = true ∧ x = some y := by
  cases c
  · cases h
  · exact ⟨rfl, h⟩
theorem aslice3_run {P : Program} {m : Mp} {t : TypeId} {x v : Value} {lo hi : Option Value} {mv : Value} (h : aslice3 P t x lo hi mv = some v) (w : World) :
    (Instr.sliceAt t (ren m x) (lo.map (ren m)) (hi.map (ren m)) (some (ren m mv))).run P w = .ok (ren m v) w := by
  unfold aslice3 at h
  split at h
  case h_2 => cases h
  next a len cap e hv hu =>
  split at h
  case h_2 => cases h
  next i l u q hie hl hu2 hq2 =>
  obtain ⟨hc, h⟩ := bif_some' h
  simp only [Option.some.injEq] at h
  subst h
  simp only [Bool.and_eq_true, Bool.or_eq_true, Nat.ble_eq, Nat.beq_eq, Nat.blt_eq] at hc
  obtain ⟨⟨⟨⟨⟨h1, h2⟩, h3⟩, h5⟩, h6⟩, h4⟩ := hc
  have hb : ¬ cap < Big := by omega
  have hx : ren m (.slice (some a) len cap) = .slice (some (renA m a)) len (cap - Big + (m a.block).x) := by simp [ren, renC, hb]
  have hsz : (sizeOf e).run P w = .ok i.size w := by
    unfold Go.sizeOf Go.typeInfo
    change Sem.run P ((match P.info? e with | some i => Pure.pure i | none => stuck _) >>= fun i => Pure.pure i.size) w = _
    rw [hie]; rfl
  have hbs : (Instr.sliceBounds true len (cap - Big + (m a.block).x) (lo.map (ren m)) (some (ren m hv)) (some (ren m mv))).run P w = .ok (l, u, q) w := by
    unfold Instr.sliceBounds
    simp only [if_true]
    rw [Sem.run_bind, bnd_run hq2 (by omega), Result.andThen_ok, Sem.run_bind, bnd_run hu2 h3, Result.andThen_ok]
    cases lo with
    | none => simp only [bnd, Option.some.injEq] at hl; subst hl; rfl
    | some vl =>
      simp only [Option.map_some]
      rw [Sem.run_bind, bnd_run hl h2]; rfl
  unfold Instr.sliceAt
  rw [Sem.run_bind, underlying_run hu, Result.andThen_ok]
  unfold Instr.slice
  simp only [hx, Option.map_some]
  rw [Sem.run_bind, underlying_run hu, Result.andThen_ok]
  dsimp only
  rw [Sem.run_bind, hbs, Result.andThen_ok]
  dsimp only
  rw [Sem.run_bind, hsz, Result.andThen_ok]
  have hadd : (if q = l then some (renA m a) else (some (renA m a)).map fun x => x.add (l * i.size)) = some (renA m (a.add (l * i.size))) := by
    split
    · next e =>
      rcases h4 with h4 | h4
      · subst h4; simp [Addr.add]
      · omega
    · simp [renA_add]
  rw [show ((some (renA m a)).map fun x => x.add (l * i.size)) = (some (renA m a)).map (fun x => x.add (l * i.size)) from rfl] at hadd
  rw [hadd]
  have hb2 : q - l < Big := by omega
  simp only [ren, Option.map_some, renC, hb2, if_true, Sem.run_pure]
theorem aslice_run {P : Program} {m : Mp} {t : TypeId} {x v : Value} {lo hi mx : Option Value} (h : aslice P t x lo hi mx = some v) (w : World) :
    (Instr.sliceAt t (ren m x) (lo.map (ren m)) (hi.map (ren m)) (mx.map (ren m))).run P w = .ok (ren m v) w := by
  unfold aslice at h
  cases mx with
  | some mv => exact aslice3_run h w
  | none =>
  change aslice2 P t x lo hi none = some v at h
  unfold aslice2 at h
  split at h
  case h_2 => cases h
  next a len cap e hu _ =>
  split at h
  case h_2 => cases h
  next i l u hie hl hu2 =>
  cases hc : (Nat.ble Big cap && Nat.ble l u && Nat.ble u (cap - Big) && (Nat.beq l 0 || Nat.blt l (cap - Big)))
  · rw [hc] at h; cases h
  rw [hc] at h
  simp only [cond_true, Option.some.injEq] at h
  subst h
  simp only [Bool.and_eq_true, Bool.or_eq_true, Nat.ble_eq, Nat.beq_eq, Nat.blt_eq] at hc
  obtain ⟨⟨⟨h1, h2⟩, h3⟩, h4⟩ := hc
  have hb : ¬ cap < Big := by omega
  have hx : ren m (.slice (some a) len cap) = .slice (some (renA m a)) len (cap - Big + (m a.block).x) := by simp [ren, renC, hb]
  have hsz : (sizeOf e).run P w = .ok i.size w := by
    unfold Go.sizeOf Go.typeInfo
    change Sem.run P ((match P.info? e with | some i => Pure.pure i | none => stuck _) >>= fun i => Pure.pure i.size) w = _
    rw [hie]; rfl
  have hbs : (Instr.sliceBounds true len (cap - Big + (m a.block).x) (lo.map (ren m)) (hi.map (ren m)) none).run P w = .ok (l, u, cap - Big + (m a.block).x) w := by
    unfold Instr.sliceBounds
    cases hi with
    | none =>
      simp only [bnd, Option.some.injEq] at hu2
      subst hu2
      cases lo with
      | none => simp only [bnd, Option.some.injEq] at hl; subst hl; rfl
      | some vl =>
        simp only [Option.map_some, Option.map_none, pure_bind, Option.isSome_none]
        rw [Sem.run_bind, bnd_run hl h2]; rfl
    | some vh =>
      cases lo with
      | none =>
        simp only [bnd, Option.some.injEq] at hl; subst hl
        simp only [Option.map_some, Option.map_none, pure_bind]
        rw [Sem.run_bind, bnd_run hu2 (by omega)]; rfl
      | some vl =>
        simp only [Option.map_some, pure_bind, Option.isSome_none]
        rw [Sem.run_bind, bnd_run hu2 (by omega), Result.andThen_ok, Sem.run_bind, bnd_run hl h2]; rfl
  unfold Instr.sliceAt
  rw [Sem.run_bind, underlying_run hu, Result.andThen_ok]
  unfold Instr.slice
  simp only [hx, Option.map_none]
  rw [Sem.run_bind, underlying_run hu, Result.andThen_ok]
  dsimp only
  rw [Sem.run_bind, hbs, Result.andThen_ok]
  dsimp only
  rw [Sem.run_bind, hsz, Result.andThen_ok]
  have hadd : (if cap - Big + (m a.block).x = l then some (renA m a) else (some (renA m a)).map fun x => x.add (l * i.size)) = some (renA m (a.add (l * i.size))) := by
    split
    · next e =>
      rcases h4 with h4 | h4
      · subst h4; simp [Addr.add]
      · omega
    · simp [renA_add]
  have hblk : (a.add (l * i.size)).block = a.block := by unfold Addr.add; split <;> rfl
  rw [show ((some (renA m a)).map fun x => x.add (l * i.size)) = (some (renA m a)).map (fun x => x.add (l * i.size)) from rfl] at hadd
  rw [hadd]
  have hb2 : ¬ Big + (cap - Big - l) < Big := by omega
  simp only [ren, Option.map_some, renC, hb2, if_false, hblk, Sem.run_pure, Result.ok.injEq, Value.slice.injEq, true_and, and_true]
  omega

noncomputable def aop (P : Program) (GL : Nat → Bool) (ρ : Operand → Value) (o : Oper) (h : H) : Option (AN × H) :=
  bif o.op.operands.all (cOk GL) then
    match o.op with
    | .move x => some (.value (ρ x), h)
    | .assign x => some (.value (ρ x), h)
    | .pick c a b => match ρ c with
      | .bool t => some (.value (bif t then ρ a else ρ b), h)
      | _ => none
    | .alloc t => bif zok P t then viaV P (Instr.alloc t true (.tuple #[])) h else none
    | .box t x => viaV P (Instr.box t (ρ x)) h
    | .build t parts => bif zok P t then viaV P (Instr.build t (parts.map fun (i, x) => (i, ρ x))) h else none
    | .buildSlice t n parts => bif zokE P t && Nat.blt n Big then viaV P (Instr.buildSlice t n (parts.map fun (i, x) => (i, ρ x))) h else none
    | .load t a => viaV P (Instr.loadAt t (ρ a)) h
    | .store t a x => viaU P (Instr.storeAt t (ρ a) (ρ x)) h
    | .nilCheck x => match ρ x with
      | .pointer (some a) => some (.value (.pointer (some a)), h)
      | .func (.func f) a b => some (.value (.func (.func f) a b), h)
      | _ => none
    | .binOp op t x y _ => match op with
      | .eql => match eqSp P t (ρ x) (ρ y) with
        | some r => some (.value (.bool r), h)
        | none => plainN P ρ o h
      | .neq => match eqSp P t (ρ x) (ρ y) with
        | some r => some (.value (.bool (!r)), h)
        | none => plainN P ρ o h
      | _ => plainN P ρ o h
    | .unOp _ _ _ => plainN P ρ o h
    | .convert _ _ _ => plainN P ρ o h
    | .typeAssert _ _ _ _ => plainN P ρ o h
    | .makeInterface t x => viaV P (Instr.makeInterface t (ρ x)) h
    | .makeFunc fn first captured => match fn with
      | .func f => some (.value (.func (.func f) (first.map ρ) (captured.map ρ)), h)
      | _ => none
    | .makeSlice t l c => bif zokE P t && capVal (ρ c) then viaV P (Instr.makeSlice t (ρ l) (ρ c)) h else none
    | .slice t x lo hi mx => bif capOk (ρ x) && arrOk P t then viaV P (Instr.sliceAt t (ρ x) (lo.map ρ) (hi.map ρ) (mx.map ρ)) h else
        match aslice P t (ρ x) (lo.map ρ) (hi.map ρ) (mx.map ρ) with
        | some v => some (.value v, h)
        | none => none
    | .fieldAddr t x f => viaV P (Instr.fieldAt t (ρ x) f) h
    | .field t x f => viaV P (Instr.field t (ρ x) f) h
    | .indexAddr t x i => viaV P (Instr.indexAt t (ρ x) (ρ i)) h
    | .index t x i => viaV P (Instr.index t (ρ x) (ρ i)) h
    | .extract t i => viaV P (Instr.extract (ρ t) i) h
    | .makeMap t r => viaV P (Instr.makeMap t (r.map ρ)) h
    | .lookup t x i ok => bif keyM P t && zokM P t && keyV (ρ i) then viaV P (Instr.lookup t (ρ x) (ρ i) ok) h else none
    | .mapUpdate t x i y => bif keyM P t && keyV (ρ i) then viaU P (Instr.mapUpdate t (ρ x) (ρ i) (ρ y)) h else none
    | .insert t x i y => bif keyM P t && keyV (ρ i) then viaU P (Instr.mapUpdate t (ρ x) (ρ i) (ρ y)) h else none
    | .call c => match c.callee with
      | .value f => match ρ f with
        | .func (.func g) first captured => bif bodied P g then some (.enter g (first ++ c.args.map ρ ++ captured), h) else plainN P ρ o h
        | .func (.yield l) ⟨[]⟩ _ => match h.get l with
          | some (.obj (.loop r)) => bif Nat.beq c.args.size r.params.size then some (.round l r.fn (putAll r.params.toList (c.args.toList.map ρ) r.tmps.toList) r.assign r.body, h.rd l) else none
          | _ => none
        | _ => none
      | .builtin b => match b with
        | .append => match c.argTypes.toList, c.args.toList with
          | [t, tx], [s, x] => match aappend P t tx (ρ s) (ρ x) h with
            | some (v, h') => some (.value v, h')
            | none => none
          | _, _ => none
        | .copy => viaV P (Builtin.copy_ c.argTypes o.type (c.args.map ρ)) h
        | .len => bif lenKind (c.args.map ρ)[0]? then viaV P (Builtin.len_ c.argTypes o.type (c.args.map ρ)) h else plainN P ρ o h
        | .clear => bif clearOk P c.argTypes then viaV P (Builtin.clear_ c.argTypes o.type (c.args.map ρ)) h else none
        | _ => plainN P ρ o h
      | _ => none
    | _ => none
  else none

section
variable {P : Program} {GL : Nat → Bool} {ρ ρ' : Operand → Value} {h h' : H} {n : AN} {F : Nat} {K : Nat → Prop} {M : Mp} {g : Nat → Option Blk} {w : World}

def OpDone (P : Program) (h h' : H) (K : Nat → Prop) (M : Mp) (g : Nat → Option Blk) (w : World) (n : AN) (s' : Sem Next) : Prop :=
  ∃ n' M' w', s'.run P w = .ok n' w' ∧ Post h h' K M g w M' w' ∧ ∀ m, Cl (Kn K h.size h'.size) M' m → AR m n n'

theorem viaV_sound {s s' : Sem Value} (e : viaV P s h = some (n, h')) (hf : Sub h'.fp F) (ha : Agree F K g h) (hr : Rep K M g w) (hs : ∀ m, Cl K M m → Sim P (RV m) m s s') :
    Le h h' ∧ OpDone P h h' K M g w n (do pure (.value (← s'))) := by
  unfold viaV at e
  split at e
  · next v h2 ev =>
    simp only [Option.some.injEq, Prod.mk.injEq] at e
    obtain ⟨rfl, rfl⟩ := e
    obtain ⟨b, M', w', r1, r2, r3⟩ := arun_sound s ev hf ha hr hs
    exact ⟨arun_le _ ev, .value b, M', w', by rw [Sem.run_bind, r1]; rfl, r2, fun m hm => by rw [r3 m hm]; rfl⟩
  · cases e
theorem viaU_sound {s s' : Sem Unit} (e : viaU P s h = some (n, h')) (hf : Sub h'.fp F) (ha : Agree F K g h) (hr : Rep K M g w) (hs : ∀ m, Cl K M m → Sim P (fun _ _ => True) m s s') :
    Le h h' ∧ OpDone P h h' K M g w n (do s'; pure .skip) := by
  unfold viaU at e
  split at e
  · next v h2 ev =>
    simp only [Option.some.injEq, Prod.mk.injEq] at e
    obtain ⟨rfl, rfl⟩ := e
    obtain ⟨b, M', w', r1, r2, r3⟩ := arun_sound (R := fun _ _ _ => True) s ev hf ha hr hs
    exact ⟨arun_le _ ev, .skip, M', w', by rw [Sem.run_bind, r1]; rfl, r2, fun m hm => rfl⟩
  · cases e
/-- Nothing in memory turns. -/
theorem still_done {s' : Sem Next} {n' : Next} (ha : Agree F K g h) (hr : Rep K M g w) (hs : s'.run P w = .ok n' w) (hn : ∀ m, Cl K M m → AR m n n') : Le h h ∧ OpDone P h h K M g w n s' :=
  ⟨Le.refl _, n', M, w, hs, Post.same ha hr h rfl rfl fun _ => rfl, fun m hm => hn m (by rwa [Kn_self] at hm)⟩
theorem plainN_sound {o : Oper} (e : plainN P ρ o h = some (n, h')) (hsel : ∀ cs b, o.op ≠ .select cs b) (ha : Agree F K g h) (hr : Rep K M g w) (hρ : ∀ m, Cl K M m → ∀ x ∈ o.op.operands, ρ' x = ren m (ρ x)) :
    Le h h' ∧ OpDone P h h' K M g w n (execOp ρ' o) := by
  unfold plainN at e
  cases hp : o.op.operands.all (fun x => plain (ρ x))
  · rw [hp] at e; cases e
  rw [hp] at e
  simp only [cond_true] at e
  split at e
  · next v hv =>
    cases hpv : plain v
    · rw [hpv] at e; cases e
    rw [hpv] at e
    simp only [cond_true, Option.some.injEq, Prod.mk.injEq] at e
    obtain ⟨rfl, rfl⟩ := e
    have hc : execOp ρ' o = execOp ρ o := execOp_congr o hsel fun x hx => by
      rw [hρ M Cl.refl x hx]
      exact ren_plain M _ (Array.all_eq_true_iff_forall_mem.1 hp x hx)
    refine still_done ha hr (n' := .value v) ?_ fun m _ => ar_v (ren_plain m v hpv).symm
    rw [hc]
    exact pureRun_run hv w
  · cases e

theorem viaV_le {P : Program} {s : Sem Value} {h h' : H} {n : AN} (e : viaV P s h = some (n, h')) : Le h h' := by
  unfold viaV at e
  split at e
  · next v h2 ev => simp only [Option.some.injEq, Prod.mk.injEq] at e; rw [← e.2]; exact arun_le _ ev
  · cases e
theorem viaU_le {P : Program} {s : Sem Unit} {h h' : H} {n : AN} (e : viaU P s h = some (n, h')) : Le h h' := by
  unfold viaU at e
  split at e
  · next v h2 ev => simp only [Option.some.injEq, Prod.mk.injEq] at e; rw [← e.2]; exact arun_le _ ev
  · cases e
theorem plainN_eq {P : Program} {ρ : Operand → Value} {o : Oper} {h h' : H} {n : AN} (e : plainN P ρ o h = some (n, h')) : h' = h := by
  unfold plainN at e
  cases hp : o.op.operands.all (fun x => plain (ρ x))
  · rw [hp] at e; cases e
  rw [hp] at e
  simp only [cond_true] at e
  split at e
  · next v hv =>
    cases hpv : plain v
    · rw [hpv] at e; cases e
    rw [hpv] at e
    simp only [cond_true, Option.some.injEq, Prod.mk.injEq] at e
    exact e.2.symm
  · cases e
theorem aop_cok {P : Program} {GL : Nat → Bool} {ρ : Operand → Value} {o : Oper} {h : H} {r : AN × H} (e : aop P GL ρ o h = some r) : o.op.operands.all (cOk GL) = true := by
  unfold aop at e
  cases hco : o.op.operands.all (cOk GL)
  · rw [hco] at e; cases e
  · rfl
theorem bif_some {α : Type} {c : Bool} {x : Option α} {y : α} (h : (bif c then x else none) = some y) : c = true ∧ x = some y := by
  cases c
  · cases h
  · exact ⟨rfl, h⟩
theorem bif_or {α : Type} {c : Bool} {x y : Option α} {z : α} (h : (bif c then x else y) = some z) : x = some z ∨ y = some z := by
  cases c
  · exact .inr h
  · exact .inl h
theorem aop_le {P : Program} {GL : Nat → Bool} {ρ : Operand → Value} {o : Oper} {h h' : H} {n : AN} (e : aop P GL ρ o h = some (n, h')) : Le h h' := by
  have pl : plainN P ρ o h = some (n, h') → Le h h' := fun e => by rw [plainN_eq e]; exact Le.refl _
  have st : ∀ {x : AN}, some (x, h) = some (n, h') → Le h h' := fun e => by
    simp only [Option.some.injEq, Prod.mk.injEq] at e; rw [← e.2]; exact Le.refl _
  unfold aop at e
  have e := (bif_some e).2
  split at e
  · exact st e
  · exact st e
  · split at e
    · exact st e
    · cases e
  · exact viaV_le (bif_some e).2
  · exact viaV_le e
  · exact viaV_le (bif_some e).2
  · exact viaV_le (bif_some e).2
  · exact viaV_le e
  · exact viaU_le e
  · split at e
    · exact st e
    · exact st e
    · cases e
  · split at e
    · split at e
      · exact st e
      · exact pl e
    · split at e
      · exact st e
      · exact pl e
    · exact pl e
  · exact pl e
  · exact pl e
  · exact pl e
  · exact viaV_le e
  · split at e
    · exact st e
    · cases e
  · exact viaV_le (bif_some e).2
  · rcases bif_or e with e | e
    · exact viaV_le e
    · split at e
      · exact st e
      · cases e
  · exact viaV_le e
  · exact viaV_le e
  · exact viaV_le e
  · exact viaV_le e
  · exact viaV_le e
  · exact viaV_le e
  · exact viaV_le (bif_some e).2
  · exact viaU_le (bif_some e).2
  · exact viaU_le (bif_some e).2
  · split at e
    · split at e
      · next g first captured _ =>
        cases hb : bodied P g
        · rw [hb] at e; exact pl e
        · rw [hb] at e; exact st e
      · split at e
        · have e := (bif_some e).2
          simp only [Option.some.injEq, Prod.mk.injEq] at e
          rw [← e.2]; exact Le.rd _ _
        · cases e
      · cases e
    · split at e
      · split at e
        · split at e
          · next v h2 ev =>
            simp only [Option.some.injEq, Prod.mk.injEq] at e
            rw [← e.2]; exact aappend_le ev
          · cases e
        · cases e
      · exact viaV_le e
      · exact (bif_or e).elim viaV_le pl
      · exact viaV_le (bif_some e).2
      · exact pl e
    · cases e
  · cases e

theorem parts_ren {m : Mp} {parts : Array (Nat × Operand)} (h : ∀ x ∈ (parts.toList.map (·.2)).toArray, ρ' x = ren m (ρ x)) :
    (parts.map fun (i, x) => (i, ρ' x)) = (parts.map fun (i, x) => (i, ρ x)).map fun p => (p.1, ren m p.2) := by
  rw [Array.map_map]
  refine Array.map_congr_left fun p hp => ?_
  obtain ⟨i, x⟩ := p
  simp only [Function.comp]
  rw [h x (by simp only [List.mem_toArray, List.mem_map, Array.mem_toList_iff]; exact ⟨(i, x), hp, rfl⟩)]
theorem args_ren {m : Mp} {args : Array Operand} (h : ∀ x ∈ args, ρ' x = ren m (ρ x)) : args.map ρ' = (args.map ρ).map (ren m) := by
  rw [Array.map_map]
  exact Array.map_congr_left fun x hx => h x hx
theorem opt_ren {m : Mp} {x : Option Operand} (h : ∀ y ∈ x.toArray, ρ' y = ren m (ρ y)) : x.map ρ' = (x.map ρ).map (ren m) := by
  cases x with
  | none => rfl
  | some x => simp [h x (by simp)]

theorem aop_sound {o : Oper} (hN : ∀ (g : Nat) (fn : Func), P.funcs[g]? = some fn → (fn.name == "runtime.NumGoroutine") = false) (e : aop P GL ρ o h = some (n, h')) (hf : Sub h'.fp F) (ha : Agree F K g h) (hr : Rep K M g w)
    (hρ : ∀ m, Cl K M m → ∀ x ∈ o.op.operands, ρ' x = ren m (ρ x)) : Le h h' ∧ OpDone P h h' K M g w n (execOp ρ' o) := by
  unfold aop at e
  cases hco : o.op.operands.all (cOk GL)
  · rw [hco] at e; cases e
  rw [hco] at e
  simp only [cond_true] at e
  obtain ⟨dst, op, type, pos, after, guard⟩ := o
  cases op
  case move x =>
    simp only [Option.some.injEq, Prod.mk.injEq] at e
    obtain ⟨rfl, rfl⟩ := e
    exact still_done ha hr (n' := .value (ρ' x)) rfl fun m hm => ar_v (hρ m hm x (by simp [Op.operands]))
  case assign x =>
    simp only [Option.some.injEq, Prod.mk.injEq] at e
    obtain ⟨rfl, rfl⟩ := e
    exact still_done ha hr (n' := .value (ρ' x)) rfl fun m hm => ar_v (hρ m hm x (by simp [Op.operands]))
  case pick c a b =>
    simp only at e
    split at e
    · next t ht =>
      simp only [Option.some.injEq, Prod.mk.injEq] at e
      obtain ⟨rfl, rfl⟩ := e
      have hc : ρ' c = .bool t := by rw [hρ M Cl.refl c (by simp [Op.operands]), ht]; rfl
      refine still_done ha hr (n' := .value (bif t then ρ' a else ρ' b)) ?_ fun m hm => ?_
      · simp only [execOp, hc]
        cases t <;> rfl
      · refine ar_v ?_
        cases t
        · simp only [cond_false]; rw [hρ m hm b (by simp [Op.operands])]
        · simp only [cond_true]; rw [hρ m hm a (by simp [Op.operands])]
    · cases e
  case alloc t =>
    simp only at e
    cases hz : zok P t
    · rw [hz] at e; cases e
    rw [hz] at e
    exact viaV_sound e hf ha hr fun m _ => sim_alloc hz
  case box t x =>
    refine viaV_sound e hf ha hr fun m hm => ?_
    rw [hρ m hm x (by simp [Op.operands])]
    exact sim_box _ _
  case build t parts =>
    simp only at e
    cases hz : zok P t
    · rw [hz] at e; cases e
    rw [hz] at e
    refine viaV_sound e hf ha hr fun m hm => ?_
    rw [parts_ren (fun x hx => hρ m hm x (by simpa [Op.operands] using hx))]
    exact sim_build hz _
  case buildSlice t k parts =>
    simp only at e
    cases hz : (zokE P t && Nat.blt k Big)
    · rw [hz] at e; cases e
    rw [hz] at e
    rw [Bool.and_eq_true] at hz
    refine viaV_sound e hf ha hr fun m hm => ?_
    rw [parts_ren (fun x hx => hρ m hm x (by simpa [Op.operands] using hx))]
    exact sim_buildSlice hz.1 (by simpa [Nat.blt_eq] using hz.2) _
  case load t a =>
    refine viaV_sound e hf ha hr fun m hm => ?_
    rw [hρ m hm a (by simp [Op.operands])]
    unfold Instr.loadAt
    refine Sim.bnd (sim_sureAddr _) ?_
    rintro a _ rfl
    exact sim_loadVar _ _
  case store t a x =>
    refine viaU_sound e hf ha hr fun m hm => ?_
    rw [hρ m hm a (by simp [Op.operands]), hρ m hm x (by simp [Op.operands])]
    unfold Instr.storeAt
    refine Sim.bnd (sim_sureAddr _) ?_
    rintro a _ rfl
    exact sim_storeVar _ _ _
  case nilCheck x =>
    simp only at e
    split at e
    · next a hx =>
      simp only [Option.some.injEq, Prod.mk.injEq] at e
      obtain ⟨rfl, rfl⟩ := e
      have hx' : ∀ m, Cl K M m → ρ' x = .pointer (some (renA m a)) := fun m hm => by rw [hρ m hm x (by simp [Op.operands]), hx, ren_ptr]
      refine still_done ha hr (n' := .value (ρ' x)) ?_ fun m hm => ar_v (by rw [hx' m hm, ren_ptr])
      simp only [execOp, hx' M Cl.refl]
      rfl
    · next f a b hx =>
      simp only [Option.some.injEq, Prod.mk.injEq] at e
      obtain ⟨rfl, rfl⟩ := e
      have hx' : ∀ m, Cl K M m → ρ' x = .func (.func f) (renR m a) (renR m b) := fun m hm => by rw [hρ m hm x (by simp [Op.operands]), hx]; simp [ren, renF]
      refine still_done ha hr (n' := .value (ρ' x)) ?_ fun m hm => ar_v (by rw [hx' m hm]; simp [ren, renF])
      simp only [execOp, hx' M Cl.refl]
      rfl
    · cases e
  case binOp op t x y yt =>
    have key : ∀ r, eqSp P t (ρ x) (ρ y) = some r → (∀ ps qs (w : World), (eqGuard .eql t ps qs (ρ' x) (ρ' y)).run P w = .ok () w ∧ (eqGuard .neq t ps qs (ρ' x) (ρ' y)).run P w = .ok () w)
      ∧ (binOp .eql t (ρ' x) (ρ' y) = do pure (.bool (← Op.equal t (ρ' x) (ρ' y)))) ∧ (binOp .neq t (ρ' x) (ρ' y) = do pure (.bool (!(← Op.equal t (ρ' x) (ρ' y))))) ∧ (Op.equal t (ρ' x) (ρ' y)).run P w = .ok r w := by
      intro r hr'
      rw [hρ M Cl.refl x (by simp [Op.operands]), hρ M Cl.refl y (by simp [Op.operands])]
      obtain ⟨a1, a2, a3⟩ := eqSp_shape (m := M) hr'
      exact ⟨a1, a2, a3, eqSp_run hr' w⟩
    have pl : plainN P ρ ⟨dst, .binOp op t x y yt, type, pos, after, guard⟩ h = some (n, h') → Le h h' ∧ OpDone P h h' K M g w n (execOp ρ' ⟨dst, .binOp op t x y yt, type, pos, after, guard⟩) :=
      fun e => plainN_sound e (by simp) ha hr hρ
    simp only at e
    cases op <;> simp only at e
    case eql =>
      split at e
      · next r hr' =>
        simp only [Option.some.injEq, Prod.mk.injEq] at e
        obtain ⟨rfl, rfl⟩ := e
        obtain ⟨k1, k2, k3, k4⟩ := key r hr'
        refine still_done ha hr (n' := .value (.bool r)) ?_ fun m _ => ar_v (ren_plain m _ rfl).symm
        simp only [execOp, Sem.run_bind, (k1 x y w).1, Result.andThen_ok, k2, k4, Sem.run_pure]
      · exact pl e
    case neq =>
      split at e
      · next r hr' =>
        simp only [Option.some.injEq, Prod.mk.injEq] at e
        obtain ⟨rfl, rfl⟩ := e
        obtain ⟨k1, k2, k3, k4⟩ := key r hr'
        refine still_done ha hr (n' := .value (.bool (!r))) ?_ fun m _ => ar_v (ren_plain m _ rfl).symm
        simp only [execOp, Sem.run_bind, (k1 x y w).2, Result.andThen_ok, k3, k4, Sem.run_pure]
      · exact pl e
    all_goals exact pl e
  case unOp => exact plainN_sound e (by simp) ha hr hρ
  case convert => exact plainN_sound e (by simp) ha hr hρ
  case typeAssert => exact plainN_sound e (by simp) ha hr hρ
  case makeInterface t x =>
    refine viaV_sound e hf ha hr fun m hm => ?_
    rw [hρ m hm x (by simp [Op.operands])]
    exact sim_makeInterface _ _
  case makeFunc fn first captured =>
    simp only at e
    split at e
    · next f =>
      simp only [Option.some.injEq, Prod.mk.injEq] at e
      obtain ⟨rfl, rfl⟩ := e
      refine still_done ha hr (n' := .value (.func (.func f) (first.map ρ') (captured.map ρ'))) rfl fun m hm => ?_
      refine ar_v ?_
      rw [args_ren (fun x hx => hρ m hm x (by simp [Op.operands, hx])), args_ren (args := captured) (fun x hx => hρ m hm x (by simp [Op.operands, hx]))]
      simp [ren, renF, renR_map]
    · cases e
  case makeSlice t l c =>
    simp only at e
    cases hz : (zokE P t && capVal (ρ c))
    · rw [hz] at e; cases e
    rw [hz] at e
    rw [Bool.and_eq_true] at hz
    refine viaV_sound e hf ha hr fun m hm => ?_
    rw [hρ m hm l (by simp [Op.operands]), hρ m hm c (by simp [Op.operands])]
    refine sim_makeSlice hz.1 _ _ fun k q hq => ?_
    have := hz.2
    rw [hq] at this
    simpa [capVal] using this
  case slice t x lo hi mx =>
    simp only at e
    have hops : ∀ m, Cl K M m → ρ' x = ren m (ρ x) ∧ lo.map ρ' = (lo.map ρ).map (ren m) ∧ hi.map ρ' = (hi.map ρ).map (ren m) ∧ mx.map ρ' = (mx.map ρ).map (ren m) := fun m hm =>
      ⟨hρ m hm x (by simp [Op.operands]), opt_ren (x := lo) (fun y hy => hρ m hm y (by simp [Op.operands] at hy ⊢; simp [hy])), opt_ren (x := hi) (fun y hy => hρ m hm y (by simp [Op.operands] at hy ⊢; simp [hy])),
        opt_ren (x := mx) (fun y hy => hρ m hm y (by simp [Op.operands] at hy ⊢; simp [hy]))⟩
    cases hz : (capOk (ρ x) && arrOk P t)
    · rw [hz] at e
      simp only [cond_false] at e
      split at e
      · next v hv =>
        simp only [Option.some.injEq, Prod.mk.injEq] at e
        obtain ⟨rfl, rfl⟩ := e
        have hrun : ∀ m, Cl K M m → (Instr.sliceAt t (ρ' x) (lo.map ρ') (hi.map ρ') (mx.map ρ')).run P w = .ok (ren m v) w := fun m hm => by
          obtain ⟨o1, o2, o3, o4⟩ := hops m hm
          rw [o1, o2, o3, o4]; exact aslice_run hv w
        refine still_done ha hr (n' := .value (ren M v)) ?_ fun m hm => ?_
        · change Sem.run P (do pure (Next.value (← Instr.sliceAt t (ρ' x) (lo.map ρ') (hi.map ρ') (mx.map ρ')))) w = _
          rw [Sem.run_bind, hrun M Cl.refl]; rfl
        · have := hrun m hm
          rw [hrun M Cl.refl] at this
          simp only [Result.ok.injEq, and_true] at this
          exact ar_v this
      · cases e
    rw [hz] at e
    rw [Bool.and_eq_true] at hz
    refine viaV_sound e hf ha hr fun m hm => ?_
    rw [hρ m hm x (by simp [Op.operands]), opt_ren (x := lo) (fun y hy => hρ m hm y (by simp [Op.operands] at hy ⊢; simp [hy])), opt_ren (x := hi) (fun y hy => hρ m hm y (by simp [Op.operands] at hy ⊢; simp [hy])),
      opt_ren (x := mx) (fun y hy => hρ m hm y (by simp [Op.operands] at hy ⊢; simp [hy]))]
    exact sim_sliceAt hz.1 hz.2 _ _ _
  case fieldAddr t x f =>
    refine viaV_sound e hf ha hr fun m hm => ?_
    rw [hρ m hm x (by simp [Op.operands])]
    exact sim_fieldAt _ _ _
  case field t x f =>
    refine viaV_sound e hf ha hr fun m hm => ?_
    rw [hρ m hm x (by simp [Op.operands])]
    exact sim_field _ _ _
  case indexAddr t x i =>
    refine viaV_sound e hf ha hr fun m hm => ?_
    rw [hρ m hm x (by simp [Op.operands]), hρ m hm i (by simp [Op.operands])]
    exact sim_indexAt _ _ _
  case index t x i =>
    refine viaV_sound e hf ha hr fun m hm => ?_
    rw [hρ m hm x (by simp [Op.operands]), hρ m hm i (by simp [Op.operands])]
    exact sim_index _ _ _
  case extract t i =>
    refine viaV_sound e hf ha hr fun m hm => ?_
    rw [hρ m hm t (by simp [Op.operands])]
    exact sim_extract _ _
  case makeMap t r =>
    refine viaV_sound e hf ha hr fun m hm => ?_
    rw [opt_ren (fun y hy => hρ m hm y (by simpa [Op.operands] using hy))]
    exact sim_makeMap _ _
  case lookup t x i ok =>
    simp only at e
    cases hz : (keyM P t && zokM P t && keyV (ρ i))
    · rw [hz] at e; cases e
    rw [hz] at e
    simp only [Bool.and_eq_true] at hz
    refine viaV_sound e hf ha hr fun m hm => ?_
    rw [hρ m hm x (by simp [Op.operands]), hρ m hm i (by simp [Op.operands])]
    exact sim_lookup hz.1.1 hz.1.2 _ hz.2 _
  case mapUpdate t x i y =>
    simp only at e
    cases hz : (keyM P t && keyV (ρ i))
    · rw [hz] at e; cases e
    rw [hz] at e
    simp only [Bool.and_eq_true] at hz
    refine viaU_sound e hf ha hr fun m hm => ?_
    rw [hρ m hm x (by simp [Op.operands]), hρ m hm i (by simp [Op.operands]), hρ m hm y (by simp [Op.operands])]
    exact sim_mapUpdate hz.1 _ hz.2 _
  case insert t x i y =>
    simp only at e
    cases hz : (keyM P t && keyV (ρ i))
    · rw [hz] at e; cases e
    rw [hz] at e
    simp only [Bool.and_eq_true] at hz
    refine viaU_sound e hf ha hr fun m hm => ?_
    rw [hρ m hm x (by simp [Op.operands]), hρ m hm i (by simp [Op.operands]), hρ m hm y (by simp [Op.operands])]
    exact sim_mapUpdate hz.1 _ hz.2 _
  case call c =>
    obtain ⟨callee, args, argTypes⟩ := c
    have hargs : ∀ m, Cl K M m → args.map ρ' = (args.map ρ).map (ren m) := fun m hm => args_ren fun x hx => hρ m hm x (by simp [Op.operands, Call.operands, hx])
    simp only at e
    cases callee with
    | invoke r nm => cases e
    | value f =>
      simp only at e
      split at e
      · next gid first captured hfv =>
        cases hb : bodied P gid
        · rw [hb] at e
          exact plainN_sound e (by simp) ha hr hρ
        · rw [hb] at e
          simp only [cond_true, Option.some.injEq, Prod.mk.injEq] at e
          obtain ⟨rfl, rfl⟩ := e
          have hf' : ∀ m, Cl K M m → ρ' f = .func (.func gid) (renR m first) (renR m captured) := fun m hm => by
            rw [hρ m hm f (by simp [Op.operands, Call.operands]), hfv]; simp [ren, renF]
          refine still_done ha hr (n' := .enter gid (renR M first ++ args.map ρ' ++ renR M captured)) ?_ fun m hm => ?_
          · unfold bodied at hb
            cases hfn : P.funcs[gid]? with
            | none => rw [hfn] at hb; cases hb
            | some fn =>
              rw [hfn] at hb
              have hbs : fn.body.isNone = false := by
                simp only at hb
                cases hbb : fn.body with
                | none => rw [hbb] at hb; cases hb
                | some c => rfl
              have hn := hN gid fn hfn
              simp only [execOp, resolve, hf' M Cl.refl, Deferred.ofValue, invoke, callFunc]
              change Sem.run P (match P.funcs[gid]? with | none => _ | some fn => _) w = _
              rw [hfn]
              simp only [hn, hbs, Bool.false_eq_true, if_false]
              rfl
          · change Next.enter _ _ = Next.enter _ _
            have h1 := hf' m hm
            rw [hf' M Cl.refl] at h1
            simp only [Value.func.injEq, true_and] at h1
            rw [h1.1, h1.2, hargs m hm]
            simp [renR_map]
      · next l captured hfv =>
        split at e
        case h_2 => cases e
        next r hg =>
        obtain ⟨hsz, e⟩ := bif_some e
        simp only [Option.some.injEq, Prod.mk.injEq] at e
        obtain ⟨rfl, rfl⟩ := e
        have hFl : F.testBit l = true := hf l (by simp [H.rd, bit_test])
        have hgl : g l = some (.obj (.loop r)) := (ha.eq l hFl).trans hg
        have hblk := fun m hm => (hr.blk l _ hgl m hm).1
        have hf' : ∀ m, Cl K M m → ρ' f = .func (.yield (m l).b) #[] (renR m captured) := fun m hm => by
          rw [hρ m hm f (by simp [Op.operands, Call.operands]), hfv]; simp [ren, renF, renR_map]
        have hsz' : args.size = r.params.size := Nat.eq_of_beq_eq_true hsz
        have hround : ∀ m, Cl K M m → (Instr.yield (M l).b (args.map ρ')).run P w = .ok (.round (m l).b (m r.fn).s ⟨(putAll r.params.toList (args.toList.map ρ) r.tmps.toList).map (ren m)⟩ r.assign r.body) w := fun m hm => by
          have hb := hblk m hm
          simp only [renO] at hb
          rw [run_yield hb (by simpa using hsz')]
          have hml : (M l).b = (m l).b := by rw [hm l (hr.known l _ hgl)]
          rw [hml, putAll_map]
          congr 2
          rw [← putAll_fold, hargs m hm]
          rw [← Array.foldl_toList, Array.toList_zip]
          have hh : (⟨r.tmps.toList.map (ren m)⟩ : Array Value) = r.tmps.map (ren m) := by apply Array.ext'; simp
          rw [hh]
          simp [renR_map, Function.comp_def]
        refine ⟨Le.rd _ _, .round (M l).b (M r.fn).s ⟨(putAll r.params.toList (args.toList.map ρ) r.tmps.toList).map (ren M)⟩ r.assign r.body, M, w, ?_, Post.same ha hr _ rfl rfl fun _ => rfl, fun m hm => ?_⟩
        · simp only [execOp, resolve, hf' M Cl.refl, Deferred.ofValue, invoke, pure_bind]
          have h2 := hround M Cl.refl
          simpa using h2
        · have h1 := hround M Cl.refl
          rw [hround m (by rw [show (h.rd l).size = h.size from rfl, Kn_self] at hm; exact hm)] at h1
          simp only [Result.ok.injEq, and_true] at h1
          exact h1.symm
      · cases e
    | builtin b =>
      have pl : plainN P ρ ⟨dst, .call ⟨.builtin b, args, argTypes⟩, type, pos, after, guard⟩ h = some (n, h') → Le h h' ∧ OpDone P h h' K M g w n (execOp ρ' ⟨dst, .call ⟨.builtin b, args, argTypes⟩, type, pos, after, guard⟩) :=
        fun e => plainN_sound e (by simp) ha hr hρ
      simp only at e
      cases b <;> simp only at e
      case append =>
        split at e
        · next t tx s x ht hx =>
          split at e
          · next v h2 ev =>
            simp only [Option.some.injEq, Prod.mk.injEq] at e
            obtain ⟨rfl, rfl⟩ := e
            obtain rfl : argTypes = #[t, tx] := by rw [← Array.toList_inj] ; simpa using ht
            obtain rfl : args = #[s, x] := by rw [← Array.toList_inj] ; simpa using hx
            obtain ⟨l1, v', M', w', r1, r2, r3⟩ := aappend_sound (ty := type) (s' := ρ' s) (x' := ρ' x) ev hf ha hr (fun m hm => hρ m hm s (by simp [Op.operands, Call.operands])) (fun m hm => hρ m hm x (by simp [Op.operands, Call.operands]))
            refine ⟨l1, .value v', M', w', ?_, r2, fun m hm => ar_v (r3 m hm)⟩
            have hmp : #[s, x].map ρ' = #[ρ' s, ρ' x] := by simp
            simp only [execOp, resolve, hmp, pure_bind, invoke, builtin]
            change Sem.run P (do pure (Next.value (← Builtin.append_ #[t, tx] type #[ρ' s, ρ' x]))) w = _
            rw [Sem.run_bind, r1]; rfl
          · cases e
        · cases e
      case copy =>
        refine viaV_sound e hf ha hr fun m hm => ?_
        rw [hargs m hm]
        exact sim_copy _ _ _
      case len =>
        cases hk : lenKind (args.map ρ)[0]?
        · rw [hk] at e; exact pl e
        · rw [hk] at e
          refine viaV_sound e hf ha hr fun m hm => ?_
          rw [hargs m hm]
          refine sim_len _ _ _ fun v hv => ?_
          rw [hv] at hk
          cases v <;> simp_all [lenKind]
      case clear =>
        cases hz : clearOk P argTypes
        · rw [hz] at e; cases e
        rw [hz] at e
        refine viaV_sound e hf ha hr fun m hm => ?_
        rw [hargs m hm]
        exact sim_clear hz _ _
      all_goals exact pl e
  all_goals cases e
end
end Go.Proofs.YtipceoeihiaieaaDoor.Ev
