/- A region in the order of its text; what a region that draws its order is reckoned by. -/
import Derived.Test.YtipceoeihiaieaaDoorEv10
import Derived.TacticsIn
namespace Go.Proofs.YtipceoeihiaieaaDoor.Ev
open Go
open ren (renR renL)
open plain (plainR plainL)

noncomputable def aseq (call : ACall) (P : Program) (GL : Nat → Bool) (ops : Array Oper) : List Oper → Tm → H → Option (Tm × H)
  | [], T, h => some (T, h)
  | o :: l, T, h => match astep call P GL ops o T h with
    | some (v, h') => aseq call P GL ops l (T.put o.dst v) h'
    | none => none

theorem TR.look {m : Mp} {T : Tm} {tmps : Array Value} (h : TR m T tmps) (t : Nat) : tmps.getD t undef = ren m (T.get t) := h.2 t

/-- What a run of code leaves, for the code behind it. -/
def Then (ds : List Deferred) (Q : Exit → Act → World → Prop) (e : Exit) (T' : Tm) (h h' : H) (K : Nat → Prop) (M : Mp) (g : Nat → Option Blk) (w : World) : Prop :=
  ∀ a' M' w', Post h h' K M g w M' w' → (∀ m, Cl (Kn K h.size h'.size) M' m → TR m T' a'.tmps) → a'.defers = ds → Q e a' w'

theorem aseq_sound {call : ACall} {P : Program} {GL : Nat → Bool} {ops : Array Oper} (hN : ∀ (g : Nat) (fn : Func), P.funcs[g]? = some fn → (fn.name == "runtime.NumGoroutine") = false)
    (hC : CallSound P GL call) : ∀ (l : List Oper) {T T' : Tm} {h h' : H}, aseq call P GL ops l T h = some (T', h') →
    Le h h' ∧ ∀ {F : Nat} {K : Nat → Prop} {M : Mp} {g : Nat → Option Blk} {w : World} {a : Act} {Q : Exit → Act → World → Prop} {ro : Option Nat} {ds : List Deferred}, Sub h'.fp F → Agree F K g h → Rep K M g w → GOk GL K M →
      (∀ m, Cl K M m → TR m T a.tmps) → a.defers = ds → Then ds Q .normal T' h h' K M g w → wpListIn (Wd ro) 0 P ops Q l a w
  | [], T, T', h, h', e => by
    simp only [aseq, Option.some.injEq, Prod.mk.injEq] at e
    obtain ⟨rfl, rfl⟩ := e
    refine ⟨Le.refl _, ?_⟩
    intro F K M g w a Q ro ds hf ha hr hG hT hd hn
    exact hn a M w (Post.same ha hr h rfl rfl fun _ => rfl) (fun m hm => hT m (by rwa [Kn_self] at hm)) hd
  | o :: l, T, T', h, h', e => by
    simp only [aseq] at e
    split at e
    case h_2 => cases e
    next v h1 hs =>
    obtain ⟨l1, k1⟩ := astep_sound hN hC hs
    obtain ⟨l2, k2⟩ := aseq_sound hN hC l e
    refine ⟨l1.trans l2, ?_⟩
    intro F K M g w a Q ro ds hf ha hr hG hT hd hn
    have hf1 := l2.fp.trans hf
    have := k1 (Q := Q) (next := wpListIn (Wd ro) 0 P ops Q l) (ro := ro) hf1 ha hr hG (fun m hm t _ => (hT m hm).look t) (fun v' M' w' p hv => by
      refine k2 (ds := ds) hf (ha.next l1 hf1) p.rep (hG.next (fun _ h => .inl h) p.keep) (fun m hm => TR.put (hT m (Cl.next p.keep hm)) (hv m hm)) ?_ ?_
      · cases o.dst <;> exact hd
      · intro a' M'' w'' p2 ht hd'
        refine hn a' M'' w'' (Post.trans ha hf1 l1 l2 p p2) (fun m hm => ht m ?_) hd'
        rw [Kn_trans l1.size l2.size]; exact hm)
    unfold wpListIn
    split
    · next hw => rw [if_pos hw] at this; exact this
    · next hw => rw [if_neg hw] at this; exact ⟨fun _ _ => trivial, this⟩
theorem aseq_ms {call : ACall} {P : Program} {GL : Nat → Bool} {ops : Array Oper} : ∀ (l : List Oper) {T T' : Tm} {h h' : H}, aseq call P GL ops l T h = some (T', h') → T'.ms = T.ms
  | [], T, T', h, h', e => by
    simp only [aseq, Option.some.injEq, Prod.mk.injEq] at e
    rw [e.1]
  | o :: l, T, T', h, h', e => by
    simp only [aseq] at e
    split at e
    case h_2 => cases e
    rw [aseq_ms l e, Tm.put_ms]

/- Regions that draw their order. -/
def H.clear (h : H) : H := { heap := h.heap, size := h.size, fp := 0, wr := 0 }
noncomputable def runSeq (call : ACall) (P : Program) (GL : Nat → Bool) (ops : Array Oper) : List Oper → Tm → H → Option (List (Value × H) × Tm)
  | [], T, _ => some ([], T)
  | o :: l, T, h => match astep call P GL ops o T h.clear with
    | some (v, h1) => match runSeq call P GL ops l (T.put o.dst v) h1 with
      | some (r, T') => some ((v, h1) :: r, T')
      | none => none
    | none => none
theorem runSeq_ms {call : ACall} {P : Program} {GL : Nat → Bool} {ops : Array Oper} : ∀ (l : List Oper) {T T' : Tm} {h : H} {r : List (Value × H)}, runSeq call P GL ops l T h = some (r, T') → T'.ms = T.ms
  | [], T, T', h, r, e => by
    simp only [runSeq, Option.some.injEq, Prod.mk.injEq] at e
    rw [e.2]
  | o :: l, T, T', h, r, e => by
    simp only [runSeq] at e
    split at e
    case h_2 => cases e
    split at e
    case h_2 => cases e
    next r' T1 hr =>
    simp only [Option.some.injEq, Prod.mk.injEq] at e
    rw [← e.2, runSeq_ms l hr, Tm.put_ms]
def maskOf (l : List Nat) : Nat := l.foldl bit 0
theorem maskOf_test {l : List Nat} {t : Nat} : (maskOf l).testBit t = true ↔ t ∈ l := by
  unfold maskOf
  have : ∀ (l : List Nat) (s : Nat), (l.foldl bit s).testBit t = true ↔ s.testBit t = true ∨ t ∈ l := by
    intro l
    induction l with
    | nil => intro s; simp
    | cons x l ih => intro s; rw [List.foldl_cons, ih, bit_test]; simp [or_assoc]
  rw [this]; simp

structure Dt where
  bf : Nat
  lk : Nat
  d : Nat
  fp : Nat
  wr : Nat
def disj (x y : Dt) : Bool :=
  Nat.beq (Nat.land x.wr y.fp) 0 && Nat.beq (Nat.land y.wr x.fp) 0 && Nat.beq (Nat.land x.d (Nat.lor y.lk y.d)) 0 && Nat.beq (Nat.land x.lk y.d) 0
theorem land_zero {a b : Nat} (h : Nat.beq (Nat.land a b) 0 = true) {i : Nat} (ha : a.testBit i = true) : b.testBit i = false := by
  have h0 : a &&& b = 0 := Nat.eq_of_beq_eq_true h
  have : (a &&& b).testBit i = false := by rw [h0]; exact Nat.zero_testBit i
  rw [Nat.testBit_and, ha, Bool.true_and] at this
  exact this
def chkOne (x : Dt) (i : Nat) : List Dt → Bool
  | [] => true
  | y :: l => (y.bf.testBit i || disj x y) && chkOne x i l
def chkAll : Nat → List Dt → Bool
  | _, [] => true
  | i, x :: l => chkOne x i l && chkAll (i + 1) l
theorem chkOne_spec {x : Dt} {i : Nat} : ∀ {l : List Dt}, chkOne x i l = true → ∀ y ∈ l, y.bf.testBit i = true ∨ disj x y = true
  | [], _, y, hy => by cases hy
  | z :: l, h, y, hy => by
    simp only [chkOne, Bool.and_eq_true, Bool.or_eq_true] at h
    rcases List.mem_cons.1 hy with rfl | hy
    · exact h.1
    · exact chkOne_spec h.2 y hy
theorem chkAll_spec : ∀ {l : List Dt} {k : Nat}, chkAll k l = true → ∀ (i j : Nat) (x y : Dt), i < j → l[i]? = some x → l[j]? = some y → y.bf.testBit (k + i) = true ∨ disj x y = true
  | [], _, _, i, j, x, y, _, hx, _ => by simp at hx
  | z :: l, k, h, i, j, x, y, hij, hx, hy => by
    simp only [chkAll, Bool.and_eq_true] at h
    cases j with
    | zero => omega
    | succ j =>
      simp only [List.getElem?_cons_succ] at hy
      cases i with
      | zero =>
        simp only [List.getElem?_cons_zero, Option.some.injEq] at hx
        subst hx
        exact chkOne_spec h.1 y (List.mem_of_getElem? hy)
      | succ i =>
        simp only [List.getElem?_cons_succ] at hx
        have := chkAll_spec h.2 i j x y (by omega) hx hy
        rwa [show k + 1 + i = k + (i + 1) by omega] at this

/-- What stands ahead of an operation, by number, of those that bind. -/
def bfOne (acc : List Nat) (es : List Edge) : Nat := es.foldl (fun s e => bif Region.binds .any e then Nat.lor (bit s e.on) (acc.getD e.on 0) else s) 0
def edgesOk (i : Nat) (es : List Edge) : Bool := es.all fun e => !Region.binds .any e || Nat.blt e.on i
def bfGo : List Oper → List Nat → Option (List Nat)
  | [], acc => some acc
  | o :: l, acc => bif edgesOk acc.length o.after.toList then bfGo l (acc ++ [bfOne acc o.after.toList]) else none
theorem bfGo_spec : ∀ (l : List Oper) (acc r : List Nat), bfGo l acc = some r → r.length = acc.length + l.length ∧ (∀ i, i < acc.length → r[i]? = acc[i]?) ∧
    ∀ k o, l[k]? = some o → edgesOk (acc.length + k) o.after.toList = true ∧ r[acc.length + k]? = some (bfOne (r.take (acc.length + k)) o.after.toList)
  | [], acc, r, h => by
    simp only [bfGo, Option.some.injEq] at h
    subst h
    exact ⟨by simp, fun _ _ => rfl, fun k o hk => by simp at hk⟩
  | o :: l, acc, r, h => by
    simp only [bfGo] at h
    obtain ⟨h1, h2⟩ := bif_some h
    obtain ⟨a1, a2, a3⟩ := bfGo_spec l _ r h2
    simp only [List.length_append, List.length_singleton] at a1 a2 a3
    have hpre : ∀ i, i < acc.length → r[i]? = acc[i]? := fun i hi => by rw [a2 i (by omega), List.getElem?_append_left hi]
    refine ⟨by simp only [List.length_cons]; omega, hpre, fun k o' hk => ?_⟩
    cases k with
    | zero =>
      simp only [List.getElem?_cons_zero, Option.some.injEq] at hk
      subst hk
      refine ⟨h1, ?_⟩
      rw [Nat.add_zero, a2 acc.length (by omega), List.getElem?_append_right (Nat.le_refl _), Nat.sub_self, List.getElem?_cons_zero]
      congr 2
      apply List.ext_getElem?
      intro i
      rw [List.getElem?_take]
      split
      · next hi => rw [hpre i hi]
      · next hi => rw [List.getElem?_eq_none (by omega)]
    | succ k =>
      simp only [List.getElem?_cons_succ] at hk
      have := a3 k o' hk
      rwa [show acc.length + 1 + k = acc.length + (k + 1) by omega] at this
theorem bfOne_spec {acc : List Nat} {es : List Edge} {j : Nat} : (bfOne acc es).testBit j = true ↔ ∃ e ∈ es, Region.binds .any e = true ∧ (j = e.on ∨ (acc.getD e.on 0).testBit j = true) := by
  unfold bfOne
  have : ∀ (es : List Edge) (s : Nat), (es.foldl (fun s e => bif Region.binds .any e then Nat.lor (bit s e.on) (acc.getD e.on 0) else s) s).testBit j = true ↔
      s.testBit j = true ∨ ∃ e ∈ es, Region.binds .any e = true ∧ (j = e.on ∨ (acc.getD e.on 0).testBit j = true) := by
    intro es
    induction es with
    | nil => intro s; simp
    | cons e es ih =>
      intro s
      rw [List.foldl_cons, ih]
      cases hb : Region.binds .any e
      · simp [hb]
      · simp only [cond_true, List.mem_cons, exists_eq_or_imp, hb, true_and]
        change (bit s e.on ||| acc.getD e.on 0).testBit j = true ∨ _ ↔ _
        rw [Nat.testBit_or, bit_test]
        simp only [Bool.or_eq_true, decide_eq_true_eq]
        constructor
        · rintro (((h | h) | h) | h)
          · exact .inl h
          · exact .inr (.inl (.inl h))
          · exact .inr (.inl (.inr h))
          · exact .inr (.inr h)
        · rintro (h | (h | h) | h)
          · exact .inl (.inl (.inl h))
          · exact .inl (.inl (.inr h))
          · exact .inl (.inr h)
          · exact .inr h
  rw [this]
  simp

def dtOf (ops : Array Oper) : List Oper → List Nat → List (Value × H) → List Dt
  | o :: l, b :: bs, x :: r => { bf := b, lk := maskOf (o.looksAt ops), d := maskOf o.dst.toList, fp := x.2.fp, wr := x.2.wr } :: dtOf ops l bs r
  | _, _, _ => []
def merge (h : H) : List (Value × H) → H
  | [] => h
  | x :: r => merge { heap := x.2.heap, size := x.2.size, fp := Nat.lor h.fp x.2.fp, wr := Nat.lor h.wr x.2.wr } r
noncomputable def adraw (call : ACall) (P : Program) (GL : Nat → Bool) (ops : Array Oper) (T : Tm) (h : H) : Option (Tm × H) :=
  match bfGo ops.toList [], runSeq call P GL ops ops.toList T h with
  | some bs, some (r, T') => bif chkAll 0 (dtOf ops ops.toList bs r) then some (T', merge h r) else none
  | _, _ => none
end Go.Proofs.YtipceoeihiaieaaDoor.Ev
