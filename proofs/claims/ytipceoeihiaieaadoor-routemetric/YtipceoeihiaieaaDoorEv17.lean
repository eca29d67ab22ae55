/- Summaries: a call that has been reckoned once is not reckoned again. -/
import Derived.Test.YtipceoeihiaieaaDoorEv16
namespace Go.Proofs.YtipceoeihiaieaaDoor.Ev
open Go
open ren (renR renL)
open plain (plainR plainL)

/- Equality of values, of blocks. -/
def fkNat : FloatKind → Nat
  | .f32 => 0
  | .f64 => 1
def beqL : List UInt8 → List UInt8 → Bool
  | [], [] => true
  | a :: l, b :: m => Nat.beq a.toNat b.toNat && beqL l m
  | _, _ => false
theorem beqL_eq : ∀ {l m : List UInt8}, beqL l m = true → l = m
  | [], [], _ => rfl
  | [], _ :: _, h => by cases h
  | _ :: _, [], h => by cases h
  | a :: l, b :: m, h => by
    simp only [beqL, Bool.and_eq_true, Nat.beq_eq] at h
    rw [UInt8.toNat_inj.1 h.1, beqL_eq h.2]
def beqA : Option Addr → Option Addr → Bool
  | none, none => true
  | some a, some b => Nat.beq a.block b.block && Nat.beq a.off b.off && a.spot.isNone && b.spot.isNone
  | _, _ => false
theorem beqA_eq {a b : Option Addr} (h : beqA a b = true) : a = b := by
  cases a <;> cases b <;> simp only [beqA, Bool.false_eq_true] at h ⊢
  next a b =>
  simp only [Bool.and_eq_true, Nat.beq_eq, Option.isNone_iff_eq_none] at h
  obtain ⟨⟨⟨h1, h2⟩, h3⟩, h4⟩ := h
  cases a; cases b
  simp_all
def beqV : Value → Value → Bool
  | .bool a, .bool b => a == b
  | .int j a, .int k b => Nat.beq (kNat j) (kNat k) && eqI a b
  | .float j a, .float k b => Nat.beq (fkNat j) (fkNat k) && Nat.beq a b
  | .complex j a c, .complex k b d => Nat.beq (fkNat j) (fkNat k) && Nat.beq a b && Nat.beq c d
  | .string a, .string b => beqL a.data.toList b.data.toList
  | .pointer a, .pointer b => beqA a b
  | .slice a l c, .slice b m d => beqA a b && Nat.beq l m && Nat.beq c d
  | .func (.func f) a b, .func (.func g) c d => Nat.beq f g && beqR a c && beqR b d
  | .nilFunc, .nilFunc => true
  | .nilIface, .nilIface => true
  | .iface t v, .iface u w => Nat.beq t u && beqV v w
  | .agg a, .agg b => beqR a b
  | .tuple a, .tuple b => beqR a b
  | _, _ => false
  where
  beqR : Array Value → Array Value → Bool
    | ⟨l⟩, ⟨m⟩ => beqVs l m
  beqVs : List Value → List Value → Bool
    | [], [] => true
    | v :: l, w :: m => beqV v w && beqVs l m
    | _, _ => false
open beqV (beqR beqVs)
theorem fkNat_inj {a b : FloatKind} (h : Nat.beq (fkNat a) (fkNat b) = true) : a = b := by
  cases a <;> cases b <;> first | rfl | (cases h)
theorem beqV_eq : ∀ {v w : Value}, beqV v w = true → v = w
  | .bool a, w, h => by
    cases w <;> simp_all [beqV]
  | .int j a, w, h => by
    cases w <;> simp only [beqV, Bool.and_eq_true, Bool.false_eq_true] at h
    rw [kNat_inj h.1, show a = _ from by simpa [eqI_eq] using h.2]
  | .float j a, w, h => by
    cases w <;> simp only [beqV, Bool.and_eq_true, Bool.false_eq_true] at h
    rw [fkNat_inj h.1, Nat.eq_of_beq_eq_true h.2]
  | .complex j a c, w, h => by
    cases w <;> simp only [beqV, Bool.and_eq_true, Bool.false_eq_true] at h
    rw [fkNat_inj h.1.1, Nat.eq_of_beq_eq_true h.1.2, Nat.eq_of_beq_eq_true h.2]
  | .string a, w, h => by
    cases w <;> simp only [beqV, Bool.false_eq_true] at h
    congr 1
    apply ByteArray.ext
    exact Array.toList_inj.1 (beqL_eq h)
  | .pointer a, w, h => by
    cases w <;> simp only [beqV, Bool.false_eq_true] at h
    rw [beqA_eq h]
  | .slice a l c, w, h => by
    cases w <;> simp only [beqV, Bool.and_eq_true, Bool.false_eq_true] at h
    rw [beqA_eq h.1.1, Nat.eq_of_beq_eq_true h.1.2, Nat.eq_of_beq_eq_true h.2]
  | .func (.func f) a b, .func (.func g) c d, h => by
    simp only [beqV, Bool.and_eq_true] at h
    rw [Nat.eq_of_beq_eq_true h.1.1, goR h.1.2, goR h.2]
  | .nilFunc, .nilFunc, _ => rfl
  | .nilIface, .nilIface, _ => rfl
  | .iface t v, .iface u w, h => by
    simp only [beqV, Bool.and_eq_true] at h
    rw [Nat.eq_of_beq_eq_true h.1, beqV_eq h.2]
  | .agg a, .agg b, h => by
    simp only [beqV] at h
    rw [goR h]
  | .tuple a, .tuple b, h => by
    simp only [beqV] at h
    rw [goR h]
  where
  goR : ∀ {a b : Array Value}, beqR a b = true → a = b
    | ⟨l⟩, ⟨m⟩, h => by
      simp only [beqR] at h
      rw [goL h]
  goL : ∀ {l m : List Value}, beqVs l m = true → l = m
    | [], [], _ => rfl
    | [], _ :: _, h => by simp [beqVs] at h
    | _ :: _, [], h => by simp [beqVs] at h
    | v :: l, w :: m, h => by
      simp only [beqVs, Bool.and_eq_true] at h
      rw [beqV_eq h.1, goL h.2]
theorem beqVs_eq : ∀ {l m : List Value}, beqVs l m = true → l = m
  | [], [], _ => rfl
  | [], _ :: _, h => by simp [beqVs] at h
  | _ :: _, [], h => by simp [beqVs] at h
  | v :: l, w :: m, h => by
    simp only [beqVs, Bool.and_eq_true] at h
    rw [beqV_eq h.1, beqVs_eq h.2]
theorem beqR_eq : ∀ {a b : Array Value}, beqR a b = true → a = b
  | ⟨l⟩, ⟨m⟩, h => by
    simp only [beqR] at h
    rw [beqVs_eq h]
def beqB : Blk → Blk → Bool
  | .row a s, .row b t => Nat.beq s t && beqVs a b
  | .ro a, .ro b => beqVs a b
  | _, _ => false
theorem beqB_eq {a b : Blk} (h : beqB a b = true) : a = b := by
  cases a <;> cases b <;> simp only [beqB, Bool.and_eq_true, Bool.false_eq_true] at h
  · rw [Nat.eq_of_beq_eq_true h.1, beqVs_eq h.2]
  · rw [beqVs_eq h]

/- A call that has been reckoned. -/
structure Sum where
  f : FuncId
  args : List Value
  s0 : Nat
  pre : List (Nat × Blk)
  v : Value
  s1 : Nat
  fp : Nat
  wr : Nat
  post : List (Nat × Blk)
  kill : List Nat
noncomputable def ofList (l : List (Nat × Blk)) : Tr Blk :=
  @List.rec (Nat × Blk) (fun _ => Tr Blk) .leaf (fun x _ ih => Tr.setP (pathOf x.1) (some x.2) ih) l
theorem ofList_get : ∀ {l : List (Nat × Blk)} {b : Nat} {x : Blk}, (ofList l).get b = some x → (b, x) ∈ l
  | [], b, x, h => by
    change Tr.getP (pathOf b) .leaf = some x at h
    rw [Tr.getP_leaf] at h; cases h
  | y :: l, b, x, h => by
    change Tr.getP (pathOf b) (Tr.setP (pathOf y.1) (some y.2) (ofList l)) = some x at h
    by_cases e : b = y.1
    · subst e
      rw [Tr.getP_setP] at h
      simp only [Option.some.injEq] at h
      subst h
      exact List.mem_cons_self
    · rw [Tr.getP_setP_ne _ _ _ _ (fun p => e (pathOf_inj p))] at h
      exact List.mem_cons_of_mem _ (ofList_get h)
theorem ofList_none {l : List (Nat × Blk)} {b : Nat} (h : ∀ x ∈ l, x.1 ≠ b) : (ofList l).get b = none := by
  cases hg : (ofList l).get b with
  | none => rfl
  | some x => exact absurd rfl (h _ (ofList_get hg))
noncomputable def Sum.h0 (s : Sum) : H := { heap := ofList s.pre, size := s.s0, fp := 0, wr := 0 }
noncomputable def setAll (post : List (Nat × Blk)) (kill : List Nat) (t : Tr Blk) : Tr Blk :=
  post.foldl (fun t x => Tr.setP (pathOf x.1) (some x.2) t) (kill.foldl (fun t b => Tr.setP (pathOf b) none t) t)
theorem setKill_get : ∀ (kill : List Nat) (t : Tr Blk) (b : Nat), (kill.foldl (fun t b => Tr.setP (pathOf b) none t) t).get b = if b ∈ kill then none else t.get b
  | [], t, b => by simp
  | k :: kill, t, b => by
    rw [List.foldl_cons, setKill_get kill]
    by_cases h1 : b ∈ kill
    · simp [h1]
    · by_cases e : b = k
      · subst e
        simp only [h1, if_false, List.mem_cons, true_or, if_true]
        exact Tr.getP_setP _ _ _
      · simp only [h1, if_false, List.mem_cons, e, false_or]
        exact Tr.getP_setP_ne _ _ _ _ (fun p => e (pathOf_inj p))
theorem setPost_get : ∀ (post : List (Nat × Blk)) (t : Tr Blk) (b : Nat), ((∃ x, (b, x) ∈ post ∧ (post.foldl (fun t x => Tr.setP (pathOf x.1) (some x.2) t) t).get b = some x)) ∨
    ((∀ x ∈ post, x.1 ≠ b) ∧ (post.foldl (fun t x => Tr.setP (pathOf x.1) (some x.2) t) t).get b = t.get b)
  | [], t, b => .inr ⟨fun x h => (by cases h), rfl⟩
  | y :: post, t, b => by
    rw [List.foldl_cons]
    rcases setPost_get post (Tr.setP (pathOf y.1) (some y.2) t) b with ⟨x, h1, h2⟩ | ⟨h1, h2⟩
    · exact .inl ⟨x, List.mem_cons_of_mem _ h1, h2⟩
    · by_cases e : b = y.1
      · subst e
        exact .inl ⟨y.2, List.mem_cons_self, h2.trans (Tr.getP_setP _ _ _)⟩
      · refine .inr ⟨fun x hx => ?_, h2.trans (Tr.getP_setP_ne _ _ _ _ (fun p => e (pathOf_inj p)))⟩
        rcases List.mem_cons.1 hx with rfl | hx
        · exact fun p => e p.symm
        · exact h1 x hx
noncomputable def Sum.out (s : Sum) (h : H) : H := { heap := setAll s.post s.kill h.heap, size := s.s1, fp := Nat.lor h.fp s.fp, wr := Nat.lor h.wr s.wr }
/-- Does the summary speak of this call? -/
noncomputable def Sum.hit (s : Sum) (f : FuncId) (args : Array Value) (h : H) : Bool :=
  Nat.beq s.f f && Nat.beq s.s0 h.size && beqVs s.args args.toList && s.pre.all fun x => match h.get x.1 with
    | some y => beqB x.2 y
    | none => false
/-- What holds of the summary whatever the run. -/
def Sum.fine (s : Sum) : Bool :=
  s.pre.all (fun x => Nat.blt x.1 s.s0) && s.post.all (fun x => s.wr.testBit x.1) && s.kill.all (fun b => s.wr.testBit b) &&
    (List.range s.s0).all (fun b => (!s.fp.testBit b || s.pre.any fun x => Nat.beq x.1 b) && (!s.wr.testBit b || s.kill.contains b || s.post.any fun x => Nat.beq x.1 b)) && !(Nat.beq s.f YF)
theorem Sum.fine_ne {s : Sum} (h : s.fine = true) : s.f ≠ YF := fun e => by
  unfold Sum.fine at h
  rw [Bool.and_eq_true, e] at h
  cases h.2
noncomputable def Sum.valid (s : Sum) (call : ACall) : Bool :=
  s.fine && match call s.f ⟨s.args⟩ s.h0 with
    | some (v, h') => beqV v s.v && Nat.beq h'.size s.s1 && Nat.beq h'.fp s.fp && Nat.beq h'.wr s.wr && s.post.all fun x => match h'.get x.1 with
      | some y => beqB x.2 y
      | none => false
    | none => false

structure SumOk (P : Program) (GL : Nat → Bool) (s : Sum) : Prop where
  fine : s.fine = true
  ex : ∃ (call : ACall) (h' : H), CallSound P GL call ∧ call s.f ⟨s.args⟩ s.h0 = some (s.v, h') ∧ h'.size = s.s1 ∧ h'.fp = s.fp ∧ h'.wr = s.wr ∧ ∀ x ∈ s.post, h'.get x.1 = some x.2
theorem SumOk.of {P : Program} {GL : Nat → Bool} {s : Sum} {call : ACall} (hC : CallSound P GL call) (h : s.valid call = true) : SumOk P GL s := by
  unfold Sum.valid at h
  rw [Bool.and_eq_true] at h
  obtain ⟨h1, h2⟩ := h
  refine ⟨h1, ?_⟩
  split at h2
  case h_2 => cases h2
  next v h' hc =>
  simp only [Bool.and_eq_true, Nat.beq_eq, List.all_eq_true] at h2
  obtain ⟨⟨⟨⟨a1, a2⟩, a3⟩, a4⟩, a5⟩ := h2
  refine ⟨call, h', hC, by rw [hc, beqV_eq a1], a2, a3, a4, fun x hx => ?_⟩
  have := a5 x hx
  split at this
  · next y hy => rw [hy, beqB_eq this]
  · cases this

theorem Rep.less {K : Nat → Prop} {M : Mp} {g g' : Nat → Option Blk} {w : World} (hr : Rep K M g w) (h : ∀ b x, g' b = some x → g b = some x) : Rep K M g' w :=
  ⟨fun b x hb m hm => hr.blk b x (h b x hb) m hm, fun b x hb => hr.known b x (h b x hb), fun b c x y hb hc hn => hr.inj b c x y (h b x hb) (h c y hc) hn, hr.lt⟩

theorem Sum.sound {P : Program} {GL : Nat → Bool} {s : Sum} (hs : SumOk P GL s) {f : FuncId} {args : Array Value} {h : H} (hh : s.hit f args h = true) :
    Le h (s.out h) ∧ ∀ F K M g w args', Sub (s.out h).fp F → Agree F K g h → Rep K M g w → GOk GL K M → (∀ m, Cl K M m → args' = renR m args) →
      Calls P f args' w (Came h (s.out h) K M g w s.v) := by
  obtain ⟨hfine, call, h', hC, hcall, z1, z2, z3, z4⟩ := hs
  have hne := Sum.fine_ne hfine
  simp only [Sum.hit, Bool.and_eq_true, Nat.beq_eq, List.all_eq_true] at hh
  obtain ⟨⟨⟨rfl, hs0⟩, ha⟩, hpre⟩ := hh
  have hargs : args = ⟨s.args⟩ := by
    apply Array.ext'
    exact (beqVs_eq ha).symm
  subst hargs
  simp only [Sum.fine, Bool.and_eq_true, List.all_eq_true, Nat.blt_eq, List.mem_range, Bool.or_eq_true, Bool.not_eq_true', List.any_eq_true, Nat.beq_eq, List.contains_iff_mem] at hfine
  obtain ⟨⟨⟨⟨f1, f2⟩, f3⟩, f4⟩, _⟩ := hfine
  obtain ⟨l1, k1, _⟩ := hC _ _ _ _ _ hcall
  replace k1 := k1 hne
  have hpre' : ∀ b x, s.h0.get b = some x → h.get b = some x := fun b x hb => by
    have hm : (b, x) ∈ s.pre := ofList_get hb
    have := hpre _ hm
    split at this
    · next y hy => exact hy.trans (congrArg some (beqB_eq this).symm)
    · cases this
  have hout : ∀ b, (s.out h).get b = (s.out h).heap.get b := fun _ => rfl
  have ocase : ∀ b, (∃ x, (b, x) ∈ s.post ∧ (s.out h).get b = some x) ∨ ((∀ x ∈ s.post, x.1 ≠ b) ∧ (s.out h).get b = if b ∈ s.kill then none else h.get b) := fun b => by
    rcases setPost_get s.post (s.kill.foldl (fun t b => Tr.setP (pathOf b) none t) h.heap) b with ⟨x, h1, h2⟩ | ⟨h1, h2⟩
    · exact .inl ⟨x, h1, h2⟩
    · exact .inr ⟨h1, h2.trans (setKill_get _ _ _)⟩
  have omiss : ∀ b, s.wr.testBit b = false → (s.out h).get b = h.get b := fun b hb => by
    rcases ocase b with ⟨x, h1, _⟩ | ⟨_, h2⟩
    · have := f2 _ h1
      rw [hb] at this; cases this
    · rw [h2, if_neg (fun hk => by have := f3 b hk; rw [hb] at this; cases this)]
  have wr2 : ∀ b, (s.out h).wr.testBit b = (h.wr.testBit b || s.wr.testBit b) := fun b => lor_test
  have fp2 : ∀ b, (s.out h).fp.testBit b = (h.fp.testBit b || s.fp.testBit b) := fun b => lor_test
  have wrfp : ∀ b, s.wr.testBit b = true → s.fp.testBit b = true := fun b hb => by
    rcases l1.wf b (by rw [z3]; exact hb) with h3 | h3
    · change (0 : Nat).testBit b = true at h3; simp at h3
    · rwa [z2] at h3
  have hsz : s.s0 ≤ s.s1 := by have := l1.size; rw [z1] at this; exact this
  have hle : Le h (s.out h) := by
    refine ⟨by rw [← hs0]; exact hsz, fun b hb => by rw [fp2, hb]; rfl, fun b hb => by rw [wr2, hb]; rfl, fun b hb => ?_, fun b hb => ?_, fun b h1 h2 => ?_, fun b x h1 h2 => ?_⟩
    · rw [wr2, Bool.or_eq_true] at hb
      refine hb.imp id fun h3 => ?_
      rw [fp2, wrfp b h3, Bool.or_true]
    · rw [wr2, Bool.or_eq_false_iff] at hb
      exact omiss b hb.2
    · rw [wr2, ← z3, l1.new b (by rw [← hs0] at h1; exact h1) (by rw [z1]; exact h2), Bool.or_true]
    · rcases ocase b with ⟨y, h3, h4⟩ | ⟨_, h4⟩
      · obtain ⟨q, hq⟩ := l1.old b y (by rw [← hs0] at h1; exact h1) (z4 _ h3)
        exact ⟨q, hpre' b q hq⟩
      · rw [h4] at h2
        split at h2
        · cases h2
        · exact ⟨x, h2⟩
  refine ⟨hle, ?_⟩
  intro F K M g w args' hF ha hr hG hargs
  have hFs : Sub s.fp F := fun b hb => hF b (by rw [fp2, hb, Bool.or_true])
  have hag : Agree s.fp K g s.h0 := by
    refine ⟨fun b hb => ?_, fun b hb h1 => ha.free b (hFs b hb) (by rw [← hs0]; exact h1), fun b hb => by change (0 : Nat).testBit b = true at hb; simp at hb⟩
    rcases Nat.lt_or_ge b s.s0 with h1 | h1
    · obtain ⟨x, hx, hxb⟩ := ((f4 b h1).1).resolve_left (by rw [hb]; simp)
      subst hxb
      cases hg : s.h0.get x.1 with
      | none =>
        exfalso
        have : ∀ {l : List (Nat × Blk)} {y : Nat × Blk}, y ∈ l → (ofList l).get y.1 ≠ none := by
          intro l
          induction l with
          | nil => intro y hy; cases hy
          | cons z l ih =>
            intro y hy hn
            change Tr.getP (pathOf y.1) (Tr.setP (pathOf z.1) (some z.2) (ofList l)) = none at hn
            by_cases e : y.1 = z.1
            · rw [e, Tr.getP_setP] at hn; cases hn
            · rw [Tr.getP_setP_ne _ _ _ _ (fun p => e (pathOf_inj p))] at hn
              rcases List.mem_cons.1 hy with rfl | hy
              · exact e rfl
              · exact ih hy hn
        exact this hx hg
      | some q => rw [ha.eq _ (hFs _ hb), hpre' _ q hg]
    · have hk : ¬ K b := ha.free b (hFs b hb) (by rw [← hs0]; exact h1)
      have hg : g b = none := by
        cases hgb : g b with
        | none => rfl
        | some x => exact absurd (hr.known b x hgb) hk
      rw [hg]
      exact (ofList_none fun x hx e => by have := f1 x hx; omega).symm
  refine Calls.mono (k1 s.fp K M g w args' (by rw [z2]; exact Sub.refl _) hag hr hG hargs) ?_
  rintro e w' ⟨v', M', rfl, p, hv⟩
  have hs0' : s.h0.size = h.size := hs0
  have hsz' : h'.size = (s.out h).size := z1
  refine ⟨v', M', rfl, ?_, fun m hm => hv m (by rw [hs0', hsz']; exact hm)⟩
  have less : ∀ b x, Gn g (s.out h) b = some x → Gn g h' b = some x := by
    intro b x hb
    cases hw : s.wr.testBit b
    · rw [Gn_miss (by rw [z3]; exact hw)]
      cases hw2 : h.wr.testBit b
      · rwa [Gn_miss (by rw [wr2, hw, hw2]; rfl)] at hb
      · rw [Gn_hit (by rw [wr2, hw2]; rfl), omiss b hw] at hb
        rw [ha.eq b (ha.wr b hw2)]; exact hb
    · rw [Gn_hit (by rw [wr2, hw, Bool.or_true])] at hb
      rw [Gn_hit (by rw [z3]; exact hw)]
      rcases ocase b with ⟨y, h3, h4⟩ | ⟨h3, h4⟩
      · rw [h4] at hb
        simp only [Option.some.injEq] at hb
        subst hb
        exact z4 _ h3
      · rw [h4] at hb
        split at hb
        · cases hb
        · next hnk =>
          exfalso
          rcases Nat.lt_or_ge b s.s0 with h1 | h1
          · rcases (f4 b h1).2 with (h5 | h5) | ⟨x, h5, h6⟩
            · rw [hw] at h5; cases h5
            · exact hnk h5
            · exact h3 x h5 h6
          · have hF' : F.testBit b = true := hFs b (wrfp b hw)
            have hk := ha.free b hF' (by rw [← hs0]; exact h1)
            have hgb : g b = some x := by rw [ha.eq b hF']; exact hb
            exact hk (hr.known b x hgb)
  refine ⟨p.keep, ?_, fun r hr' hh => p.frame r hr' fun b x hb hw => hh b x hb (by rw [wr2, ← z3, hw, Bool.or_true]), fun b x hk hb => ?_, p.grow, p.env⟩
  · have := p.rep
    rw [hs0', hsz'] at this
    exact this.less less
  · exact (p.fresh b x hk (less b x hb)).imp id fun ⟨a, y, q1, q2, q3⟩ => ⟨a, y, q1, by rw [wr2, ← z3, q2, Bool.or_true], q3⟩

noncomputable def look (tab : List Sum) (f : FuncId) (args : Array Value) (h : H) : Option (Value × H) :=
  @List.rec Sum (fun _ => Option (Value × H)) none (fun s _ ih => bif s.hit f args h then some (s.v, s.out h) else ih) tab
noncomputable def scall (P : Program) (GL : Nat → Bool) (tab : List Sum) (n : Nat) : ACall :=
  @Nat.rec (fun _ => ACall) (fun _ _ _ => none) (fun _ ih f args h => match look tab f args h with
    | some r => some r
    | none => (fnC P GL f).run ih args h) n
theorem look_spec {f : FuncId} {args : Array Value} {h : H} {r : Value × H} : ∀ {tab : List Sum}, look tab f args h = some r → ∃ s ∈ tab, s.hit f args h = true ∧ r = (s.v, s.out h)
  | [], e => by cases e
  | s :: tab, e => by
    change (bif s.hit f args h then some (s.v, s.out h) else look tab f args h) = some r at e
    cases hh : s.hit f args h
    · rw [hh] at e
      obtain ⟨s', h1, h2⟩ := look_spec e
      exact ⟨s', List.mem_cons_of_mem _ h1, h2⟩
    · rw [hh] at e
      simp only [cond_true, Option.some.injEq] at e
      exact ⟨s, List.mem_cons_self, hh, e.symm⟩
theorem scall_sound {P : Program} {GL : Nat → Bool} {tab : List Sum} (hN : ∀ (g : Nat) (fn : Func), P.funcs[g]? = some fn → (fn.name == "runtime.NumGoroutine") = false) (hmix : P.follows .mixedOrders = true)
    (ht : ∀ s ∈ tab, SumOk P GL s) : ∀ n, CallSound P GL (scall P GL tab n)
  | 0 => fun f args h v h' e => by cases e
  | n + 1 => by
    intro f args h v h' e
    change (match look tab f args h with
      | some r => some r
      | none => (fnC P GL f).run (scall P GL tab n) args h) = some (v, h') at e
    split at e
    · next r hl =>
      obtain ⟨s, hs, hh, rfl⟩ := look_spec hl
      simp only [Option.some.injEq, Prod.mk.injEq] at e
      obtain ⟨rfl, rfl⟩ := e
      have hfe : f = s.f := by
        simp only [Sum.hit, Bool.and_eq_true, Nat.beq_eq] at hh
        exact hh.1.1.1.symm
      obtain ⟨l1, k1⟩ := Sum.sound (ht s hs) hh
      exact ⟨l1, fun _ => k1, fun he => absurd (hfe.symm.trans he) (Sum.fine_ne (ht s hs).fine)⟩
    · exact acall1_sound hN hmix (scall_sound hN hmix ht n) f args h v h' (fnC_ref P GL e)
end Go.Proofs.YtipceoeihiaieaaDoor.Ev
