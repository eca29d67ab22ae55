/- A region that draws its order: in whatever order, it leaves what it is reckoned to leave. -/
import Derived.Test.YtipceoeihiaieaaDoorEv11
namespace Go.Proofs.YtipceoeihiaieaaDoor.Ev
open Go
open ren (renR renL)
open plain (plainR plainL)

structure PX (K0 : Nat → Prop) (M0 : Mp) (g0 : Nat → Option Blk) (w0 : World) (W : Nat → Prop) (K : Nat → Prop) (g : Nat → Option Blk) (M : Mp) (w : World) : Prop where
  sub : ∀ b, K0 b → K b
  keep : ∀ b, K0 b → M b = M0 b
  rep : Rep K M g w
  live : ∀ b x, K0 b → g b = some x → ∃ y, g0 b = some y
  frame : ∀ r, r < w0.heap.size → (∀ b x, g0 b = some x → W b → (M0 b).b ≠ r) → w.heap[r]? = w0.heap[r]?
  fresh : ∀ b x, ¬ K0 b → g b = some x → w0.heap.size ≤ (M b).b ∨ ∃ a y, g0 a = some y ∧ W a ∧ (M b).b = (M0 a).b
  grow : w0.heap.size ≤ w.heap.size
  env : Env w0 w
theorem PX.trans {K0 K1 K2 : Nat → Prop} {M0 M1 M2 : Mp} {g0 g1 g2 : Nat → Option Blk} {w0 w1 w2 : World} {W : Nat → Prop} (p1 : PX K0 M0 g0 w0 W K1 g1 M1 w1) (p2 : PX K1 M1 g1 w1 W K2 g2 M2 w2) :
    PX K0 M0 g0 w0 W K2 g2 M2 w2 where
  sub := fun b h => p2.sub b (p1.sub b h)
  keep := fun b h => (p2.keep b (p1.sub b h)).trans (p1.keep b h)
  rep := p2.rep
  live := fun b x h hx => let ⟨y, hy⟩ := p2.live b x (p1.sub b h) hx; p1.live b y h hy
  frame := fun r hr hh => by
    rw [p2.frame r (Nat.lt_of_lt_of_le hr p1.grow), p1.frame r hr hh]
    intro b x hb hw e
    by_cases hk : K0 b
    · obtain ⟨y, hy⟩ := p1.live b x hk hb
      exact hh b y hy hw (by rw [← p1.keep b hk]; exact e)
    · rcases p1.fresh b x hk hb with h3 | ⟨a, y, ha, hwa, h3⟩
      · omega
      · exact hh a y ha hwa (by rw [← h3]; exact e)
  fresh := fun b x hk hx => by
    by_cases hk1 : K1 b
    · obtain ⟨y, hy⟩ := p2.live b x hk1 hx
      rw [p2.keep b hk1]
      exact p1.fresh b y hk hy
    · rcases p2.fresh b x hk1 hx with h3 | ⟨a, y, hga, hwa, h3⟩
      · exact .inl (Nat.le_trans p1.grow h3)
      · by_cases hka : K0 a
        · obtain ⟨z, hz⟩ := p1.live a y hka hga
          exact .inr ⟨a, z, hz, hwa, by rw [h3, p1.keep a hka]⟩
        · rcases p1.fresh a y hka hga with h4 | ⟨c, z, hc, hwc, h4⟩
          · exact .inl (by rw [h3]; exact h4)
          · exact .inr ⟨c, z, hc, hwc, h3.trans h4⟩
  grow := Nat.le_trans p1.grow p2.grow
  env := p1.env.trans p2.env
theorem Post.px {F : Nat} {h h' : H} {K : Nat → Prop} {M M' : Mp} {g : Nat → Option Blk} {w w' : World} {W : Nat → Prop} (ha : Agree F K g h) (hl : Le h h') (hf : Sub h'.fp F) (hW : ∀ b, h'.wr.testBit b = true → W b)
    (p : Post h h' K M g w M' w') : PX K M g w W (Kn K h.size h'.size) (Gn g h') M' w' where
  sub := fun _ h => .inl h
  keep := p.keep
  rep := p.rep
  live := fun _ _ hk hx => ha.live hl hf hk hx
  frame := fun r hr hh => p.frame r hr fun b x hb hw => hh b x hb (hW b hw)
  fresh := fun b x hk hx => (p.fresh b x hk hx).imp id fun ⟨a, y, h1, h2, h3⟩ => ⟨a, y, h1, hW a h2, h3⟩
  grow := p.grow
  env := p.env
theorem PX.post {h h' : H} {K : Nat → Prop} {M M' : Mp} {g : Nat → Option Blk} {w w' : World} (p : PX K M g w (fun b => h'.wr.testBit b = true) (Kn K h.size h'.size) (Gn g h') M' w') : Post h h' K M g w M' w' :=
  ⟨p.keep, p.rep, p.frame, p.fresh, p.grow, p.env⟩

section
variable (ops : List Oper) (r : List (Value × H)) (h : H) (T : Tm)
def rV (k : Nat) : Value := (r.getD k (undef, ⟨.leaf, 0, 0, 0⟩)).1
def rH (k : Nat) : H := (r.getD k (undef, ⟨.leaf, 0, 0, 0⟩)).2
def rH0 : Nat → H
  | 0 => h.clear
  | k + 1 => (rH r k).clear
def dstAt (k : Nat) : Option Tmp := (ops[k]?).bind (·.dst)
noncomputable def rT : Nat → Tm
  | 0 => T
  | k + 1 => (rT k).put (dstAt ops k) (rV r k)
noncomputable def gs (D : Nat → Bool) (g0 : Nat → Option Blk) : Nat → (Nat → Option Blk)
  | 0 => g0
  | k + 1 => if D k = true then Gn (gs D g0 k) (rH r k) else gs D g0 k
def ks (D : Nat → Bool) (K0 : Nat → Prop) : Nat → (Nat → Prop)
  | 0 => K0
  | k + 1 => if D k = true then Kn (ks D K0 k) (rH0 r h k).size (rH r k).size else ks D K0 k
noncomputable def ts (D : Nat → Bool) : Nat → Tm
  | 0 => T
  | k + 1 => if D k = true then (ts D k).put (dstAt ops k) (rV r k) else ts D k
end

theorem rT_cons (o : Oper) (ops : List Oper) (x : Value × H) (r : List (Value × H)) (T : Tm) : ∀ k, rT (o :: ops) (x :: r) T (k + 1) = rT ops r (T.put o.dst x.1) k
  | 0 => rfl
  | k + 1 => by
    rw [rT, rT_cons o ops x r T k]
    rfl
theorem runSeq_spec {call : ACall} {P : Program} {GL : Nat → Bool} {aops : Array Oper} : ∀ (l : List Oper) {T T' : Tm} {h : H} {r : List (Value × H)}, runSeq call P GL aops l T h = some (r, T') →
    r.length = l.length ∧ T' = rT l r T l.length ∧ ∀ k o, l[k]? = some o → astep call P GL aops o (rT l r T k) (rH0 r h k) = some (rV r k, rH r k)
  | [], T, T', h, r, e => by
    simp only [runSeq, Option.some.injEq, Prod.mk.injEq] at e
    obtain ⟨rfl, rfl⟩ := e
    exact ⟨rfl, rfl, fun k o hk => by simp at hk⟩
  | o :: l, T, T', h, r, e => by
    simp only [runSeq] at e
    split at e
    case h_2 => cases e
    next v h1 hs =>
    split at e
    case h_2 => cases e
    next r' T1 hr =>
    simp only [Option.some.injEq, Prod.mk.injEq] at e
    obtain ⟨rfl, rfl⟩ := e
    obtain ⟨a1, a2, a3⟩ := runSeq_spec l hr
    refine ⟨by simp [a1], ?_, fun k o' hk => ?_⟩
    · rw [List.length_cons, rT_cons]; exact a2
    · cases k with
      | zero =>
        simp only [List.getElem?_cons_zero, Option.some.injEq] at hk
        subst hk
        exact hs
      | succ k =>
        simp only [List.getElem?_cons_succ] at hk
        have := a3 k o' hk
        rw [rT_cons]
        have hh : rH0 ((v, h1) :: r') h (k + 1) = rH0 r' h1 k := by cases k <;> rfl
        rw [hh]
        exact this

/-- What the reckoning of such a region has shown. -/
structure Canon (call : ACall) (P : Program) (GL : Nat → Bool) (aops : Array Oper) (bs : List Nat) (r : List (Value × H)) (T : Tm) (h : H) : Prop where
  len : r.length = aops.toList.length
  step : ∀ k o, aops.toList[k]? = some o → astep call P GL aops o (rT aops.toList r T k) (rH0 r h k) = some (rV r k, rH r k)
  edge : ∀ k o, aops.toList[k]? = some o → edgesOk k o.after.toList = true ∧ bs[k]? = some (bfOne (bs.take k) o.after.toList)
  apart : ∀ i j oi oj, i < j → aops.toList[i]? = some oi → aops.toList[j]? = some oj → (bs.getD j 0).testBit i = true ∨
    (∀ b, (rH r i).wr.testBit b = true → (rH r j).fp.testBit b = false) ∧ (∀ b, (rH r j).wr.testBit b = true → (rH r i).fp.testBit b = false) ∧
    (∀ t, oi.dst = some t → t ∉ oj.looksAt aops ∧ oj.dst ≠ some t) ∧ (∀ t, oj.dst = some t → t ∉ oi.looksAt aops)

theorem dtOf_get (aops : Array Oper) : ∀ (l : List Oper) (bs : List Nat) (r : List (Value × H)) (k : Nat) (o : Oper), bs.length = l.length → r.length = l.length → l[k]? = some o →
    (dtOf aops l bs r)[k]? = some { bf := bs.getD k 0, lk := maskOf (o.looksAt aops), d := maskOf o.dst.toList, fp := (rH r k).fp, wr := (rH r k).wr }
  | [], bs, r, k, o, _, _, h => by simp at h
  | o' :: l, [], r, k, o, hb, _, h => by simp at hb
  | o' :: l, b :: bs, [], k, o, _, hr, h => by simp at hr
  | o' :: l, b :: bs, x :: r, k, o, hb, hr, h => by
    simp only [dtOf]
    cases k with
    | zero =>
      simp only [List.getElem?_cons_zero, Option.some.injEq] at h ⊢
      subst h
      rfl
    | succ k =>
      simp only [List.getElem?_cons_succ] at h ⊢
      rw [dtOf_get aops l bs r k o (by simpa using hb) (by simpa using hr) h]
      rfl
theorem disj_spec {x y : Dt} (h : disj x y = true) : (∀ b, x.wr.testBit b = true → y.fp.testBit b = false) ∧ (∀ b, y.wr.testBit b = true → x.fp.testBit b = false) ∧
    (∀ t, x.d.testBit t = true → y.lk.testBit t = false ∧ y.d.testBit t = false) ∧ ∀ t, x.lk.testBit t = true → y.d.testBit t = false := by
  simp only [disj, Bool.and_eq_true] at h
  obtain ⟨⟨⟨h1, h2⟩, h3⟩, h4⟩ := h
  refine ⟨fun b => land_zero h1, fun b => land_zero h2, fun t ht => ?_, fun t => land_zero h4⟩
  have := land_zero h3 ht
  change (y.lk ||| y.d).testBit t = false at this
  rw [Nat.testBit_or, Bool.or_eq_false_iff] at this
  exact this
theorem canon_of {call : ACall} {P : Program} {GL : Nat → Bool} {aops : Array Oper} {T T' : Tm} {h : H} {bs : List Nat} {r : List (Value × H)} (hb : bfGo aops.toList [] = some bs) (hr : runSeq call P GL aops aops.toList T h = some (r, T'))
    (hc : chkAll 0 (dtOf aops aops.toList bs r) = true) : Canon call P GL aops bs r T h ∧ T' = rT aops.toList r T aops.toList.length := by
  obtain ⟨a1, a2, a3⟩ := runSeq_spec _ hr
  obtain ⟨b1, _, b3⟩ := bfGo_spec _ _ _ hb
  simp only [List.length_nil, Nat.zero_add] at b1 b3
  refine ⟨⟨a1, a3, b3, fun i j oi oj hij hi hj => ?_⟩, a2⟩
  have := chkAll_spec hc i j _ _ hij (dtOf_get aops _ bs r i oi b1 a1 hi) (dtOf_get aops _ bs r j oj b1 a1 hj)
  simp only [Nat.zero_add] at this
  refine this.imp id fun hd => ?_
  obtain ⟨d1, d2, d3, d4⟩ := disj_spec hd
  refine ⟨d1, d2, fun t ht => ?_, fun t ht hm => ?_⟩
  · obtain ⟨e1, e2⟩ := d3 t (maskOf_test.2 (by simp [ht]))
    refine ⟨fun hm => ?_, fun he => ?_⟩
    · rw [maskOf_test.2 hm] at e1; cases e1
    · rw [maskOf_test.2 (by simp [he])] at e2; cases e2
  · have := d4 t (maskOf_test.2 hm)
    rw [maskOf_test.2 (by simp [ht])] at this
    cases this
end Go.Proofs.YtipceoeihiaieaaDoor.Ev
