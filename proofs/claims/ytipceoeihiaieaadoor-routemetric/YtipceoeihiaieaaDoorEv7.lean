/- append, of rows whose capacity is known only from below. -/
import Derived.Test.YtipceoeihiaieaaDoorEv6b
import Derived.Deep.AppendSrc
namespace Go.Proofs.YtipceoeihiaieaaDoor.Ev
open Go
open ren (renR renL)
open plain (plainR plainL)

theorem blkRel_heap {m : Mp} {w w' : World} (h : w'.heap = w.heap) {p : Pl} {x : Blk} (hx : BlkRel m w p x) : BlkRel m w' p x := by
  cases x with
  | row vs sz => unfold BlkRel at hx ⊢; rw [h]; exact hx
  | ro vs => unfold BlkRel World.cell? at hx ⊢; rw [h]; exact hx
  | obj o => unfold BlkRel at hx ⊢; rw [h]; exact hx
theorem Rep.of_heap {K : Nat → Prop} {M : Mp} {g : Nat → Option Blk} {w w' : World} (h : w'.heap = w.heap) (hr : Rep K M g w) : Rep K M g w' :=
  ⟨fun b x hb m hm => blkRel_heap h (hr.blk b x hb m hm), hr.known, hr.inj, fun b hb => by rw [h]; exact hr.lt b hb⟩
theorem Post.of_heap {h h' : H} {K : Nat → Prop} {M M' : Mp} {g : Nat → Option Blk} {w w1 w2 : World} (e : w2.heap = w1.heap) (he : Env w1 w2) (p : Post h h' K M g w M' w1) : Post h h' K M g w M' w2 :=
  ⟨p.keep, p.rep.of_heap e, fun r hr hh => by rw [e]; exact p.frame r hr hh, p.fresh, by rw [e]; exact p.grow, p.env.trans he⟩
theorem setCells_env (b : Nat) : ∀ (vs : List Value) (o : Nat) (w : World), Env w (w.setCells b o vs)
  | [], _, w => Env.refl w
  | v :: vs, o, w => by
    have h := setCells_env b vs (o + 1) (w.setCell ⟨b, o, none⟩ v)
    exact ⟨h.1, h.2.1, h.2.2⟩

noncomputable def rowAt (h : H) (a : Addr) (k : Nat) : Option (List Value) :=
  match a.spot, h.get a.block with
  | none, some (.row vs _) => bif Nat.beq ((vs.drop a.off).take k).length k then some ((vs.drop a.off).take k) else none
  | none, some (.ro vs) => bif Nat.beq ((vs.drop a.off).take k).length k then some ((vs.drop a.off).take k) else none
  | _, _ => none
theorem take_drop_get {l : List Value} {o k j : Nat} {u : Value} (h : ((l.drop o).take k)[j]? = some u) : l[o + j]? = some u := by
  rw [List.getElem?_take] at h
  split at h
  · rwa [List.getElem?_drop] at h
  · cases h
theorem renA_add' (m : Mp) (a : Addr) (j : Nat) (h : a.spot = none) : (renA m a).add j = ⟨(m a.block).b, a.off + (m a.block).s + j, none⟩ := by
  unfold Addr.add renA
  split
  · next e => subst e; simp [h]
  · rfl
theorem rowAt_cells {h : H} {a : Addr} {k : Nat} {l : List Value} {K : Nat → Prop} {M : Mp} {g : Nat → Option Blk} {w : World} (e : rowAt h a k = some l) (hg : g a.block = h.get a.block) (hr : Rep K M g w) :
    l.length = k ∧ a.spot = none ∧ (∃ x, h.get a.block = some x) ∧ ∀ m, Cl K M m → ∀ j u, l[j]? = some u → w.cell? ((renA m a).add j) = some (ren m u) := by
  unfold rowAt at e
  split at e
  · next vs sz h1 h2 =>
    cases hb : Nat.beq ((vs.drop a.off).take k).length k
    · rw [hb] at e; cases e
    · rw [hb] at e
      simp only [cond_true, Option.some.injEq] at e
      subst e
      refine ⟨Nat.eq_of_beq_eq_true hb, h1, ⟨_, h2⟩, fun m hm j u hj => ?_⟩
      have hg' := hg.trans h2
      obtain ⟨cs, el, e1, _, e2⟩ := hr.blk _ _ hg' m hm
      have hmb := hm _ (hr.known _ _ hg')
      rw [renA_add' m a j h1, hmb]
      simp only [World.cell?, e1, Option.isSome_none, Bool.false_eq_true, if_false]
      rw [show a.off + (M a.block).s + j = (M a.block).s + (a.off + j) by omega]
      exact e2 _ _ (take_drop_get hj)
  · next vs h1 h2 =>
    cases hb : Nat.beq ((vs.drop a.off).take k).length k
    · rw [hb] at e; cases e
    · rw [hb] at e
      simp only [cond_true, Option.some.injEq] at e
      subst e
      refine ⟨Nat.eq_of_beq_eq_true hb, h1, ⟨_, h2⟩, fun m hm j u hj => ?_⟩
      have hg' := hg.trans h2
      have e2 := hr.blk _ _ hg' m hm
      have hmb := hm _ (hr.known _ _ hg')
      rw [renA_add' m a j h1, hmb]
      have := e2 _ _ (take_drop_get hj)
      rw [show a.off + (M a.block).s + j = (M a.block).s + (a.off + j) by omega]
      exact this
  · cases e

/-- What is appended. -/
noncomputable def srcOf (P : Program) (h : H) (size : Nat) (tx : TypeId) (x : Value) : Option (Nat × List Value × H) :=
  match x, P.underlying tx with
  | .slice (some b) n _, some (.slice _) => match rowAt h b (n * size) with
    | some l => some (n, l, h.rd b.block)
    | none => none
  | .slice none n _, some (.slice _) => bif Nat.beq n 0 then some (0, [], h) else none
  | .string s, some .string => bif Nat.beq size 1 then some (s.size, byteCells s, h) else none
  | _, _ => none
theorem one_single {v : Value} (h : single v = true) : v.oneCell' = true := by cases v <;> simp_all [single, Value.oneCell']
theorem ren_one {m : Mp} {v : Value} (h : single v = true) : (ren m v).oneCell' = true := by cases v <;> simp_all [single, Value.oneCell', ren]
theorem byteCells_plain {m : Mp} (s : ByteArray) : (byteCells s).map (ren m) = byteCells s := by
  unfold byteCells
  rw [List.map_map]
  apply List.map_congr_left
  intro b _
  exact ren_plain m _ rfl
theorem srcOf_le {P : Program} {h h1 : H} {size : Nat} {tx : TypeId} {x : Value} {n : Nat} {l : List Value} (e : srcOf P h size tx x = some (n, l, h1)) :
    h1 = h ∨ ∃ b, h1 = h.rd b := by
  unfold srcOf at e
  split at e
  · split at e
    · simp only [Option.some.injEq, Prod.mk.injEq] at e; exact .inr ⟨_, e.2.2.symm⟩
    · cases e
  · next n _ _ _ =>
    cases hb : Nat.beq n 0
    · rw [hb] at e; cases e
    · rw [hb] at e; simp only [cond_true, Option.some.injEq, Prod.mk.injEq] at e; exact .inl e.2.2.symm
  · cases hb : Nat.beq size 1
    · rw [hb] at e; cases e
    · rw [hb] at e; simp only [cond_true, Option.some.injEq, Prod.mk.injEq] at e; exact .inl e.2.2.symm
  · cases e
theorem srcOf_src {P : Program} {h h1 : H} {size : Nat} {tx : TypeId} {x : Value} {n : Nat} {l : List Value} {F : Nat} {K : Nat → Prop} {M : Mp} {g : Nat → Option Blk} {w : World}
    (e : srcOf P h size tx x = some (n, l, h1)) (hs : l.all single = true) (hf : Sub h1.fp F) (ha : Agree F K g h) (hr : Rep K M g w) :
    ∀ m, Cl K M m → Src P size tx (ren m x) n (l.map (ren m)) w := by
  intro m hm
  have hone : ∀ u ∈ l.map (ren m), u.oneCell' = true := fun u hu => by
    obtain ⟨v, hv, rfl⟩ := List.mem_map.1 hu
    exact ren_one (List.all_eq_true.1 hs v hv)
  unfold srcOf at e
  split at e
  · next b n' c el hu =>
    split at e
    · next l' hl =>
      simp only [Option.some.injEq, Prod.mk.injEq] at e
      obtain ⟨rfl, rfl, rfl⟩ := e
      have hF : F.testBit b.block = true := hf _ (by simp [H.rd, bit_test])
      obtain ⟨e1, _, _, e2⟩ := rowAt_cells hl (ha.eq _ hF) hr
      simp only [ren, Option.map_some]
      refine Src.ofSlice w hu _ _ _ _ (by simpa using e1) (fun j u hj => ?_) hone
      rw [List.getElem?_map] at hj
      cases hlj : l'[j]? with
      | none => rw [hlj] at hj; cases hj
      | some v =>
        rw [hlj] at hj
        simp only [Option.map_some, Option.some.injEq] at hj
        subst hj
        exact e2 m hm j v hlj
    · cases e
  · next n' c el hu =>
    cases hb : Nat.beq n' 0
    · rw [hb] at e; cases e
    · rw [hb] at e
      simp only [cond_true, Option.some.injEq, Prod.mk.injEq] at e
      obtain ⟨rfl, rfl, rfl⟩ := e
      have := Nat.eq_of_beq_eq_true hb
      subst this
      simp only [ren, Option.map_none, List.map_nil]
      exact Src.ofNil w hu _
  · next s hu =>
    cases hb : Nat.beq size 1
    · rw [hb] at e; cases e
    · rw [hb] at e
      simp only [cond_true, Option.some.injEq, Prod.mk.injEq] at e
      obtain ⟨rfl, rfl, rfl⟩ := e
      have := Nat.eq_of_beq_eq_true hb
      subst this
      simp only [ren, byteCells_plain]
      exact Src.ofString w hu s
  · cases e

theorem setCells_heap (b : Nat) : ∀ (vs : List Value) (o : Nat) (w : World), (∀ r, r ≠ b → (w.setCells b o vs).heap[r]? = w.heap[r]?) ∧ (w.setCells b o vs).heap.size = w.heap.size ∧
    ∀ cs e fr, w.heap[b]? = some (.cells cs e fr) → o + vs.length ≤ cs.size → ∃ cs', (w.setCells b o vs).heap[b]? = some (.cells cs' e fr) ∧ cs'.size = cs.size ∧
      (∀ i, i < o ∨ o + vs.length ≤ i → cs'[i]? = cs[i]?) ∧ ∀ (j : Nat) (v : Value), vs[j]? = some v → cs'[o + j]? = some v
  | [], o, w => ⟨fun _ _ => rfl, rfl, fun cs e fr h _ => ⟨cs, h, rfl, fun _ _ => rfl, fun _ _ hj => by cases hj⟩⟩
  | v :: vs, o, w => by
    obtain ⟨h1, h2, h3⟩ := setCells_heap b vs (o + 1) (w.setCell ⟨b, o, none⟩ v)
    refine ⟨fun r hr => ?_, ?_, fun cs e fr h hl => ?_⟩
    · rw [World.setCells, h1 r hr, setCell_get, if_neg (Ne.symm hr)]
    · rw [World.setCells, h2, setCell_size]
    · have hc : (w.setCell ⟨b, o, none⟩ v).heap[b]? = some (.cells (cs.setIfInBounds o v) e fr) := by
        rw [setCell_get, if_pos rfl, h]; rfl
      simp only [List.length_cons] at hl
      obtain ⟨cs', f1, f2, f3, f4⟩ := h3 _ e fr hc (by simp; omega)
      refine ⟨cs', f1, by simpa using f2, fun i hi => ?_, fun j u hj => ?_⟩
      · simp only [List.length_cons] at hi
        rw [f3 i (by omega), Array.getElem?_setIfInBounds_ne (by omega)]
      · cases j with
        | zero =>
          simp only [List.getElem?_cons_zero, Option.some.injEq] at hj
          subst hj
          rw [Nat.add_zero, f3 o (by omega), Array.getElem?_setIfInBounds_self_of_lt (by omega)]
        | succ j =>
          simp only [List.getElem?_cons_succ] at hj
          rw [show o + (j + 1) = o + 1 + j by omega]
          exact f4 j u hj

/-- One row with others written over a part of it. -/
def splice (vs : List Value) (o : Nat) (news : List Value) : List Value := vs.take o ++ news ++ vs.drop (o + news.length)
theorem splice_length {vs : List Value} {o : Nat} {news : List Value} (h : o + news.length ≤ vs.length) : (splice vs o news).length = vs.length := by
  unfold splice
  simp only [List.length_append, List.length_take, List.length_drop]
  omega
theorem splice_get {vs : List Value} {o : Nat} {news : List Value} (h : o + news.length ≤ vs.length) {i : Nat} {v : Value} (hi : (splice vs o news)[i]? = some v) :
    (o ≤ i ∧ i < o + news.length ∧ news[i - o]? = some v) ∨ ((i < o ∨ o + news.length ≤ i) ∧ vs[i]? = some v) := by
  unfold splice at hi
  rcases Nat.lt_or_ge i o with h1 | h1
  · right
    refine ⟨.inl h1, ?_⟩
    rw [List.getElem?_append_left (by simp; omega), List.getElem?_append_left (by simp; omega), List.getElem?_take, if_pos h1] at hi
    exact hi
  · rcases Nat.lt_or_ge i (o + news.length) with h2 | h2
    · left
      refine ⟨h1, h2, ?_⟩
      rw [List.getElem?_append_left (by simp; omega), List.getElem?_append_right (by simp; omega)] at hi
      rwa [show (vs.take o).length = o by simp; omega] at hi
    · right
      refine ⟨.inr h2, ?_⟩
      rw [List.getElem?_append_right (by simp; omega), List.getElem?_drop] at hi
      rwa [show o + news.length + (i - (vs.take o ++ news).length) = i by simp; omega] at hi
end Go.Proofs.YtipceoeihiaieaaDoor.Ev
