/- A reckoned run of an operation's steps is a run of the model's. -/
import Derived.Test.YtipceoeihiaieaaDoorEv2
namespace Go.Proofs.YtipceoeihiaieaaDoor.Ev
open Go
open ren (renR renL)
open plain (plainR plainL)

theorem Cl.next {K : Nat → Prop} {M M' m : Mp} {a b : Nat} (hk : ∀ b, K b → M' b = M b) (h : Cl (Kn K a b) M' m) : Cl K M m :=
  fun i hi => (h i (.inl hi)).trans (hk i hi)

theorem ren_single {m : Mp} {v : Value} (h : single v = true) : (∀ cs, ren m v ≠ .agg cs) ∧ ∀ vs, ren m v ≠ .tuple vs := by
  cases v <;> simp_all [single, ren]
theorem run_store_ok {P : Program} {α : Type} {md : Mode} {a : Addr} {v u : Value} {k : Sem α} {w : World} (h : (∀ cs, v ≠ .agg cs) ∧ ∀ vs, v ≠ .tuple vs) (hc : w.cell? a = some u)
    (hf : w.frozen? a = false) : (Sem.store md a v k).run P w = k.run P (w.setCell a v) := by
  cases v with
  | agg cs => exact absurd rfl (h.1 cs)
  | tuple vs => exact absurd rfl (h.2 vs)
  | _ => simp only [Sem.run, hc, hf]; rfl

/-- How a run goes on behind one step. -/
theorem step_on {P : Program} {α : Type} {R : Mp → α → α → Prop} {h h1 h' : H} {a : α} {F : Nat} {K : Nat → Prop} {M M1 : Mp} {g : Nat → Option Blk} {w w1 : World} {k k' : Sem α}
    (ha : Agree F K g h) (hl : Le h h1) (he : arun P k h1 = some (a, h')) (hf : Sub h'.fp F) (hP : Post h h1 K M g w M1 w1)
    (ih : Sub h'.fp F → Agree F (Kn K h.size h1.size) (Gn g h1) h1 → Rep (Kn K h.size h1.size) M1 (Gn g h1) w1 →
      ∃ b M' w', k'.run P w1 = .ok b w' ∧ Post h1 h' (Kn K h.size h1.size) M1 (Gn g h1) w1 M' w' ∧ ∀ m, Cl (Kn (Kn K h.size h1.size) h1.size h'.size) M' m → R m a b) :
    ∃ b M' w', k'.run P w1 = .ok b w' ∧ Post h h' K M g w M' w' ∧ ∀ m, Cl (Kn K h.size h'.size) M' m → R m a b := by
  have l2 := arun_le _ he
  have hf1 := l2.fp.trans hf
  obtain ⟨b, M', w', r1, r2, r3⟩ := ih hf (ha.next hl hf1) hP.rep
  refine ⟨b, M', w', r1, Post.trans ha hf1 hl l2 hP r2, fun m hm => r3 m ?_⟩
  rw [Kn_trans hl.size l2.size]; exact hm

theorem arun_sound {P : Program} {α : Type} {R : Mp → α → α → Prop} (s : Sem α) : ∀ {s' : Sem α} {h h' : H} {a : α} {F : Nat} {K : Nat → Prop} {M : Mp} {g : Nat → Option Blk} {w : World},
    arun P s h = some (a, h') → Sub h'.fp F → Agree F K g h → Rep K M g w → (∀ m, Cl K M m → Sim P (R m) m s s') →
    ∃ b M' w', s'.run P w = .ok b w' ∧ Post h h' K M g w M' w' ∧ ∀ m, Cl (Kn K h.size h'.size) M' m → R m a b := by
  induction s with
  | pure a =>
    intro s' h h' x F K M g w e hf ha hr hs
    simp only [arun, Option.some.injEq, Prod.mk.injEq] at e
    obtain ⟨rfl, rfl⟩ := e
    have key : ∃ b, s' = .pure b := by
      cases hs M Cl.refl with
      | doom h => have := h ⟨.leaf, 0, 0, 0⟩; simp [arun] at this
      | pure h => exact ⟨_, rfl⟩
    obtain ⟨b, rfl⟩ := key
    refine ⟨b, M, w, rfl, Post.same ha hr h rfl rfl (fun _ => rfl), fun m hm => ?_⟩
    rw [Kn_self] at hm
    cases hs m hm with
    | doom h => have := h ⟨.leaf, 0, 0, 0⟩; simp [arun] at this
    | pure h => exact h
  | load md ad k ih =>
    intro s' h h' x F K M g w e hf ha hr hs
    have hex : (∃ vs sz v, ad.spot = none ∧ h.get ad.block = some (.row vs sz) ∧ vs[ad.off]? = some v ∧ arun P (k v) (h.rd ad.block) = some (x, h'))
        ∨ ∃ vs v, ad.spot = none ∧ h.get ad.block = some (.ro vs) ∧ vs[ad.off]? = some v ∧ arun P (k v) (h.rd ad.block) = some (x, h') := by
      simp only [arun] at e
      split at e
      · next h1 h2 =>
        split at e
        · next h3 => exact .inl ⟨_, _, _, h1, h2, h3, e⟩
        · cases e
      · next h1 h2 =>
        split at e
        · next h3 => exact .inr ⟨_, _, h1, h2, h3, e⟩
        · cases e
      · cases e
    have hcell : ∃ v, (∀ m, Cl K M m → w.cell? (renA m ad) = some (ren m v)) ∧ arun P (k v) (h.rd ad.block) = some (x, h') := by
      rcases hex with ⟨vs, sz, v, h1, h2, h3, h4⟩ | ⟨vs, v, h1, h2, h3, h4⟩
      · have hF : F.testBit ad.block = true := hf _ ((arun_le _ h4).fp _ (by simp [H.rd, bit_test]))
        refine ⟨v, fun m hm => ?_, h4⟩
        have hg := (ha.eq _ hF).trans h2
        obtain ⟨cs, el, e1, _, e2⟩ := hr.blk _ _ hg m hm
        have hmb := hm _ (hr.known _ _ hg)
        simp only [renA, World.cell?, h1, hmb, e1]
        simp only [Option.isSome_none, Bool.false_eq_true, if_false]
        rw [Nat.add_comm]; exact e2 _ _ h3
      · have hF : F.testBit ad.block = true := hf _ ((arun_le _ h4).fp _ (by simp [H.rd, bit_test]))
        refine ⟨v, fun m hm => ?_, h4⟩
        have hg := (ha.eq _ hF).trans h2
        have e2 := hr.blk _ _ hg m hm
        have hmb := hm _ (hr.known _ _ hg)
        have := e2 _ _ h3
        simp only [renA, h1, hmb]
        rw [Nat.add_comm]; exact this
    obtain ⟨v, h2, h3⟩ := hcell
    have nd : ¬ ∀ hh, arun P (.load md ad k) hh = none := fun hd => by rw [hd h] at e; cases e
    have key : ∃ k', s' = .load md (renA M ad) k' := by
      cases hs M Cl.refl with
      | doom h => exact absurd h nd
      | load h => exact ⟨_, rfl⟩
    obtain ⟨k', rfl⟩ := key
    have hsim : ∀ m, Cl K M m → renA m ad = renA M ad ∧ ∀ v, Sim P (R m) m (k v) (k' (ren m v)) := fun m hm => by
      generalize hA : renA M ad = A
      have := hs m hm
      rw [hA] at this
      cases this with
      | doom h => exact absurd h nd
      | load h => exact ⟨rfl, h⟩
    have hv : ∀ m, Cl K M m → ren m v = ren M v := fun m hm => by
      have a1 := h2 m hm
      rw [(hsim m hm).1, h2 M Cl.refl] at a1
      exact (Option.some.inj a1).symm
    have hP := Post.same ha hr (h.rd ad.block) rfl rfl (fun _ => rfl)
    have := step_on (k' := k' (ren M v)) ha (Le.rd h ad.block) h3 hf hP fun q1 q2 q3 => ih v h3 q1 q2 q3 (fun m hm => by
      have hm' := Cl.next hP.keep hm
      have := (hsim m hm').2 v
      rw [hv m hm'] at this
      exact this)
    obtain ⟨b, M', w', r1, r2, r3⟩ := this
    exact ⟨b, M', w', by simp only [Sem.run, h2 M Cl.refl]; exact r1, r2, r3⟩
  | store md ad v k ih =>
    intro s' h h' x F K M g w e hf ha hr hs
    have hex : ∃ vs sz, single v = true ∧ ad.spot = none ∧ h.get ad.block = some (.row vs sz) ∧ ad.off < vs.length ∧ arun P k (h.put ad.block (some (.row (vs.set ad.off v) sz))) = some (x, h') := by
      simp only [arun] at e
      split at e
      · next vs sz h0 h1 h2 =>
        cases hb : Nat.blt ad.off vs.length
        · rw [hb] at e; cases e
        · rw [hb] at e; exact ⟨vs, sz, h0, h1, h2, by simpa [Nat.blt_eq] using hb, e⟩
      · cases e
    obtain ⟨vs, sz, h0, h1, h2, h3, h4⟩ := hex
    have hF : F.testBit ad.block = true := hf _ ((arun_le _ h4).fp _ (by simp [H.put, bit_test]))
    have hg := (ha.eq _ hF).trans h2
    have nd : ¬ ∀ hh, arun P (.store md ad v k) hh = none := fun hd => by rw [hd h] at e; cases e
    have key : ∃ k', s' = .store md (renA M ad) (ren M v) k' := by
      cases hs M Cl.refl with
      | doom h => exact absurd h nd
      | store h => exact ⟨_, rfl⟩
    obtain ⟨k', rfl⟩ := key
    have hsim : ∀ m, Cl K M m → ren m v = ren M v ∧ Sim P (R m) m k k' := fun m hm => by
      generalize hA : renA M ad = A
      generalize hV : ren M v = V
      have := hs m hm
      rw [hA, hV] at this
      cases this with
      | doom h => exact absurd h nd
      | store h => exact ⟨rfl, h⟩
    obtain ⟨cs, el, e1, e2, e3⟩ := hr.blk _ _ hg M Cl.refl
    have hoff : ad.off + (M ad.block).s < cs.size := by omega
    have hc0 : ∃ u, w.cell? (renA M ad) = some u := by
      simp only [renA, World.cell?, h1, e1, Option.isSome_none, Bool.false_eq_true, if_false]
      exact ⟨_, Array.getElem?_eq_getElem hoff⟩
    obtain ⟨u, hc0⟩ := hc0
    have hfr : w.frozen? (renA M ad) = false := by
      simp only [renA, World.frozen?, e1]
      simp
    have hrun : (Sem.store md (renA M ad) (ren M v) k').run P w = k'.run P (w.setCell (renA M ad) (ren M v)) :=
      run_store_ok (ren_single h0) hc0 hfr
    have hhp : (w.setCell (renA M ad) (ren M v)).heap[(M ad.block).b]? = some (.cells (cs.setIfInBounds (ad.off + (M ad.block).s) (ren M v)) el (0, 0)) := by
      rw [setCell_get]
      simp only [renA, if_true, h1, e1, Option.map_some, Option.isSome_none, Bool.false_eq_true, if_false]
    have hP : Post h (h.put ad.block (some (.row (vs.set ad.off v) sz))) K M g w M (w.setCell (renA M ad) (ren M v)) := by
      refine Post.turn ha hF hr hg (setCell_size _ _ _) (fun r hr' => ?_) (fun m hm => ?_) ⟨rfl, rfl, rfl⟩
      · rw [setCell_get, if_neg]
        simpa [renA] using fun e => hr' e.symm
      · obtain ⟨cs', el', f1, f2, f3⟩ := hr.blk _ _ hg m hm
        rw [e1] at f1
        simp only [Option.some.injEq, Obj.cells.injEq] at f1
        obtain ⟨rfl, rfl, _⟩ := f1
        refine ⟨_, _, hhp, by simpa using f2, fun i z hz => ?_⟩
        by_cases hi : ad.off = i
        · subst hi
          rw [List.getElem?_set_self h3] at hz
          simp only [Option.some.injEq] at hz
          subst hz
          rw [Nat.add_comm ad.off, Array.getElem?_setIfInBounds_self_of_lt (by omega), (hsim m hm).1]
        · rw [List.getElem?_set_ne hi] at hz
          rw [Array.getElem?_setIfInBounds_ne (by omega)]
          exact f3 i z hz
    have hl := Le.put h ad.block (some (.row (vs.set ad.off v) sz)) ⟨_, h2⟩
    obtain ⟨b, M', w', r1, r2, r3⟩ := step_on (k' := k') ha hl h4 hf hP fun q1 q2 q3 => ih h4 q1 q2 q3 (fun m hm => (hsim m (Cl.next hP.keep hm)).2)
    exact ⟨b, M', w', hrun.trans r1, r2, r3⟩
  | new o k ih =>
    intro s' h h' x F K M g w e hf ha hr hs
    have hex : ∃ y, blkOf o = some y ∧ arun P (k h.size) (h.push y) = some (x, h') := by
      simp only [arun] at e
      split at e
      · next hb => exact ⟨_, hb, e⟩
      · cases e
    obtain ⟨y, hb, h4⟩ := hex
    have hF : F.testBit h.size = true := hf _ ((arun_le _ h4).fp _ (by simp [H.push, bit_test]))
    have nd : ¬ ∀ hh, arun P (.new o k) hh = none := fun hd => by rw [hd h] at e; cases e
    have key : ∃ k', s' = .new (renO M o) k' := by
      cases hs M Cl.refl with
      | doom h => exact absurd h nd
      | new h => exact ⟨_, rfl⟩
    obtain ⟨k', rfl⟩ := key
    have hsim : ∀ m, Cl K M m → renO m o = renO M o ∧ ∀ n, (m n).s = 0 → (m n).x = 0 → Sim P (R m) m (k n) (k' (m n).b) := fun m hm => by
      generalize hO : renO M o = O
      have := hs m hm
      rw [hO] at this
      cases this with
      | doom h => exact absurd h nd
      | new h => exact ⟨rfl, h⟩
    have hP : Post h (h.push y) K M g w (fun i => if i = h.size then ⟨w.heap.size, 0, 0⟩ else M i) { w with heap := w.heap.push (renO M o) } := by
      refine Post.push ha hF hr (fun m hm => ?_)
      rcases blkOf_some hb with ⟨c, el, rfl, rfl⟩ | ⟨rfl, hok⟩
      · refine ⟨renR M c, el, ?_, ?_, fun i z hz => ?_⟩
        · simp [renO]
        · simp [renR_map]
        · have h5 : renR m c = renR M c := by
            have := (hsim m hm).1
            simp only [renO, Obj.cells.injEq] at this
            exact this.1
          rw [← h5, renR_map, Nat.zero_add, Array.getElem?_map]
          have : c[i]? = some z := by rw [← Array.getElem?_toList]; exact hz
          rw [this]; rfl
      · exact ⟨by simp [(hsim m hm).1], hok⟩
    obtain ⟨b, M', w', r1, r2, r3⟩ := step_on (k' := k' w.heap.size) ha (Le.push h y) h4 hf hP fun q1 q2 q3 => ih h.size h4 q1 q2 q3 (fun m hm => by
      have hmn : m h.size = ⟨w.heap.size, 0, 0⟩ := (hm h.size (.inr ⟨Nat.le_refl _, Nat.lt_succ_self _⟩)).trans (if_pos rfl)
      have := (hsim m (Cl.next hP.keep hm)).2 h.size (by rw [hmn]) (by rw [hmn])
      rw [hmn] at this
      exact this)
    exact ⟨b, M', w', r1, r2, r3⟩
  | shape r k ih => intro s' h h' x F K M g w e; cases e
  | freeze a n k ih => intro s' h h' x F K M g w e; cases e
  | frozen ad k ih =>
    intro s' h h' x F K M g w e hf ha hr hs
    have hex : ∃ vs sz, h.get ad.block = some (.row vs sz) ∧ arun P (k false) (h.rd ad.block) = some (x, h') := by
      simp only [arun] at e
      split at e
      · next hb => exact ⟨_, _, hb, e⟩
      · cases e
    obtain ⟨vs, sz, h2, h3⟩ := hex
    have hF : F.testBit ad.block = true := hf _ ((arun_le _ h3).fp _ (by simp [H.rd, bit_test]))
    have hg := (ha.eq _ hF).trans h2
    have nd : ¬ ∀ hh, arun P (.frozen ad k) hh = none := fun hd => by rw [hd h] at e; cases e
    have key : ∃ k', s' = .frozen (renA M ad) k' := by
      cases hs M Cl.refl with
      | doom h => exact absurd h nd
      | frozen h => exact ⟨_, rfl⟩
    obtain ⟨k', rfl⟩ := key
    have hsim : ∀ m, Cl K M m → Sim P (R m) m (k false) (k' false) := fun m hm => by
      generalize hA : renA M ad = A
      have := hs m hm
      rw [hA] at this
      cases this with
      | doom h => exact absurd h nd
      | frozen h => exact h
    obtain ⟨cs, el, e1, e2, e3⟩ := hr.blk _ _ hg M Cl.refl
    have hfr : w.frozen? (renA M ad) = false := by
      simp only [renA, World.frozen?, e1]
      simp
    have hP := Post.same ha hr (h.rd ad.block) rfl rfl (fun _ => rfl)
    obtain ⟨b, M', w', r1, r2, r3⟩ := step_on (k' := k' false) ha (Le.rd h ad.block) h3 hf hP fun q1 q2 q3 => ih false h3 q1 q2 q3 (fun m hm => hsim m (Cl.next hP.keep hm))
    exact ⟨b, M', w', by simp only [Sem.run, hfr]; exact r1, r2, r3⟩
  | getObj r k ih =>
    intro s' h h' x F K M g w e hf ha hr hs
    have hex : ∃ o, h.get r = some (.obj o) ∧ arun P (k o) (h.rd r) = some (x, h') := by
      simp only [arun] at e
      split at e
      · next hb => exact ⟨_, hb, e⟩
      · cases e
    obtain ⟨o, h2, h3⟩ := hex
    have hF : F.testBit r = true := hf _ ((arun_le _ h3).fp _ (by simp [H.rd, bit_test]))
    have hg := (ha.eq _ hF).trans h2
    have nd : ¬ ∀ hh, arun P (.getObj r k) hh = none := fun hd => by rw [hd h] at e; cases e
    have key : ∃ k', s' = .getObj (M r).b k' := by
      cases hs M Cl.refl with
      | doom h => exact absurd h nd
      | getObj h => exact ⟨_, rfl⟩
    obtain ⟨k', rfl⟩ := key
    have hsim : ∀ m, Cl K M m → ∀ o, Sim P (R m) m (k o) (k' (renO m o)) := fun m hm => by
      generalize hA : (M r).b = A
      have := hs m hm
      rw [hA] at this
      cases this with
      | doom h => exact absurd h nd
      | getObj h => exact h
    have hob : ∀ m, Cl K M m → w.heap[(M r).b]? = some (renO m o) ∧ objOk o = true := fun m hm => hr.blk _ _ hg m hm
    have hv : ∀ m, Cl K M m → renO m o = renO M o := fun m hm => by
      have a1 := (hob m hm).1
      rw [(hob M Cl.refl).1] at a1
      exact (Option.some.inj a1).symm
    have hP := Post.same ha hr (h.rd r) rfl rfl (fun _ => rfl)
    obtain ⟨b, M', w', r1, r2, r3⟩ := step_on (k' := k' (renO M o)) ha (Le.rd h r) h3 hf hP fun q1 q2 q3 => ih o h3 q1 q2 q3 (fun m hm => by
      have hm' := Cl.next hP.keep hm
      have := hsim m hm' o
      rw [hv m hm'] at this
      exact this)
    refine ⟨b, M', w', ?_, r2, r3⟩
    have hob' := hob M Cl.refl
    simp only [Sem.run, hob'.1]
    generalize hO : renO M o = O at *
    cases O with
    | cells c el fr => cases o <;> simp [renO, objOk] at hO hob'
    | _ => exact r1
  | setObj r o k ih =>
    intro s' h h' x F K M g w e hf ha hr hs
    have hex : ∃ y, h.get r = some (.obj y) ∧ objOk o = true ∧ arun P k (h.put r (some (.obj o))) = some (x, h') := by
      simp only [arun] at e
      split at e
      · next h1 h2 => exact ⟨_, h1, h2, e⟩
      · cases e
    obtain ⟨y, h2, hok, h4⟩ := hex
    have hF : F.testBit r = true := hf _ ((arun_le _ h4).fp _ (by simp [H.put, bit_test]))
    have hg := (ha.eq _ hF).trans h2
    have nd : ¬ ∀ hh, arun P (.setObj r o k) hh = none := fun hd => by rw [hd h] at e; cases e
    have key : ∃ k', s' = .setObj (M r).b (renO M o) k' := by
      cases hs M Cl.refl with
      | doom h => exact absurd h nd
      | setObj h => exact ⟨_, rfl⟩
    obtain ⟨k', rfl⟩ := key
    have hsim : ∀ m, Cl K M m → renO m o = renO M o ∧ Sim P (R m) m k k' := fun m hm => by
      generalize hA : (M r).b = A
      generalize hO : renO M o = O
      have := hs m hm
      rw [hA, hO] at this
      cases this with
      | doom h => exact absurd h nd
      | setObj h => exact ⟨rfl, h⟩
    have hob : w.heap[(M r).b]? = some (renO M y) ∧ objOk y = true := hr.blk _ _ hg M Cl.refl
    have hlt : (M r).b < w.heap.size := hr.lt r (hr.known _ _ hg)
    have hrun : (Sem.setObj (M r).b (renO M o) k').run P w = k'.run P { w with heap := w.heap.setIfInBounds (M r).b (renO M o) } := by
      simp only [Sem.run, hob.1]
      generalize hO : renO M y = O at *
      cases O with
      | cells c el fr => cases y <;> simp [renO, objOk] at hO hob
      | _ => rfl
    have hP : Post h (h.put r (some (.obj o))) K M g w M { w with heap := w.heap.setIfInBounds (M r).b (renO M o) } := by
      refine Post.turn ha hF hr hg (by simp) (fun q hq => ?_) (fun m hm => ?_) ⟨rfl, rfl, rfl⟩
      · simp only []; rw [Array.getElem?_setIfInBounds_ne (Ne.symm hq)]
      · exact ⟨by simp only []; rw [Array.getElem?_setIfInBounds_self_of_lt hlt, (hsim m hm).1], hok⟩
    have hl := Le.put h r (some (.obj o)) ⟨_, h2⟩
    obtain ⟨b, M', w', r1, r2, r3⟩ := step_on (k' := k') ha hl h4 hf hP fun q1 q2 q3 => ih h4 q1 q2 q3 (fun m hm => (hsim m (Cl.next hP.keep hm)).2)
    exact ⟨b, M', w', hrun.trans r1, r2, r3⟩
  | choose q k ih =>
    intro s' h h' x F K M g w e hf ha hr hs
    have hq : q.forced = true ∧ arun P (k 0) h = some (x, h') := by
      simp only [arun] at e
      split at e
      · next hq => exact ⟨hq, e⟩
      · cases e
    have nd : ¬ ∀ hh, arun P (.choose q k) hh = none := fun hd => by rw [hd h] at e; cases e
    have key : ∃ k', s' = .choose q k' := by
      cases hs M Cl.refl with
      | doom h => exact absurd h nd
      | choose h => exact ⟨_, rfl⟩
    obtain ⟨k', rfl⟩ := key
    obtain ⟨b, M', w', r1, r2, r3⟩ := ih 0 (s' := k' 0) hq.2 hf ha hr (fun m hm => by
      cases hs m hm with
      | doom h => exact absurd h nd
      | choose h => exact h)
    exact ⟨b, M', w', by simp only [Sem.run, hq.1, if_true]; exact r1, r2, r3⟩
  | sys c k ih => intro s' h h' x F K M g w e; cases e
  | program k ih =>
    intro s' h h' x F K M g w e hf ha hr hs
    have nd : ¬ ∀ hh, arun P (.program k) hh = none := fun hd => by rw [hd h] at e; cases e
    have key : ∃ k', s' = .program k' := by
      cases hs M Cl.refl with
      | doom h => exact absurd h nd
      | program h => exact ⟨_, rfl⟩
    obtain ⟨k', rfl⟩ := key
    exact ih P (s' := k' P) e hf ha hr (fun m hm => by
      cases hs m hm with
      | doom h => exact absurd h nd
      | program h => exact h)
  | mark y k ih =>
    intro s' h h' x F K M g w e hf ha hr hs
    have nd : ¬ ∀ hh, arun P (.mark y k) hh = none := fun hd => by rw [hd h] at e; cases e
    have key : ∃ k', s' = .mark y k' := by
      cases hs M Cl.refl with
      | doom h => exact absurd h nd
      | mark h => exact ⟨_, rfl⟩
    obtain ⟨k', rfl⟩ := key
    exact ih (s' := k') e hf ha hr (fun m hm => by
      cases hs m hm with
      | doom h => exact absurd h nd
      | mark h => exact h)
  | halt y => intro s' h h' x F K M g w e; cases e
end Go.Proofs.YtipceoeihiaieaaDoor.Ev
