/- A region that draws its order is reckoned as it is run. -/
import Derived.Test.YtipceoeihiaieaaDoorEv13
import Derived.OrdersIn
namespace Go.Proofs.YtipceoeihiaieaaDoor.Ev
open Go
open ren (renR renL)
open plain (plainR plainL)

section
variable {call : ACall} {P : Program} {GL : Nat → Bool} {aops : Array Oper} {bs : List Nat} {r : List (Value × H)} {T : Tm} {h : H}

def mg (r : List (Value × H)) (h : H) : Nat → H
  | 0 => h
  | k + 1 => { heap := (rH r k).heap, size := (rH r k).size, fp := Nat.lor (mg r h k).fp (rH r k).fp, wr := Nat.lor (mg r h k).wr (rH r k).wr }
theorem mg_cons (x : Value × H) (r : List (Value × H)) (h : H) : ∀ k, mg (x :: r) h (k + 1) = mg r { heap := x.2.heap, size := x.2.size, fp := Nat.lor h.fp x.2.fp, wr := Nat.lor h.wr x.2.wr } k
  | 0 => rfl
  | k + 1 => by rw [mg, mg_cons x r h k]; rfl
theorem merge_mg : ∀ (r : List (Value × H)) (h : H), merge h r = mg r h r.length
  | [], h => rfl
  | x :: r, h => by rw [List.length_cons, mg_cons]; exact merge_mg r _
theorem lor_test {a b i : Nat} : (Nat.lor a b).testBit i = (a.testBit i || b.testBit i) := Nat.testBit_or a b i
theorem mg_get (k : Nat) : (mg r h k).size = (rH0 r h k).size ∧ ∀ b, (mg r h k).get b = (rH0 r h k).get b := by
  cases k <;> exact ⟨rfl, fun _ => rfl⟩
theorem mg_le (hl : ∀ k, k < aops.toList.length → Le (rH0 r h k) (rH r k)) : ∀ k, k ≤ aops.toList.length → Le h (mg r h k)
  | 0, _ => Le.refl _
  | k + 1, hk => by
    refine (mg_le hl k (by omega)).trans ?_
    have l := hl k (by omega)
    have e := mg_get (r := r) (h := h) k
    have hw0 : (rH0 r h k).wr = 0 := by cases k <;> rfl
    refine ⟨by rw [e.1]; exact l.size, fun i hi => by simp only [mg, lor_test, hi, Bool.true_or], fun i hi => by simp only [mg, lor_test, hi, Bool.true_or], fun b hb => ?_, fun b hb => ?_, fun b h1 h2 => ?_, fun b x h1 h2 => ?_⟩
    · simp only [mg, lor_test, Bool.or_eq_true] at hb ⊢
      rcases hb with hb | hb
      · exact .inl hb
      · right; right
        rcases l.wf b hb with h3 | h3
        · rw [hw0] at h3; simp at h3
        · exact h3
    · simp only [mg, lor_test, Bool.or_eq_false_iff] at hb
      rw [e.2]
      exact l.same b hb.2
    · rw [e.1] at h1
      simp only [mg, lor_test, l.new b h1 h2, Bool.or_true]
    · rw [e.1] at h1
      rw [e.2]
      exact l.old b x h1 h2
theorem mg_fp {k j : Nat} (hj : j < k) : Sub (rH r j).fp (mg r h k).fp := by
  induction k with
  | zero => omega
  | succ k ih =>
    intro b hb
    simp only [mg, lor_test, Bool.or_eq_true]
    rcases Nat.lt_or_ge j k with h1 | h1
    · exact .inl (ih h1 b hb)
    · have : j = k := by omega
      subst this; exact .inr hb
theorem mg_wr {k j : Nat} (hj : j < k) : Sub (rH r j).wr (mg r h k).wr := by
  induction k with
  | zero => omega
  | succ k ih =>
    intro b hb
    simp only [mg, lor_test, Bool.or_eq_true]
    rcases Nat.lt_or_ge j k with h1 | h1
    · exact .inl (ih h1 b hb)
    · have : j = k := by omega
      subst this; exact .inr hb
theorem all_gs {D : Nat → Bool} {F : Nat} {K : Nat → Prop} {g : Nat → Option Blk} (ha : Agree F K g h) (hl : ∀ k, k < aops.toList.length → Le (rH0 r h k) (rH r k)) (hD : ∀ j, j < aops.toList.length → D j = true) :
    ∀ k, k ≤ aops.toList.length → gs r D g k = Gn g (mg r h k)
  | 0, _ => (Gn_eq ha h rfl fun _ => rfl).symm
  | k + 1, hk => by
    have ih := all_gs ha hl hD k (by omega)
    have l := hl k (by omega)
    simp only [gs]
    rw [if_pos (hD k (by omega)), ih]
    funext b
    cases hw : (rH r k).wr.testBit b
    · rw [Gn_miss hw]
      cases hw2 : (mg r h k).wr.testBit b
      · rw [Gn_miss hw2, Gn_miss (by simp only [mg, lor_test, hw, hw2, Bool.or_self])]
      · rw [Gn_hit hw2, Gn_hit (by simp only [mg, lor_test, hw2, Bool.true_or]), mg_get (r := r) (h := h) k |>.2, ← l.same b hw]
        rfl
    · rw [Gn_hit hw, Gn_hit (by simp only [mg, lor_test, hw, Bool.or_true])]
      rfl
theorem all_ks {D : Nat → Bool} {K : Nat → Prop} (hl : ∀ k, k < aops.toList.length → Le (rH0 r h k) (rH r k)) (hD : ∀ j, j < aops.toList.length → D j = true) :
    ∀ k, k ≤ aops.toList.length → ks r h D K k = Kn K h.size (mg r h k).size
  | 0, _ => Kn_self.symm
  | k + 1, hk => by
    have ih := all_ks (K := K) hl hD k (by omega)
    simp only [ks]
    rw [if_pos (hD k (by omega)), ih, ← (mg_get (r := r) (h := h) k).1, Kn_trans (mg_le hl k (by omega)).size]
    · rfl
    · rw [(mg_get (r := r) (h := h) k).1]; exact (hl k (by omega)).size
theorem all_ts {D : Nat → Bool} (hD : ∀ j, j < aops.toList.length → D j = true) : ∀ k, k ≤ aops.toList.length → ts aops.toList r T D k = rT aops.toList r T k
  | 0, _ => rfl
  | k + 1, hk => by simp only [ts, rT]; rw [if_pos (hD k (by omega)), all_ts hD k (by omega)]

def cnt (D : Nat → Bool) : Nat → Nat
  | 0 => 0
  | k + 1 => cnt D k + (if D k = true then 0 else 1)
theorem cnt_zero {D : Nat → Bool} : ∀ {n : Nat}, cnt D n = 0 → ∀ j, j < n → D j = true
  | 0, _, j, hj => by omega
  | n + 1, h, j, hj => by
    simp only [cnt] at h
    rcases Nat.lt_or_ge j n with h1 | h1
    · exact cnt_zero (by omega) j h1
    · have : j = n := by omega
      subst this
      cases hd : D j
      · rw [hd] at h; simp at h
      · rfl
theorem cnt_same {D D' : Nat → Bool} : ∀ {n : Nat}, (∀ j, j < n → D j = D' j) → cnt D n = cnt D' n
  | 0, _ => rfl
  | n + 1, h => by simp only [cnt]; rw [cnt_same fun j hj => h j (by omega), h n (by omega)]
theorem cnt_next {D : Nat → Bool} {i : Nat} (hDi : D i = false) : ∀ {n : Nat}, i < n → cnt (Dn D i) n + 1 = cnt D n
  | 0, h => by omega
  | n + 1, h => by
    simp only [cnt]
    rcases Nat.lt_or_ge i n with h1 | h1
    · have := cnt_next hDi h1
      rw [Dn_ne (by omega : n ≠ i)]
      omega
    · have : i = n := by omega
      subst this
      rw [Dn_at, hDi, cnt_same (D := Dn D i) (D' := D) fun j hj => Dn_ne (by omega)]
      simp

theorem ready_none {bs : List Nat} (cn : Canon call P GL aops bs r T h) {listed : Array Bool} (hsz : listed.size = aops.toList.length) (he : Region.ready .any aops listed = []) : ∀ j, j < aops.toList.length → listed.getD j false = true := by
  intro j
  induction j using Nat.strongRecOn with
  | _ j ih =>
    intro hj
    cases hd : listed.getD j false
    · exfalso
      have ho : aops[j]? = some (aops.toList[j]) := by rw [← Array.getElem?_toList]; exact List.getElem?_eq_getElem hj
      have hm : j ∈ Region.ready .any aops listed := by
        rw [mem_ready]
        refine ⟨?_, _, ho, fun e hem hb => ?_⟩
        · have hjs : j < listed.size := by rw [hsz]; exact hj
          simp only [Array.getD, hjs, dif_pos] at hd ⊢
          exact hd
        · have hed := (cn.edge j _ (by rw [← ho, Array.getElem?_toList])).1
          unfold edgesOk at hed
          have := List.all_eq_true.1 hed e (by simpa using hem)
          rw [hb] at this
          simp only [Bool.not_true, Bool.false_or, Nat.blt_eq] at this
          exact ih e.on this (by omega)
      rw [he] at hm
      cases hm
    · rfl

theorem draw_any (hN : ∀ (g : Nat) (fn : Func), P.funcs[g]? = some fn → (fn.name == "runtime.NumGoroutine") = false) (hC : CallSound P GL call) (cn : Canon call P GL aops bs r T h)
    {F : Nat} {K : Nat → Prop} {M0 : Mp} {g : Nat → Option Blk} {w0 : World} {Q : Exit → Act → World → Prop} (hf : Sub (mg r h aops.toList.length).fp F) (ha : Agree F K g h) (hG : GOk GL K M0)
    {ro : Option Nat} {ds : List Deferred} (hQ : Then ds Q .normal (rT aops.toList r T aops.toList.length) h (mg r h aops.toList.length) K M0 g w0) :
    ∀ (fuel : Nat) (listed : Array Bool) (a : Act) (w : World) (M : Mp), listed.size = aops.toList.length → cnt (fun j => listed.getD j false) aops.toList.length ≤ fuel → Closed bs (fun j => listed.getD j false) →
      (∀ j, listed.getD j false = true → j < aops.toList.length) →
      PX K M0 g w0 (fun b => (mg r h aops.toList.length).wr.testBit b = true) (ks r h (fun j => listed.getD j false) K aops.toList.length) (gs r (fun j => listed.getD j false) g aops.toList.length) M w →
      (∀ m, Cl (ks r h (fun j => listed.getD j false) K aops.toList.length) M m → TR m (ts aops.toList r T (fun j => listed.getD j false) aops.toList.length) a.tmps) → a.defers = ds →
      wpAnyIn (Wd ro) 0 P .any aops Q fuel listed a w := by
  have hl : ∀ k, k < aops.toList.length → Le (rH0 r h k) (rH r k) := fun k hk =>
    (astep_sound hN hC (cn.step k _ (List.getElem?_eq_getElem hk))).1
  have fin : ∀ (listed : Array Bool) (a : Act) (w : World) (M : Mp), (∀ j, j < aops.toList.length → listed.getD j false = true) →
      PX K M0 g w0 (fun b => (mg r h aops.toList.length).wr.testBit b = true) (ks r h (fun j => listed.getD j false) K aops.toList.length) (gs r (fun j => listed.getD j false) g aops.toList.length) M w →
      (∀ m, Cl (ks r h (fun j => listed.getD j false) K aops.toList.length) M m → TR m (ts aops.toList r T (fun j => listed.getD j false) aops.toList.length) a.tmps) → a.defers = ds → Q .normal a w := by
    intro listed a w M hD px ht hd
    rw [all_gs ha hl hD _ (Nat.le_refl _), all_ks hl hD _ (Nat.le_refl _)] at px
    rw [all_ks hl hD _ (Nat.le_refl _), all_ts hD _ (Nat.le_refl _)] at ht
    exact hQ a M w px.post ht hd
  intro fuel
  induction fuel with
  | zero =>
    intro listed a w M hsz hc _ _ px ht hd
    have hD := cnt_zero (by omega : cnt (fun j => listed.getD j false) aops.toList.length = 0)
    refine ⟨?_, fin listed a w M hD px ht hd⟩
    cases hre : Region.ready .any aops listed with
    | nil => rfl
    | cons i l =>
      exfalso
      have hm : i ∈ Region.ready .any aops listed := by rw [hre]; exact List.mem_cons_self
      rw [mem_ready] at hm
      obtain ⟨h0, o, ho, _⟩ := hm
      have hi : i < aops.toList.length := by rw [← Array.getElem?_toList] at ho; exact (List.getElem?_eq_some_iff.1 ho).1
      have h1 := hD i hi
      have his : i < listed.size := by rw [hsz]; exact hi
      simp only [Array.getD, his, dif_pos] at h0 h1
      rw [h0] at h1; cases h1
  | succ fuel ih =>
    intro listed a w M hsz hc hcl hlt px ht hd
    refine ⟨fun he => fin listed a w M (ready_none cn hsz he) px ht hd, fun i hm => ?_⟩
    rw [mem_ready] at hm
    obtain ⟨h0, o, ho, hedge⟩ := hm
    have hol : aops.toList[i]? = some o := by rw [Array.getElem?_toList]; exact ho
    have hi : i < aops.toList.length := (List.getElem?_eq_some_iff.1 hol).1
    have his : i < listed.size := by rw [hsz]; exact hi
    generalize hD : (fun j => listed.getD j false) = D at *
    have hDa : ∀ j, D j = listed.getD j false := fun j => by rw [← hD]
    have hDi : D i = false := by
      rw [hDa]
      simp only [Array.getD, his, dif_pos] at h0 ⊢
      exact h0
    have hnext : (fun j => (listed.setIfInBounds i true).getD j false) = Dn D i := by
      funext j
      by_cases e : j = i
      · subst e
        rw [Dn_at]
        simp [Array.getD, his]
      · rw [Dn_ne e, hDa, getD_set_ne false (Ne.symm e)]
    have hbf : ∀ q, (bs.getD i 0).testBit q = true → D q = true := by
      intro q hq
      obtain ⟨e1, e2⟩ := cn.edge i o hol
      rw [List.getD_eq_getElem?_getD, e2, Option.getD_some, bfOne_spec] at hq
      obtain ⟨e, hem, hb, hq⟩ := hq
      have hblt : e.on < i := by
        unfold edgesOk at e1
        have := List.all_eq_true.1 e1 e hem
        rw [hb] at this
        simpa [Nat.blt_eq] using this
      have hDe : D e.on = true := by rw [hDa]; exact hedge e (by simpa using hem) hb
      rcases hq with rfl | hq
      · exact hDe
      · refine hcl e.on hDe q ?_
        rw [List.getD_eq_getElem?_getD, List.getElem?_take, if_pos hblt, ← List.getD_eq_getElem?_getD] at hq
        exact hq
    have get : ∀ j, j < aops.toList.length → ∃ oj, aops.toList[j]? = some oj := fun j hj => ⟨_, List.getElem?_eq_getElem hj⟩
    have hlt' : ∀ j, D j = true → j < aops.toList.length := fun j hj => hlt j (by rw [← hDa]; exact hj)
    -- what lies ahead of i
    have low : ∀ j oj, j < i → aops.toList[j]? = some oj → D j = true ∨ (∀ b, (rH r j).wr.testBit b = true → (rH r i).fp.testBit b = false) ∧ (∀ t, oj.dst = some t → t ∉ o.looksAt aops) := by
      intro j oj hj hoj
      rcases cn.apart j i oj o hj hoj hol with h1 | ⟨h1, _, h3, _⟩
      · exact .inl (hbf j h1)
      · exact .inr ⟨h1, fun t ht => (h3 t ht).1⟩
    -- what has been done of what lies behind i
    have high : ∀ j oj, i < j → D j = true → aops.toList[j]? = some oj → (∀ b, (rH r j).wr.testBit b = true → (rH r i).fp.testBit b = false) ∧ (∀ b, (rH r i).wr.testBit b = true → (rH r j).fp.testBit b = false) ∧
        (∀ t, o.dst = some t → oj.dst ≠ some t) ∧ (∀ t, oj.dst = some t → t ∉ o.looksAt aops) := by
      intro j oj hj hDj hoj
      rcases cn.apart i j o oj hj hol hoj with h1 | ⟨h1, h2, h3, h4⟩
      · have := hcl j hDj i h1
        rw [hDi] at this; cases this
      · exact ⟨h2, h1, fun t ht => (h3 t ht).2, h4⟩
    have wrfp : ∀ j, j < aops.toList.length → ∀ b, (rH r j).wr.testBit b = true → (rH r j).fp.testBit b = true := fun j hj b hb => by
      have hw0 : (rH0 r h j).wr = 0 := by cases j <;> rfl
      rcases (hl j hj).wf b hb with h3 | h3
      · rw [hw0] at h3; simp at h3
      · exact h3
    have hhighw : ∀ j, i ≤ j → D j = true → ∀ b, (rH r i).fp.testBit b = true → (rH r j).wr.testBit b = false := by
      intro j hij hDj b hb
      rcases Nat.lt_or_ge i j with h1 | h1
      · obtain ⟨oj, hoj⟩ := get j (hlt' j hDj)
        cases hw : (rH r j).wr.testBit b
        · rfl
        · have := (high j oj h1 hDj hoj).1 b hw
          rw [hb] at this; cases this
      · have : j = i := by omega
        subst this
        rw [hDi] at hDj; cases hDj
    obtain ⟨hli, hstep⟩ := astep_sound hN hC (cn.step i o hol)
    have hfi : Sub (rH r i).fp F := (mg_fp hi).trans hf
    have hag : Agree (rH r i).fp (ks r h D K aops.toList.length) (gs r D g aops.toList.length) (rH0 r h i) := by
      refine ⟨fun b hb => ?_, fun b hb hsb hk => ?_, fun b hb => ?_⟩
      · have := foot (aops := aops) (D := D) (g0 := g) hl (i := i) (b := b) (ha.eq b (hfi b hb)) (fun j hj hw => by
          obtain ⟨oj, hoj⟩ := get j (by omega)
          rcases low j oj hj hoj with h1 | h1
          · exact h1
          · have := h1.1 b hw
            rw [hb] at this; cases this) (fun j hij hDj => hhighw j hij hDj b hb) aops.toList.length (Nat.le_refl _)
        rw [this, if_neg (by omega)]
      · rw [ks_iff] at hk
        rcases hk with hk | ⟨j, hj, hDj, hj1, hj2⟩
        · exact ha.free b (hfi b hb) (Nat.le_trans (sizes hl (Nat.zero_le i) (by omega)) hsb) hk
        · rcases Nat.lt_trichotomy j i with h1 | h1 | h1
          · have := sizes hl (i := j + 1) (j := i) (by omega) (by omega)
            have h2 : (rH0 r h (j + 1)).size = (rH r j).size := rfl
            omega
          · subst h1; rw [hDi] at hDj; cases hDj
          · have := hhighw j (by omega) hDj b hb
            rw [(hl j hj).new b hj1 hj2] at this; cases this
      · have hw0 : (rH0 r h i).wr = 0 := by cases i <;> rfl
        rw [hw0] at hb; simp at hb
    have htm : ∀ m, Cl (ks r h D K aops.toList.length) M m → ∀ t, t ∈ o.looksAt aops → a.tmps.getD t undef = ren m ((rT aops.toList r T i).get t) := by
      intro m hm t htl
      rw [(ht m hm).2 t]
      congr 1
      have := tfoot (aops := aops) (r := r) (T := T) (D := D) (i := i) (t := t) (fun j hj hdj => by
        obtain ⟨oj, hoj⟩ := get j (by omega)
        rcases low j oj hj hoj with h1 | h1
        · exact h1
        · exact absurd htl (h1.2 t (by simpa [dstAt, hoj] using hdj))) (fun j hij hDj hdj => by
        rcases Nat.lt_or_ge i j with h1 | h1
        · obtain ⟨oj, hoj⟩ := get j (hlt' j hDj)
          exact absurd htl ((high j oj h1 hDj hoj).2.2.2 t (by simpa [dstAt, hoj] using hdj))
        · have : j = i := by omega
          subst this
          rw [hDi] at hDj; cases hDj) aops.toList.length
      rw [this, if_neg (by omega)]
    have key := hstep (Q := Q) (ro := ro) (next := wpAnyIn (Wd ro) 0 P .any aops Q fuel (listed.setIfInBounds i true)) (Sub.refl _) hag px.rep (hG.next px.sub px.keep) htm (fun v' M' w' p hv => by
      have hksn := ks_next (aops := aops) (r := r) (h := h) (D := D) (K0 := K) hi hDi
      have hgsn := gs_next (aops := aops) (r := r) (D := D) (g0 := g) hi hDi (fun b hb j hj hDj => by
        obtain ⟨oj, hoj⟩ := get j (hlt' j hDj)
        cases hw : (rH r j).wr.testBit b
        · rfl
        · have h1 := (high j oj hj hDj hoj).1 b hw
          rw [wrfp i hi b hb] at h1; cases h1)
      have hpx := px.trans (p.px hag hli (Sub.refl _) (mg_wr hi))
      rw [hksn, hgsn] at hpx
      refine ih (listed.setIfInBounds i true) (a.put o.dst v') w' M' (by simpa using hsz) ?_ ?_ ?_ ?_ ?_ ?_
      · rw [hnext]
        have := cnt_next hDi hi
        omega
      · rw [hnext]
        intro j hj q hq
        by_cases e : j = i
        · subst e
          have := hbf q hq
          unfold Dn; rw [this]; rfl
        · rw [Dn_ne e] at hj
          have := hcl j hj q hq
          unfold Dn; rw [this]; rfl
      · intro j hj
        have hj' : Dn D i j = true := by rw [← hnext]; exact hj
        by_cases e : j = i
        · rw [e]; exact hi
        · rw [Dn_ne e] at hj'; exact hlt' j hj'
      · rw [hnext]; exact hpx
      · rw [hnext]
        intro m hm
        have hm2 : Cl (Kn (ks r h D K aops.toList.length) (rH0 r h i).size (rH r i).size) M' m := by rw [hksn]; exact hm
        have t1 := TR.put (d := o.dst) (ht m (Cl.next p.keep hm2)) (hv m hm2)
        refine ⟨by rw [t1.1, Tm.put_n, ts_n, ts_n], fun t => ?_⟩
        rw [t1.2 t]
        have hdst : o.dst = dstAt aops.toList i := by simp [dstAt, hol]
        rw [hdst, ts_next (aops := aops) (r := r) (T := T) (D := D) hi hDi (fun t htd j hj hDj hdj => by
          obtain ⟨oj, hoj⟩ := get j (hlt' j hDj)
          exact (high j oj hj hDj hoj).2.2.1 t (by rw [hdst]; exact htd) (by simpa [dstAt, hoj] using hdj)) t]
      · cases o.dst <;> exact hd)
    unfold wpOpIn
    rw [ho]
    simp only
    split
    · next hw => rw [if_pos hw] at key; exact key
    · next hw => rw [if_neg hw] at key; exact ⟨fun _ _ => trivial, key⟩

theorem adraw_le {T' : Tm} {h' : H} (hN : ∀ (g : Nat) (fn : Func), P.funcs[g]? = some fn → (fn.name == "runtime.NumGoroutine") = false) (hC : CallSound P GL call) (e : adraw call P GL aops T h = some (T', h')) : Le h h' := by
  unfold adraw at e
  split at e
  case h_2 => cases e
  next bs r T1 hb hr =>
  obtain ⟨hc, e⟩ := bif_some e
  simp only [Option.some.injEq, Prod.mk.injEq] at e
  obtain ⟨cn, _⟩ := canon_of hb hr hc
  rw [← e.2, merge_mg, cn.len]
  exact mg_le (fun k hk => (astep_sound hN hC (cn.step k _ (List.getElem?_eq_getElem hk))).1) _ (Nat.le_refl _)

theorem adraw_ms {T' : Tm} {h' : H} (e : adraw call P GL aops T h = some (T', h')) : T'.ms = T.ms := by
  unfold adraw at e
  split at e
  case h_2 => cases e
  next bs r T1 hb hr =>
  obtain ⟨hc, e⟩ := bif_some e
  simp only [Option.some.injEq, Prod.mk.injEq] at e
  rw [← e.1, runSeq_ms _ hr]

theorem adraw_sound {T' : Tm} {h' : H} {id : Nat} (hN : ∀ (g : Nat) (fn : Func), P.funcs[g]? = some fn → (fn.name == "runtime.NumGoroutine") = false) (hC : CallSound P GL call) (hmix : P.follows .mixedOrders = true)
    (e : adraw call P GL aops T h = some (T', h')) {F : Nat} {K : Nat → Prop} {M : Mp} {g : Nat → Option Blk} {w : World} {a : Act} {Q : Exit → Act → World → Prop} {ro : Option Nat} {ds : List Deferred} (hf : Sub h'.fp F) (ha : Agree F K g h) (hr0 : Rep K M g w)
    (hG : GOk GL K M) (hT : ∀ m, Cl K M m → TR m T a.tmps) (hd : a.defers = ds) (hn : Then ds Q .normal T' h h' K M g w) : (Code.region id aops true).wpIn (Wd ro) 0 P Q a w := by
  unfold adraw at e
  split at e
  case h_2 => cases e
  next bs r T1 hb hr =>
  obtain ⟨hc, e⟩ := bif_some e
  simp only [Option.some.injEq, Prod.mk.injEq] at e
  obtain ⟨cn, hT1⟩ := canon_of hb hr hc
  obtain ⟨rfl, e2⟩ := e
  rw [merge_mg, cn.len] at e2
  subst e2 hT1
  have hD0 : (fun j => (Array.replicate aops.size false).getD j false) = fun _ => false := by
    funext j
    simp [Array.getD]
  refine wpIn_region_any hmix (draw_any hN hC cn (w0 := w) hf ha hG hn aops.size _ a _ M (by simp) ?_ ?_ ?_ ?_ ?_ hd)
  · rw [hD0]
    have : ∀ n, cnt (fun _ => false) n = n := by
      intro n
      induction n with
      | zero => rfl
      | succ n ih => simp only [cnt, ih]; rfl
    rw [this]; simp
  · rw [hD0]; intro j hj; cases hj
  · intro j hj
    rw [show (Array.replicate aops.size false).getD j false = (fun j => (Array.replicate aops.size false).getD j false) j from rfl, hD0] at hj
    cases hj
  · rw [hD0]
    have h1 : ∀ k, gs r (fun _ => false) g k = g := by
      intro k
      induction k with
      | zero => rfl
      | succ k ih => simp only [gs, Bool.false_eq_true, if_false, ih]
    have h2 : ∀ k, ks r h (fun _ => false) K k = K := by
      intro k
      induction k with
      | zero => rfl
      | succ k ih => simp only [ks, Bool.false_eq_true, if_false, ih]
    rw [h1, h2]
    exact ⟨fun _ h => h, fun _ _ => rfl, Rep.of_heap (w := w) rfl hr0, fun b x _ hx => ⟨x, hx⟩, fun _ _ _ => rfl, fun b x hk hx => absurd (hr0.known b x hx) hk, Nat.le_refl _, ⟨rfl, rfl, rfl⟩⟩
  · rw [hD0]
    have h2 : ∀ k, ks r h (fun _ => false) K k = K := by
      intro k
      induction k with
      | zero => rfl
      | succ k ih => simp only [ks, Bool.false_eq_true, if_false, ih]
    have h3 : ∀ k, ts aops.toList r T (fun _ => false) k = T := by
      intro k
      induction k with
      | zero => rfl
      | succ k ih => simp only [ts, Bool.false_eq_true, if_false, ih]
    rw [h2, h3]
    exact hT
end
end Go.Proofs.YtipceoeihiaieaaDoor.Ev
