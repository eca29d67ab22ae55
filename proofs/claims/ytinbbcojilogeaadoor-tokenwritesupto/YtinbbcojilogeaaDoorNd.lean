/- Blanks and comments between the tokens of a text. No program is named. -/
import Derived.Test.YtinbbcojilogeaaDoorNb
namespace Go.Proofs.YtinbbcojilogeaaDoor.Tok

/-- What a token is written as. -/
def T.dr (t : T) : List UInt8 := draftL t.kind t.text t.num
def T.good (t : T) : Prop := t.kind ≠ 0 ∧ cut t.dr = .tok t.kind t.text t.num t.dr.length
theorem dv_app (l : List UInt8) (c : UInt8) (a : Nat) : dv a (l ++ [c]) = dv a l * 10 + (c.toNat - 48) := by
  induction l generalizing a with
  | nil => rfl
  | cons b r ih => exact ih _
theorem dv_pos (l : List UInt8) (c : UInt8) (h : isD c = true) (h0 : c ≠ 48) : 1 ≤ dv 0 (c :: l) := by
  have h1 := dv_le l (0 * 10 + (c.toNat - 48))
  have h2 := (isD_iff c).1 h
  have h3 : c.toNat ≠ 48 := fun e => h0 (UInt8.toNat.inj e)
  have e : dv 0 (c :: l) = dv (0 * 10 + (c.toNat - 48)) l := rfl
  omega
theorem ofNat48 (c : UInt8) (h : isD c = true) : UInt8.ofNat (48 + (c.toNat - 48)) = c := by
  have := (isD_iff c).1 h
  rw [show 48 + (c.toNat - 48) = c.toNat by omega]
  exact UInt8.ofNat_toNat
/-- Digits without a nought ahead are the number's own. -/
theorem itoa_dv : ∀ (n : Nat) (ds : List UInt8), ds.length = n + 1 → (∀ b ∈ ds, isD b = true) → (ds.length = 1 ∨ ds.head? ≠ some 48) → Lib.decDigits (dv 0 ds) = ds
  | 0, ds, hl, hd, _ => by
    match ds, hl with
    | [c], _ =>
      have hc := hd c (by simp)
      have h2 := (isD_iff c).1 hc
      have e : dv 0 [c] = c.toNat - 48 := by show 0 * 10 + (c.toNat - 48) = _; omega
      rw [e, Lib.decDigits_one (by omega), ofNat48 c hc]
  | n + 1, ds, hl, hd, hz => by
    have hne : ds ≠ [] := fun e => by rw [e] at hl; simp at hl
    obtain ⟨es, c, rfl⟩ : ∃ es c, ds = es ++ [c] := ⟨ds.dropLast, ds.getLast hne, (List.dropLast_concat_getLast hne).symm⟩
    have hel : es.length = n + 1 := by simp at hl; omega
    have hc := hd c (by simp)
    have h2 := (isD_iff c).1 hc
    have hz2 : es.head? ≠ some 48 := by
      rcases hz with h | h
      · omega
      · cases es with
        | nil => simp at hel
        | cons a r => simpa using h
    have ih := itoa_dv n es hel (fun b hb => hd b (by simp [hb])) (.inr hz2)
    have hpos : 1 ≤ dv 0 es := by
      cases es with
      | nil => simp at hel
      | cons a r => exact dv_pos r a (hd a (by simp)) (fun e => hz2 (by rw [e]; rfl))
    rw [dv_app, Lib.decDigits, dif_neg (by omega), show (dv 0 es * 10 + (c.toNat - 48)) / 10 = dv 0 es by omega, show (dv 0 es * 10 + (c.toNat - 48)) % 10 = c.toNat - 48 by omega, ih, ofNat48 c hc]
/-- What is cut is written as it stood. -/
theorem draft_cut (r : List UInt8) (k : Nat) (t : List UInt8) (v n : Nat) (h : cut r = .tok k t v n) (hk : k ≠ 0) : draftL k t v = r.take n := by
  have h0 := h
  cases r with
  | nil => cases h; exact absurd rfl hk
  | cons b y =>
    rw [show cut (b :: y) = if isL b then cName (b :: y) else if isD b then cNum (b :: y) else if b = 34 then cQuo (b :: y) else cMark (b :: y) from rfl] at h
    split at h
    · unfold cName at h
      split at h
      · cases h
      · cases h; rfl
    · split at h
      · rename_i hD
        unfold cNum at h
        split at h
        · cases h
        · rename_i hbad
          split at h
          · cases h; rfl
          · split at h
            · cases h
            · cases h
              have hall := sp_all isD (b :: y)
              have hle := sp_le isD (b :: y)
              have h1 : 1 ≤ sp isD (b :: y) := by rw [sp_cons_true y hD]; omega
              have hlen : ((b :: y).take (sp isD (b :: y))).length = sp isD (b :: y) := by rw [List.length_take]; omega
              show Lib.itoa ((dv 0 ((b :: y).take (sp isD (b :: y))) : Nat) : Int) = _
              rw [show ∀ u : Nat, Lib.itoa (u : Int) = Lib.decDigits u from fun u => by unfold Lib.itoa; rw [if_neg (by omega)]; simp]
              refine itoa_dv (sp isD (b :: y) - 1) _ (by rw [hlen]; omega) hall ?_
              rw [hlen]
              by_cases h1' : sp isD (b :: y) = 1
              · exact .inl h1'
              · right
                intro e
                obtain ⟨m, hm⟩ : ∃ m, sp isD (b :: y) = m + 1 := ⟨sp isD (b :: y) - 1, by omega⟩
                rw [hm, List.take_succ_cons] at e
                exact hbad (.inl ⟨by omega, e⟩)
      · split at h
        · rename_i h34
          unfold cQuo at h
          rw [List.drop_succ_cons, List.drop_zero] at h
          cases hx : y.drop (sp inQ y) with
          | nil => rw [hx] at h; cases h
          | cons a u =>
            rw [hx, cQuoT] at h
            split at h
            · rename_i ha
              cases h
              show 34 :: (y.take (sp inQ y) ++ [34]) = _
              rw [show sp inQ y + 2 = (sp inQ y + 1) + 1 by omega, List.take_succ_cons, List.take_add_one, h34]
              have e : y[sp inQ y]? = some a := by
                have := congrArg (fun z => z[0]?) hx
                simpa using this
              rw [e, ha]
              rfl
            · cases h
        · obtain ⟨rfl, hm, rfl, rfl, hp⟩ := cMarkF_in _ _ _ _ _ _ h
          obtain ⟨z, hz⟩ := List.isPrefixOf_iff_prefix.1 hp
          show t = _
          rw [← hz, List.take_left]
theorem good_of (r : List UInt8) (k : Nat) (t : List UInt8) (v n o l c : Nat) (h : cut r = .tok k t v n) (hk : k ≠ 0) : (T.mk k t v o l c).good ∧ (T.mk k t v o l c).dr.length = n := by
  have hd := draft_cut r k t v n h hk
  have hn := (cut_len r k t v n h).1
  have hl : (r.take n).length = n := by rw [List.length_take]; omega
  have e : (T.mk k t v o l c).dr = r.take n := hd
  refine ⟨⟨hk, ?_⟩, by rw [e, hl]⟩
  rw [e, hl]
  exact cut_take r n k t v n h hk (Nat.le_refl _)
/-- What Scan gives: tokens that can be written, and the end. -/
theorem scan_shape : ∀ (f : Nat) (l : List UInt8) (off : Nat) (p : Nat × Nat) (us : List T), scan f l off p = .ok us → l.length < f → ∃ init e, us = init ++ [e] ∧ (∀ t ∈ init, t.good) ∧ e.kind = 0 ∧ e.text = [] ∧ e.num = 0 ∧ (init.map fun t => t.dr.length).sum ≤ l.length ∧ init.length ≤ l.length
  | 0, l, off, p, us, _, h => by omega
  | f + 1, l, off, p, us, h, hl => by
    have hg := gp_le false l
    cases hC : cut (l.drop (gp false l)) with
    | bad e => rw [scan_bad _ _ _ _ e hC] at h; cases h
    | tok k t v n =>
      rw [scan_tok _ _ _ _ k v n t hC] at h
      by_cases hk : k = 0
      · rw [if_pos hk] at h
        cases h
        subst hk
        obtain ⟨_, h2, h3⟩ := cut_zero _ _ _ _ hC
        exact ⟨[], _, rfl, fun t ht => by simp at ht, rfl, h2, h3, Nat.zero_le _, Nat.zero_le _⟩
      · rw [if_neg hk] at h
        obtain ⟨hnl, hn1⟩ := cut_len _ _ _ _ _ hC
        have hn1 := hn1 hk
        rw [List.length_drop] at hnl
        cases hr : scan f ((l.drop (gp false l)).drop n) (off + gp false l + n) (adv 0 n (l.drop (gp false l)) (adv 0 (gp false l) l p)) with
        | bad F => rw [hr] at h; cases h
        | ok us' =>
          rw [hr] at h
          cases h
          obtain ⟨init, e, rfl, h1, h2, h3, h4, h5, h6⟩ := scan_shape f _ _ _ us' hr (by rw [List.length_drop, List.length_drop]; omega)
          rw [List.length_drop, List.length_drop] at h5 h6
          obtain ⟨hgd, hdl⟩ := good_of _ k t v n (off + gp false l) (adv 0 (gp false l) l p).1 (adv 0 (gp false l) l p).2 hC hk
          refine ⟨⟨k, t, v, off + gp false l, (adv 0 (gp false l) l p).1, (adv 0 (gp false l) l p).2⟩ :: init, e, rfl, ?_, h2, h3, h4, ?_, ?_⟩
          · intro x hx
            rcases List.mem_cons.1 hx with rfl | hx
            · exact hgd
            · exact h1 x hx
          · rw [List.map_cons, List.sum_cons, hdl]; omega
          · rw [List.length_cons]; omega
/-- The gaps. -/
def gaps : List (List UInt8) := [[32], [10], [32, 47, 47, 32, 34, 32, 59, 10], [9, 13, 32], [47, 47, 10, 47, 47, 255, 10]]
theorem gap_all : ∀ g ∈ gaps, Gap g := by
  intro g hg
  simp [gaps] at hg
  rcases hg with rfl | rfl | rfl | rfl | rfl
  all_goals
    intro r
    simp [gp, blank]
  all_goals omega
theorem gap_sep : ∀ g ∈ gaps, ∀ r, Sep (g ++ r) := by
  intro g hg r
  simp [gaps] at hg
  rcases hg with rfl | rfl | rfl | rfl | rfl
  all_goals
    intro c t h
    cases h
    exact ⟨by decide, by decide⟩
theorem gap_len : ∀ g ∈ gaps, g.length ≤ 8 := by decide
/-- The gap behind the token at i. -/
def gapAt (mk : List UInt8) (i : Nat) : List UInt8 := gaps.getD ((mk.getD i 0).toNat % 5) []
theorem gapAt_mem (mk : List UInt8) (i : Nat) : gapAt mk i ∈ gaps := by
  unfold gapAt
  have : (mk.getD i 0).toNat % 5 < 5 := Nat.mod_lt _ (by decide)
  rw [List.getD_eq_getElem?_getD, List.getElem?_eq_getElem (by simpa [gaps] using this)]
  exact List.getElem_mem _
def txt (mk : List UInt8) : Nat → List T → List UInt8
  | _, [] => []
  | i, t :: r => t.dr ++ (gapAt mk i ++ txt mk (i + 1) r)
theorem txt_len (mk : List UInt8) : ∀ (ts : List T) (i : Nat), (txt mk i ts).length ≤ (ts.map fun t => t.dr.length).sum + 8 * ts.length
  | [], i => by simp [txt]
  | t :: r, i => by
    have h1 := txt_len mk r (i + 1)
    have h2 := gap_len _ (gapAt_mem mk i)
    rw [txt, List.length_append, List.length_append, List.map_cons, List.sum_cons, List.length_cons]
    omega
theorem end_dr (e : T) (h0 : e.kind = 0) (h1 : e.text = []) : e.dr = [] := by
  unfold T.dr draftL
  rw [h0, h1]
  rfl
theorem silent (mk : List UInt8) (e : T) (h0 : e.kind = 0) (h1 : e.text = []) (h2 : e.num = 0) : ∀ (init : List T) (i : Nat) (G : List UInt8), (∀ t ∈ init, t.good) → Gap G → ∀ (f off : Nat) (p : Nat × Nat), init.length < f → ∃ ms, scan f (G ++ txt mk i (init ++ [e])) off p = .ok ms ∧ (ms.map T.ta).map TA.pl = ((init ++ [e]).map T.ta).map TA.pl
  | [], i, G, _, hG, f, off, p, hf => by
    obtain ⟨f, rfl⟩ : ∃ x, f = x + 1 := ⟨f - 1, by omega⟩
    have e1 : G ++ txt mk i ([] ++ [e]) = G ++ gapAt mk i := by
      rw [List.nil_append, txt, txt, end_dr e h0 h1]
      simp
    obtain ⟨o, l, c, he⟩ := step_end (G ++ gapAt mk i) (hG.app (gap_all _ (gapAt_mem mk i))) f off p
    refine ⟨_, by rw [e1]; exact he, ?_⟩
    simp [T.ta, TA.pl, h0, h1, h2]
  | t :: r, i, G, hgd, hG, f, off, p, hf => by
    obtain ⟨f, rfl⟩ : ∃ x, f = x + 1 := ⟨f - 1, by omega⟩
    obtain ⟨hk, hcut⟩ := hgd t (by simp)
    have e1 : G ++ txt mk i ((t :: r) ++ [e]) = G ++ (t.dr ++ (gapAt mk i ++ txt mk (i + 1) (r ++ [e]))) := rfl
    obtain ⟨o, l, c, off', p', he⟩ := step_tok G t.dr (gapAt mk i ++ txt mk (i + 1) (r ++ [e])) t.kind t.text t.num hG hcut hk (gap_sep _ (gapAt_mem mk i) _) f off p
    obtain ⟨ms, hms, hpl⟩ := silent mk e h0 h1 h2 r (i + 1) (gapAt mk i) (fun x hx => hgd x (by simp [hx])) (gap_all _ (gapAt_mem mk i)) f off' p' (by simp at hf; omega)
    refine ⟨⟨t.kind, t.text, t.num, o, l, c⟩ :: ms, by rw [e1, he, hms]; rfl, ?_⟩
    rw [List.map_cons, List.map_cons, hpl, List.cons_append, List.map_cons, List.map_cons]
    rfl
theorem gap_nl : Gap [10] := gap_all _ (by decide)
theorem cut_bounds (x : List UInt8) (k : Nat) (t : List UInt8) (v n : Nat) (h : cut x = .tok k t v n) : t.length ≤ x.length ∧ v ≤ 1000000000 := by
  cases x with
  | nil => cases h; exact ⟨Nat.le_refl _, by omega⟩
  | cons b r =>
    rw [show cut (b :: r) = if isL b then cName (b :: r) else if isD b then cNum (b :: r) else if b = 34 then cQuo (b :: r) else cMark (b :: r) from rfl] at h
    split at h
    · unfold cName at h
      split at h <;> cases h
      exact ⟨by rw [List.length_take]; omega, by omega⟩
    · split at h
      · unfold cNum at h
        split at h
        · cases h
        · split at h
          · cases h
            exact ⟨by rw [List.length_take]; omega, by omega⟩
          · split at h
            · cases h
            · cases h
              exact ⟨Nat.zero_le _, by omega⟩
      · split at h
        · unfold cQuo at h
          rw [List.drop_succ_cons, List.drop_zero] at h
          cases hx : r.drop (sp inQ r) with
          | nil => rw [hx] at h; cases h
          | cons a u =>
            rw [hx, cQuoT] at h
            split at h <;> cases h
            exact ⟨by rw [List.length_take]; simp; omega, by omega⟩
        · obtain ⟨_, _, rfl, _, hp⟩ := cMarkF_in _ _ _ _ _ _ h
          exact ⟨(List.isPrefixOf_iff_prefix.1 hp).length_le, by omega⟩
theorem mem_sum (init : List T) (t : T) (h : t ∈ init) : t.dr.length ≤ (init.map fun t => t.dr.length).sum := by
  induction init with
  | nil => cases h
  | cons a r ih =>
    rw [List.map_cons, List.sum_cons]
    rcases List.mem_cons.1 h with rfl | h
    · omega
    · have := ih h; omega
/-- The whole of it. -/
theorem silent_all (mk : List UInt8) (l : List UInt8) (us : List T) (h : scanAll l = .ok us) :
    (∀ t ∈ us, writeR t.kind t.text t.num = some t.dr) ∧ (∀ t ∈ us, t.text.length ≤ l.length ∧ t.num ≤ 1000000000) ∧ us.length ≤ l.length + 1 ∧ (10 :: txt mk 0 us).length ≤ 9 * l.length + 9 ∧ ∃ ms, scanAll (10 :: txt mk 0 us) = .ok ms ∧ (ms.map T.ta).map TA.pl = (us.map T.ta).map TA.pl ∧ ms.length = us.length := by
  obtain ⟨init, e, rfl, hgd, h0, h1, h2, hsum, hlen⟩ := scan_shape _ l 0 (1, 1) us h (by omega)
  have hul : (init ++ [e]).length ≤ l.length + 1 := by rw [List.length_append]; simp; exact hlen
  have htl : (10 :: txt mk 0 (init ++ [e])).length ≤ 9 * l.length + 9 := by
    have := txt_len mk (init ++ [e]) 0
    rw [List.map_append, List.sum_append] at this
    simp only [List.map_cons, List.map_nil, List.sum_cons, List.sum_nil, end_dr e h0 h1, List.length_nil] at this
    rw [List.length_cons]
    omega
  refine ⟨fun t ht => ?_, fun t ht => ?_, hul, htl, ?_⟩
  · rcases List.mem_append.1 ht with ht | ht
    · obtain ⟨hk, hcut⟩ := hgd t ht
      have hw : wholeB t.dr t.kind t.text t.num = true := by
        unfold wholeB
        rw [hcut]
        simp
      unfold writeR
      rw [show draftL (t.kind : Int) t.text (t.num : Int) = t.dr from rfl, if_pos hw]
    · have : t = e := by simpa using ht
      subst this
      rw [end_dr t h0 h1, h0, h1, h2]
      rfl
  · rcases List.mem_append.1 ht with ht | ht
    · obtain ⟨hk, hcut⟩ := hgd t ht
      have hb := cut_bounds _ _ _ _ _ hcut
      have hm := mem_sum init t ht
      exact ⟨by omega, hb.2⟩
    · have : t = e := by simpa using ht
      subst this
      rw [h1, h2]
      exact ⟨Nat.zero_le _, by omega⟩
  · obtain ⟨ms, hms, hpl⟩ := silent mk e h0 h1 h2 init 0 [10] hgd gap_nl ((10 :: txt mk 0 (init ++ [e])).length + init.length + 1) 0 (1, 1) (by omega)
    refine ⟨ms, ?_, hpl, ?_⟩
    · rw [scanAll_eq _ ((10 :: txt mk 0 (init ++ [e])).length + init.length + 1) (by omega)]
      exact hms
    · have := congrArg List.length hpl
      simpa using this
theorem cMarkF_code (l : List UInt8) : ∀ ms e, cMarkF l ms = .bad e → e = 40
  | [], e, h => by cases h; rfl
  | m :: r, e, h => by
    unfold cMarkF at h
    split at h
    · cases h
    · exact cMarkF_code l r e h
theorem cut_code (l : List UInt8) (e : Nat) (h : cut l = .bad e) : 40 ≤ e ∧ e ≤ 43 := by
  cases l with
  | nil => cases h
  | cons b r =>
    rw [show cut (b :: r) = if isL b then cName (b :: r) else if isD b then cNum (b :: r) else if b = 34 then cQuo (b :: r) else cMark (b :: r) from rfl] at h
    split at h
    · unfold cName at h
      split at h <;> cases h
      omega
    · split at h
      · unfold cNum at h
        repeat' split at h
        all_goals cases h
        all_goals omega
      · split at h
        · unfold cQuo at h
          generalize (List.drop (sp inQ (List.drop 1 (b :: r))) (List.drop 1 (b :: r))) = z at h
          cases z with
          | nil => cases h; omega
          | cons a u =>
            rw [cQuoT] at h
            split at h <;> cases h
            omega
        · rw [cMarkF_code _ _ _ h]; omega
theorem fault_code : ∀ (f : Nat) (l : List UInt8) (off : Nat) (p : Nat × Nat) (F : Flt), scan f l off p = .bad F → 40 ≤ F.code ∧ F.code ≤ 43
  | 0, l, off, p, F, h => by simp [scan] at h
  | f + 1, l, off, p, F, h => by
    cases hC : cut (l.drop (gp false l)) with
    | bad e =>
      rw [scan_bad _ _ _ _ e hC] at h
      cases h
      exact cut_code _ e hC
    | tok k t v n =>
      rw [scan_tok _ _ _ _ k v n t hC] at h
      split at h
      · cases h
      · cases hr : scan f ((l.drop (gp false l)).drop n) (off + gp false l + n) (adv 0 n (l.drop (gp false l)) (adv 0 (gp false l) l p)) with
        | ok us => rw [hr] at h; cases h
        | bad F' => rw [hr] at h; cases h; exact fault_code f _ _ _ F hr
end Go.Proofs.YtinbbcojilogeaaDoor.Tok
