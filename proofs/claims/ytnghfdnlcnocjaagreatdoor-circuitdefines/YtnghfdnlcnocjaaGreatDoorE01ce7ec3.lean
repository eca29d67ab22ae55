import Derived.Test.YtnghfdnlcnocjaaGreatDoorE08eb46a6
import Derived.Test.YtnghfdnlcnocjaaGreatDoorE9e95ee2e
namespace Go.Proofs.YtnghfdnlcnocjaaGreatDoor.Tok
open Go.RowKit Go.Shelf Go.Proofs.YtnghfdnlcnocjaaGreatDoor.Oct
theorem flat_at : ∀ (ts : List TA) (j : Nat) (t : TA), ts[j]? = some t -> ∀ i v, t.cells[i]? = some v -> (ts.flatMap TA.cells)[j * 6 + i]? = some v
  | [], j, t, h, _, _, _ => by simp at h
  | a :: r, 0, t, h, i, v, hv => by
    simp at h
    subst h
    rw [List.flatMap_cons, Nat.zero_mul, Nat.zero_add, List.getElem?_append_left ((List.getElem?_eq_some_iff.1 hv).1)]
    exact hv
  | a :: r, j + 1, t, h, i, v, hv => by
    simp only [List.getElem?_cons_succ] at h
    have hl : a.cells.length = 6 := rfl
    rw [List.flatMap_cons, List.getElem?_append_right (by omega), hl, show (j + 1) * 6 + i - 6 = j * 6 + i by omega]
    exact flat_at r j t h i v hv
def T.ta (t : T) : TA := ⟨t.kind, t.text, t.num, t.off, t.line, t.col⟩
def TA.pl (t : TA) : TA := ⟨t.kd, t.tx, t.nm, 0, 0, 0⟩
end Go.Proofs.YtnghfdnlcnocjaaGreatDoor.Tok
namespace Go.Proofs.YtnghfdnlcnocjaaGreatDoor.Tok
theorem sp_app_full {p : UInt8 -> Bool} : ∀ (x r : List UInt8), sp p x = x.length -> sp p (x ++ r) = x.length + sp p r
  | [], r, _ => by simp
  | a :: x, r, h => by
    by_cases hp : p a = true
    . rw [sp_cons_true x hp] at h
      rw [List.cons_append, sp_cons_true _ hp, sp_app_full x r (by simpa using h)]
      simp
      omega
    . rw [sp_cons_false x (by simpa using hp)] at h
      simp at h
theorem sp_app_part {p : UInt8 -> Bool} : ∀ (x r : List UInt8), sp p x < x.length -> sp p (x ++ r) = sp p x
  | [], r, h => by simp at h
  | a :: x, r, h => by
    by_cases hp : p a = true
    . rw [sp_cons_true x hp] at h ⊢
      rw [List.cons_append, sp_cons_true _ hp, sp_app_part x r (by simpa using h)]
    . rw [List.cons_append, sp_cons_false _ (by simpa using hp), sp_cons_false _ (by simpa using hp)]
def Sep (r : List UInt8) : Prop := ∀ c t, r = c :: t -> inW c = false /\ c ≠ 46
theorem Sep.sp {r : List UInt8} (h : Sep r) (p : UInt8 -> Bool) (hp : ∀ c, inW c = false -> p c = false) : sp p r = 0 := by
  cases r with
  | nil => rfl
  | cons c t => exact sp_cons_false t (hp c (h c t rfl).1)
theorem notD (c : UInt8) (h : inW c = false) : isD c = false := by unfold inW at h; simp at h; exact h.2
theorem notL (c : UInt8) (h : inW c = false) : isL c = false := by unfold inW at h; simp at h; exact h.1
theorem Sep.frac {r : List UInt8} (h : Sep r) : frac r = 0 := by
  cases r with
  | nil => rfl
  | cons c t => rw [Tok.frac, if_neg (h c t rfl).2]
theorem mark_alone : ∀ m ∈ marks, ∀ m' ∈ marks, (m'.isPrefixOf m = true ∨ m.isPrefixOf m' = true) -> m = m' := by decide
theorem cMarkF_in (l : List UInt8) : ∀ (ms : List (List UInt8)) k t v n, cMarkF l ms = .tok k t v n -> k = 5 /\ t ∈ ms /\ v = 0 /\ n = t.length /\ t.isPrefixOf l = true
  | [], k, t, v, n, h => by simp [cMarkF] at h
  | m :: r, k, t, v, n, h => by
    unfold cMarkF at h
    split at h
    . rename_i hp
      cases h
      exact ⟨rfl, by simp, rfl, rfl, hp⟩
    . obtain ⟨a, b, c, d, e⟩ := cMarkF_in l r k t v n h
      exact ⟨a, by simp [b], c, d, e⟩
theorem cMarkF_ext (x r : List UInt8) (hx : x ∈ marks) : ∀ ms : List (List UInt8), (∀ m ∈ ms, m ∈ marks) -> x ∈ ms -> cMarkF (x ++ r) ms = .tok 5 x 0 x.length
  | [], _, h => by cases h
  | m :: ms, hm, h => by
    unfold cMarkF
    by_cases hp : m.isPrefixOf (x ++ r) = true
    . rw [if_pos hp]
      have h1 := List.isPrefixOf_iff_prefix.1 hp
      have h2 : x <+: x ++ r := List.prefix_append x r
      have hc : m <+: x ∨ x <+: m := List.prefix_or_prefix_of_prefix h1 h2
      have e := mark_alone x hx m (hm m (by simp)) (by
        rcases hc with hc | hc
        . exact .inl (List.isPrefixOf_iff_prefix.2 hc)
        . exact .inr (List.isPrefixOf_iff_prefix.2 hc))
      rw [e]
    . rw [if_neg hp]
      rcases List.mem_cons.1 h with rfl | h
      . exact absurd (List.isPrefixOf_iff_prefix.2 (List.prefix_append x r)) hp
      . exact cMarkF_ext x r hx ms (fun y hy => hm y (by simp [hy])) h
theorem cut_ext (x r : List UInt8) (k : Nat) (t : List UInt8) (v : Nat) (h : cut x = .tok k t v x.length) (hk : k ≠ 0) (hr : Sep r) : cut (x ++ r) = .tok k t v x.length := by
  cases x with
  | nil => cases h; exact absurd rfl hk
  | cons b y =>
    have hc : ∀ r : List UInt8, cut (b :: r) = if isL b then cName (b :: r) else if isD b then cNum (b :: r) else if b = 34 then cQuo (b :: r) else cMark (b :: r) := fun _ => rfl
    have ha : (b :: y) ++ r = b :: (y ++ r) := rfl
    rw [hc] at h
    rw [ha, hc, ← ha]
    by_cases hL : isL b = true
    . rw [if_pos hL] at h ⊢
      unfold cName at h ⊢
      split at h
      . cases h
      . rename_i h32
        injection h with h1 h2 h3 h4
        rw [sp_app_full _ r h4, hr.sp inW (fun c h => h), Nat.add_zero, ← h4, if_neg h32, h1, ← h3]
        congr 1
        rw [h4, List.take_left]
        rw [h4, List.take_length] at h2
        exact h2
    . rw [if_neg hL] at h ⊢
      by_cases hD : isD b = true
      . rw [if_pos hD] at h ⊢
        have h2 := sp_le isD (b :: y)
        unfold cNum at h ⊢
        have hh : ((b :: y) ++ r).head? = (b :: y).head? := rfl
        rw [hh]
        split at h
        . cases h
        . rename_i hbad
          split at h
          . rename_i hf
            injection h with e1 e2 e3 e4
            have hlt : sp isD (b :: y) < (b :: y).length := by omega
            have s1 : sp isD ((b :: y) ++ r) = sp isD (b :: y) := sp_app_part _ r hlt
            have s2 : ((b :: y) ++ r).drop (sp isD (b :: y)) = (b :: y).drop (sp isD (b :: y)) ++ r := List.drop_append_of_le_length (by omega)
            have s3 : frac ((b :: y).drop (sp isD (b :: y)) ++ r) = frac ((b :: y).drop (sp isD (b :: y))) := by
              have hdl : ((b :: y).drop (sp isD (b :: y))).length = frac ((b :: y).drop (sp isD (b :: y))) := by rw [List.length_drop]; omega
              generalize (b :: y).drop (sp isD (b :: y)) = z at hf hdl ⊢
              cases z with
              | nil => simp [frac] at hf
              | cons c d =>
                rw [List.cons_append, frac, frac]
                rw [frac] at hf hdl
                by_cases hc46 : c = 46
                . rw [if_pos hc46] at hf hdl ⊢
                  rw [if_pos hc46]
                  by_cases h0 : sp isD d = 0
                  . rw [if_pos h0] at hf; omega
                  . rw [if_neg h0] at hdl ⊢
                    have hfull : sp isD d = d.length := by simp at hdl; omega
                    rw [sp_app_full d r hfull, hr.sp isD notD, Nat.add_zero, if_neg (by omega), hfull]
                . rw [if_neg hc46] at hf; omega
            have s4 : ((b :: y) ++ r).drop (sp isD (b :: y) + frac ((b :: y).drop (sp isD (b :: y)))) = r := by rw [e4, List.drop_left]
            rw [s1, s2, s3, s4, hr.sp isL notL, if_neg (by rintro (h | h); exact hbad (.inl h); omega), if_pos hf, e1, e4, ← e3]
            congr 1
            rw [List.take_left, ← e2, e4, List.take_length]
          . rename_i hf
            split at h
            . cases h
            . rename_i hv
              injection h with e1 e2 e3 e4
              have s1 : sp isD ((b :: y) ++ r) = sp isD (b :: y) := by rw [sp_app_full _ r e4, hr.sp isD notD, e4]; omega
              have s2 : ((b :: y) ++ r).drop (sp isD (b :: y)) = r := by rw [e4, List.drop_left]
              have s3 : ((b :: y) ++ r).take (sp isD (b :: y)) = (b :: y).take (sp isD (b :: y)) := by rw [e4, List.take_left, List.take_length]
              have s4 : ((b :: y) ++ r).drop (sp isD (b :: y) + 0) = r := by rw [Nat.add_zero]; exact s2
              rw [s1, s2, hr.frac, s4, hr.sp isL notL, if_neg (by rintro (h | h); exact hbad (.inl h); omega), if_neg (by omega), s3, if_neg hv, e1, e2, e3, e4]
      . rw [if_neg hD] at h ⊢
        by_cases hq : b = 34
        . rw [if_pos hq] at h ⊢
          unfold cQuo at h ⊢
          rw [ha]
          simp only [List.drop_succ_cons, List.drop_zero] at h ⊢
          cases hx : y.drop (sp inQ y) with
          | nil => rw [hx] at h; cases h
          | cons a u =>
            rw [hx, cQuoT] at h
            split at h
            . rename_i h34
              injection h with e1 e2 e3 e4
              have hlt : sp inQ y < y.length := by
                have := congrArg List.length hx
                rw [List.length_drop] at this
                simp at this
                omega
              rw [sp_app_part y r hlt, List.drop_append_of_le_length (by omega), hx, List.cons_append, cQuoT, if_pos h34, List.take_append_of_le_length (by omega), e1, e2, e3, e4]
            . cases h
        . rw [if_neg hq] at h ⊢
          obtain ⟨rfl, hm, rfl, hn, hp⟩ := cMarkF_in _ _ _ _ _ _ h
          have e : t = b :: y := (List.isPrefixOf_iff_prefix.1 hp).eq_of_length hn.symm
          rw [e] at hm ⊢
          exact cMarkF_ext _ r hm marks (fun m h => h) hm
theorem cut_blank (a : UInt8) (r : List UInt8) (h : blank a = true ∨ a = 47) : cut (a :: r) = .bad 40 := by
  have : a = 32 ∨ a = 9 ∨ a = 10 ∨ a = 13 ∨ a = 47 := by
    rcases h with h | h
    . rcases blank_cases a h with h | h | h | h <;> simp [h]
    . simp [h]
  rcases this with rfl | rfl | rfl | rfl | rfl <;> rfl
theorem tok_gp (x : List UInt8) (k : Nat) (t : List UInt8) (v n : Nat) (h : cut x = .tok k t v n) : gp false x = 0 := by
  cases x with
  | nil => rfl
  | cons a r =>
    by_cases hb : blank a = true
    . rw [cut_blank a r (.inl hb)] at h; cases h
    . by_cases h47 : a = 47
      . rw [cut_blank a r (.inr h47)] at h; cases h
      . have hb' : blank a = false := by simpa using hb
        simp [gp, hb', h47]
def Gap (g : List UInt8) : Prop := ∀ r, gp false (g ++ r) = g.length + gp false r
theorem Gap.all {g : List UInt8} (h : Gap g) : gp false g = g.length := by
  have := h []
  rw [List.append_nil] at this
  exact this
theorem Gap.app {a b : List UInt8} (ha : Gap a) (hb : Gap b) : Gap (a ++ b) := fun r => by rw [List.append_assoc, ha, hb, List.length_append]; omega
theorem gap_nil : Gap [] := fun r => by simp
theorem step_tok (G x r : List UInt8) (k : Nat) (t : List UInt8) (v : Nat) (hG : Gap G) (h : cut x = .tok k t v x.length) (hk : k ≠ 0) (hr : Sep r) (f off : Nat) (p : Nat × Nat) :
    ∃ o l c off' p', scan (f + 1) (G ++ (x ++ r)) off p = Sc.pre [⟨k, t, v, o, l, c⟩] (scan f r off' p') := by
  have hx := cut_ext x r k t v h hk hr
  have hg : gp false (G ++ (x ++ r)) = G.length := by rw [hG, tok_gp _ _ _ _ _ hx]; omega
  have e := scan_tok f (G ++ (x ++ r)) off p k v x.length t (by rw [hg, List.drop_left]; exact hx)
  rw [if_neg hk, hg, List.drop_left, List.drop_left] at e
  exact ⟨_, _, _, _, _, e⟩
theorem step_end (G : List UInt8) (hG : Gap G) (f off : Nat) (p : Nat × Nat) : ∃ o l c, scan (f + 1) G off p = .ok [⟨0, [], 0, o, l, c⟩] := by
  have e := scan_tok f G off p 0 0 0 [] (by rw [hG.all, List.drop_length]; rfl)
  rw [if_pos rfl] at e
  exact ⟨_, _, _, e⟩
theorem cut_zero (x : List UInt8) (t : List UInt8) (v n : Nat) (h : cut x = .tok 0 t v n) : x = [] /\ t = [] /\ v = 0 := by
  cases x with
  | nil => cases h; exact ⟨rfl, rfl, rfl⟩
  | cons b r =>
    exfalso
    rw [show cut (b :: r) = if isL b then cName (b :: r) else if isD b then cNum (b :: r) else if b = 34 then cQuo (b :: r) else cMark (b :: r) from rfl] at h
    split at h
    . unfold cName at h; split at h <;> cases h
    . split at h
      . unfold cNum at h
        repeat' split at h
        all_goals cases h
      . split at h
        . unfold cQuo at h
          generalize (List.drop (sp inQ (List.drop 1 (b :: r))) (List.drop 1 (b :: r))) = z at h
          cases z with
          | nil => cases h
          | cons a u => rw [cQuoT] at h; split at h <;> cases h
        . have := (cMarkF_in _ _ _ _ _ _ h).1
          cases this
theorem scan_fuel : ∀ (f f' : Nat) (l : List UInt8) (off : Nat) (p : Nat × Nat), l.length < f -> l.length < f' -> scan f l off p = scan f' l off p
  | 0, f', l, off, p, h, _ => by omega
  | f + 1, 0, l, off, p, _, h => by omega
  | f + 1, f' + 1, l, off, p, h, h' => by
    have hg := gp_le false l
    cases hC : cut (l.drop (gp false l)) with
    | bad e => rw [scan_bad _ _ _ _ e hC, scan_bad _ _ _ _ e hC]
    | tok k t v n =>
      rw [scan_tok _ _ _ _ k v n t hC, scan_tok _ _ _ _ k v n t hC]
      by_cases hk : k = 0
      . rw [if_pos hk, if_pos hk]
      . obtain ⟨hnl, hn1⟩ := cut_len _ _ _ _ _ hC
        have hn1 := hn1 hk
        rw [List.length_drop] at hnl
        rw [if_neg hk, if_neg hk, scan_fuel f f' _ _ _ (by rw [List.length_drop, List.length_drop]; omega) (by rw [List.length_drop, List.length_drop]; omega)]
theorem scanAll_eq (l : List UInt8) (f : Nat) (h : l.length < f) : scanAll l = scan f l 0 (1, 1) := scan_fuel _ _ l 0 (1, 1) (by omega) h
end Go.Proofs.YtnghfdnlcnocjaaGreatDoor.Tok
namespace Go.Proofs.YtnghfdnlcnocjaaGreatDoor.Tok
def T.dr (t : T) : List UInt8 := draftL t.kind t.text t.num
def T.good (t : T) : Prop := t.kind ≠ 0 /\ cut t.dr = .tok t.kind t.text t.num t.dr.length
theorem dv_app (l : List UInt8) (c : UInt8) (a : Nat) : dv a (l ++ [c]) = dv a l * 10 + (c.toNat - 48) := by
  induction l generalizing a with
  | nil => rfl
  | cons b r ih => exact ih _
theorem dv_pos (l : List UInt8) (c : UInt8) (h : isD c = true) (h0 : c ≠ 48) : 1 <= dv 0 (c :: l) := by
  have h1 := dv_le l (0 * 10 + (c.toNat - 48))
  have h2 := (isD_iff c).1 h
  have h3 : c.toNat ≠ 48 := fun e => h0 (UInt8.toNat.inj e)
  have e : dv 0 (c :: l) = dv (0 * 10 + (c.toNat - 48)) l := rfl
  omega
theorem ofNat48 (c : UInt8) (h : isD c = true) : UInt8.ofNat (48 + (c.toNat - 48)) = c := by
  have := (isD_iff c).1 h
  rw [show 48 + (c.toNat - 48) = c.toNat by omega]
  exact UInt8.ofNat_toNat
theorem itoa_dv : ∀ (n : Nat) (ds : List UInt8), ds.length = n + 1 -> (∀ b ∈ ds, isD b = true) -> (ds.length = 1 ∨ ds.head? ≠ some 48) -> Lib.decDigits (dv 0 ds) = ds
  | 0, ds, hl, hd, _ => by
    match ds, hl with
    | [c], _ =>
      have hc := hd c (by simp)
      have h2 := (isD_iff c).1 hc
      have e : dv 0 [c] = c.toNat - 48 := by show 0 * 10 + (c.toNat - 48) = _; omega
      rw [e, Lib.decDigits_one (by omega), ofNat48 c hc]
  | n + 1, ds, hl, hd, hz => by
    have hne : ds ≠ [] := fun e => by rw [e] at hl; simp at hl
    obtain ⟨es, c, rfl⟩ : ∃ es c, ds = es ++ [c] := ⟨ds.dropLast, ds.getLast hne, (List.dropLast_concat_getLast hne).symm⟩
    have hel : es.length = n + 1 := by simp at hl; omega
    have hc := hd c (by simp)
    have h2 := (isD_iff c).1 hc
    have hz2 : es.head? ≠ some 48 := by
      rcases hz with h | h
      . omega
      . cases es with
        | nil => simp at hel
        | cons a r => simpa using h
    have ih := itoa_dv n es hel (fun b hb => hd b (by simp [hb])) (.inr hz2)
    have hpos : 1 <= dv 0 es := by
      cases es with
      | nil => simp at hel
      | cons a r => exact dv_pos r a (hd a (by simp)) (fun e => hz2 (by rw [e]; rfl))
    rw [dv_app, Lib.decDigits, dif_neg (by omega), show (dv 0 es * 10 + (c.toNat - 48)) / 10 = dv 0 es by omega, show (dv 0 es * 10 + (c.toNat - 48)) % 10 = c.toNat - 48 by omega, ih, ofNat48 c hc]
theorem draft_cut (r : List UInt8) (k : Nat) (t : List UInt8) (v n : Nat) (h : cut r = .tok k t v n) (hk : k ≠ 0) : draftL k t v = r.take n := by
  have h0 := h
  cases r with
  | nil => cases h; exact absurd rfl hk
  | cons b y =>
    rw [show cut (b :: y) = if isL b then cName (b :: y) else if isD b then cNum (b :: y) else if b = 34 then cQuo (b :: y) else cMark (b :: y) from rfl] at h
    split at h
    . unfold cName at h
      split at h
      . cases h
      . cases h; rfl
    . split at h
      . rename_i hD
        unfold cNum at h
        split at h
        . cases h
        . rename_i hbad
          split at h
          . cases h; rfl
          . split at h
            . cases h
            . cases h
              have hall := sp_all isD (b :: y)
              have hle := sp_le isD (b :: y)
              have h1 : 1 <= sp isD (b :: y) := by rw [sp_cons_true y hD]; omega
              have hlen : ((b :: y).take (sp isD (b :: y))).length = sp isD (b :: y) := by rw [List.length_take]; omega
              show Lib.itoa ((dv 0 ((b :: y).take (sp isD (b :: y))) : Nat) : Int) = _
              rw [show ∀ u : Nat, Lib.itoa (u : Int) = Lib.decDigits u from fun u => by unfold Lib.itoa; rw [if_neg (by omega)]; simp]
              refine itoa_dv (sp isD (b :: y) - 1) _ (by rw [hlen]; omega) hall ?_
              rw [hlen]
              by_cases h1' : sp isD (b :: y) = 1
              . exact .inl h1'
              . right
                intro e
                obtain ⟨m, hm⟩ : ∃ m, sp isD (b :: y) = m + 1 := ⟨sp isD (b :: y) - 1, by omega⟩
                rw [hm, List.take_succ_cons] at e
                exact hbad (.inl ⟨by omega, e⟩)
      . split at h
        . rename_i h34
          unfold cQuo at h
          rw [List.drop_succ_cons, List.drop_zero] at h
          cases hx : y.drop (sp inQ y) with
          | nil => rw [hx] at h; cases h
          | cons a u =>
            rw [hx, cQuoT] at h
            split at h
            . rename_i ha
              cases h
              show 34 :: (y.take (sp inQ y) ++ [34]) = _
              rw [show sp inQ y + 2 = (sp inQ y + 1) + 1 by omega, List.take_succ_cons, List.take_add_one, h34]
              have e : y[sp inQ y]? = some a := by
                have := congrArg (fun z => z[0]?) hx
                simpa using this
              rw [e, ha]
              rfl
            . cases h
        . obtain ⟨rfl, hm, rfl, rfl, hp⟩ := cMarkF_in _ _ _ _ _ _ h
          obtain ⟨z, hz⟩ := List.isPrefixOf_iff_prefix.1 hp
          show t = _
          rw [← hz, List.take_left]
theorem good_of (r : List UInt8) (k : Nat) (t : List UInt8) (v n o l c : Nat) (h : cut r = .tok k t v n) (hk : k ≠ 0) : (T.mk k t v o l c).good /\ (T.mk k t v o l c).dr.length = n := by
  have hd := draft_cut r k t v n h hk
  have hn := (cut_len r k t v n h).1
  have hl : (r.take n).length = n := by rw [List.length_take]; omega
  have e : (T.mk k t v o l c).dr = r.take n := hd
  refine ⟨⟨hk, ?_⟩, by rw [e, hl]⟩
  rw [e, hl]
  exact cut_take r n k t v n h hk (Nat.le_refl _)
theorem scan_shape : ∀ (f : Nat) (l : List UInt8) (off : Nat) (p : Nat × Nat) (us : List T), scan f l off p = .ok us -> l.length < f -> ∃ init e, us = init ++ [e] /\ (∀ t ∈ init, t.good) /\ e.kind = 0 /\ e.text = [] /\ e.num = 0 /\ (init.map fun t => t.dr.length).sum <= l.length /\ init.length <= l.length
  | 0, l, off, p, us, _, h => by omega
  | f + 1, l, off, p, us, h, hl => by
    have hg := gp_le false l
    cases hC : cut (l.drop (gp false l)) with
    | bad e => rw [scan_bad _ _ _ _ e hC] at h; cases h
    | tok k t v n =>
      rw [scan_tok _ _ _ _ k v n t hC] at h
      by_cases hk : k = 0
      . rw [if_pos hk] at h
        cases h
        subst hk
        obtain ⟨_, h2, h3⟩ := cut_zero _ _ _ _ hC
        exact ⟨[], _, rfl, fun t ht => by simp at ht, rfl, h2, h3, Nat.zero_le _, Nat.zero_le _⟩
      . rw [if_neg hk] at h
        obtain ⟨hnl, hn1⟩ := cut_len _ _ _ _ _ hC
        have hn1 := hn1 hk
        rw [List.length_drop] at hnl
        cases hr : scan f ((l.drop (gp false l)).drop n) (off + gp false l + n) (adv 0 n (l.drop (gp false l)) (adv 0 (gp false l) l p)) with
        | bad F => rw [hr] at h; cases h
        | ok us' =>
          rw [hr] at h
          cases h
          obtain ⟨init, e, rfl, h1, h2, h3, h4, h5, h6⟩ := scan_shape f _ _ _ us' hr (by rw [List.length_drop, List.length_drop]; omega)
          rw [List.length_drop, List.length_drop] at h5 h6
          obtain ⟨hgd, hdl⟩ := good_of _ k t v n (off + gp false l) (adv 0 (gp false l) l p).1 (adv 0 (gp false l) l p).2 hC hk
          refine ⟨⟨k, t, v, off + gp false l, (adv 0 (gp false l) l p).1, (adv 0 (gp false l) l p).2⟩ :: init, e, rfl, ?_, h2, h3, h4, ?_, ?_⟩
          . intro x hx
            rcases List.mem_cons.1 hx with rfl | hx
            . exact hgd
            . exact h1 x hx
          . rw [List.map_cons, List.sum_cons, hdl]; omega
          . rw [List.length_cons]; omega
def gaps : List (List UInt8) := [[32], [10], [32, 47, 47, 32, 34, 32, 59, 10], [9, 13, 32], [47, 47, 10, 47, 47, 255, 10]]
def gapAt (mk : List UInt8) (i : Nat) : List UInt8 := gaps.getD ((mk.getD i 0).toNat % 5) []
def txt (mk : List UInt8) : Nat -> List T -> List UInt8
  | _, [] => []
  | i, t :: r => t.dr ++ (gapAt mk i ++ txt mk (i + 1) r)
theorem end_dr (e : T) (h0 : e.kind = 0) (h1 : e.text = []) : e.dr = [] := by
  unfold T.dr draftL
  rw [h0, h1]
  rfl
theorem cut_bounds (x : List UInt8) (k : Nat) (t : List UInt8) (v n : Nat) (h : cut x = .tok k t v n) : t.length <= x.length /\ v <= 1000000000 := by
  cases x with
  | nil => cases h; exact ⟨Nat.le_refl _, by omega⟩
  | cons b r =>
    rw [show cut (b :: r) = if isL b then cName (b :: r) else if isD b then cNum (b :: r) else if b = 34 then cQuo (b :: r) else cMark (b :: r) from rfl] at h
    split at h
    . unfold cName at h
      split at h <;> cases h
      exact ⟨by rw [List.length_take]; omega, by omega⟩
    . split at h
      . unfold cNum at h
        split at h
        . cases h
        . split at h
          . cases h
            exact ⟨by rw [List.length_take]; omega, by omega⟩
          . split at h
            . cases h
            . cases h
              exact ⟨Nat.zero_le _, by omega⟩
      . split at h
        . unfold cQuo at h
          rw [List.drop_succ_cons, List.drop_zero] at h
          cases hx : r.drop (sp inQ r) with
          | nil => rw [hx] at h; cases h
          | cons a u =>
            rw [hx, cQuoT] at h
            split at h <;> cases h
            exact ⟨by rw [List.length_take]; simp; omega, by omega⟩
        . obtain ⟨_, _, rfl, _, hp⟩ := cMarkF_in _ _ _ _ _ _ h
          exact ⟨(List.isPrefixOf_iff_prefix.1 hp).length_le, by omega⟩
theorem mem_sum (init : List T) (t : T) (h : t ∈ init) : t.dr.length <= (init.map fun t => t.dr.length).sum := by
  induction init with
  | nil => cases h
  | cons a r ih =>
    rw [List.map_cons, List.sum_cons]
    rcases List.mem_cons.1 h with rfl | h
    . omega
    . have := ih h; omega
theorem cMarkF_code (l : List UInt8) : ∀ ms e, cMarkF l ms = .bad e -> e = 40
  | [], e, h => by cases h; rfl
  | m :: r, e, h => by
    unfold cMarkF at h
    split at h
    . cases h
    . exact cMarkF_code l r e h
theorem cut_code (l : List UInt8) (e : Nat) (h : cut l = .bad e) : 40 <= e /\ e <= 43 := by
  cases l with
  | nil => cases h
  | cons b r =>
    rw [show cut (b :: r) = if isL b then cName (b :: r) else if isD b then cNum (b :: r) else if b = 34 then cQuo (b :: r) else cMark (b :: r) from rfl] at h
    split at h
    . unfold cName at h
      split at h <;> cases h
      omega
    . split at h
      . unfold cNum at h
        repeat' split at h
        all_goals cases h
        all_goals omega
      . split at h
        . unfold cQuo at h
          generalize (List.drop (sp inQ (List.drop 1 (b :: r))) (List.drop 1 (b :: r))) = z at h
          cases z with
          | nil => cases h; omega
          | cons a u =>
            rw [cQuoT] at h
            split at h <;> cases h
            omega
        . rw [cMarkF_code _ _ _ h]; omega
theorem fault_code : ∀ (f : Nat) (l : List UInt8) (off : Nat) (p : Nat × Nat) (F : Flt), scan f l off p = .bad F -> 40 <= F.code /\ F.code <= 43
  | 0, l, off, p, F, h => by simp [scan] at h
  | f + 1, l, off, p, F, h => by
    cases hC : cut (l.drop (gp false l)) with
    | bad e =>
      rw [scan_bad _ _ _ _ e hC] at h
      cases h
      exact cut_code _ e hC
    | tok k t v n =>
      rw [scan_tok _ _ _ _ k v n t hC] at h
      split at h
      . cases h
      . cases hr : scan f ((l.drop (gp false l)).drop n) (off + gp false l + n) (adv 0 n (l.drop (gp false l)) (adv 0 (gp false l) l p)) with
        | ok us => rw [hr] at h; cases h
        | bad F' => rw [hr] at h; cases h; exact fault_code f _ _ _ F hr
end Go.Proofs.YtnghfdnlcnocjaaGreatDoor.Tok
