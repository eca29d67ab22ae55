/- Texts put together out of tokens, and cut again. No program is named. -/
import Derived.Test.YtinbbcojilogeaaDoorKo
import Derived.Test.YtinbbcojilogeaaDoorNa
namespace Go.Proofs.YtinbbcojilogeaaDoor.Tok

theorem sp_app_full {p : UInt8 → Bool} : ∀ (x r : List UInt8), sp p x = x.length → sp p (x ++ r) = x.length + sp p r
  | [], r, _ => by simp
  | a :: x, r, h => by
    by_cases hp : p a = true
    · rw [sp_cons_true x hp] at h
      rw [List.cons_append, sp_cons_true _ hp, sp_app_full x r (by simpa using h)]
      simp
      omega
    · rw [sp_cons_false x (by simpa using hp)] at h
      simp at h
theorem sp_app_part {p : UInt8 → Bool} : ∀ (x r : List UInt8), sp p x < x.length → sp p (x ++ r) = sp p x
  | [], r, h => by simp at h
  | a :: x, r, h => by
    by_cases hp : p a = true
    · rw [sp_cons_true x hp] at h ⊢
      rw [List.cons_append, sp_cons_true _ hp, sp_app_part x r (by simpa using h)]
    · rw [List.cons_append, sp_cons_false _ (by simpa using hp), sp_cons_false _ (by simpa using hp)]
/-- What may stand behind a token. -/
def Sep (r : List UInt8) : Prop := ∀ c t, r = c :: t → inW c = false ∧ c ≠ 46
theorem Sep.sp {r : List UInt8} (h : Sep r) (p : UInt8 → Bool) (hp : ∀ c, inW c = false → p c = false) : sp p r = 0 := by
  cases r with
  | nil => rfl
  | cons c t => exact sp_cons_false t (hp c (h c t rfl).1)
theorem notD (c : UInt8) (h : inW c = false) : isD c = false := by unfold inW at h; simp at h; exact h.2
theorem notL (c : UInt8) (h : inW c = false) : isL c = false := by unfold inW at h; simp at h; exact h.1
theorem Sep.frac {r : List UInt8} (h : Sep r) : frac r = 0 := by
  cases r with
  | nil => rfl
  | cons c t => rw [Tok.frac, if_neg (h c t rfl).2]
theorem mark_alone : ∀ m ∈ marks, ∀ m' ∈ marks, (m'.isPrefixOf m = true ∨ m.isPrefixOf m' = true) → m = m' := by decide
theorem cMarkF_in (l : List UInt8) : ∀ (ms : List (List UInt8)) k t v n, cMarkF l ms = .tok k t v n → k = 5 ∧ t ∈ ms ∧ v = 0 ∧ n = t.length ∧ t.isPrefixOf l = true
  | [], k, t, v, n, h => by simp [cMarkF] at h
  | m :: r, k, t, v, n, h => by
    unfold cMarkF at h
    split at h
    · rename_i hp
      cases h
      exact ⟨rfl, by simp, rfl, rfl, hp⟩
    · obtain ⟨a, b, c, d, e⟩ := cMarkF_in l r k t v n h
      exact ⟨a, by simp [b], c, d, e⟩
theorem cMarkF_ext (x r : List UInt8) (hx : x ∈ marks) : ∀ ms : List (List UInt8), (∀ m ∈ ms, m ∈ marks) → x ∈ ms → cMarkF (x ++ r) ms = .tok 5 x 0 x.length
  | [], _, h => by cases h
  | m :: ms, hm, h => by
    unfold cMarkF
    by_cases hp : m.isPrefixOf (x ++ r) = true
    · rw [if_pos hp]
      have h1 := List.isPrefixOf_iff_prefix.1 hp
      have h2 : x <+: x ++ r := List.prefix_append x r
      have hc : m <+: x ∨ x <+: m := List.prefix_or_prefix_of_prefix h1 h2
      have e := mark_alone x hx m (hm m (by simp)) (by
        rcases hc with hc | hc
        · exact .inl (List.isPrefixOf_iff_prefix.2 hc)
        · exact .inr (List.isPrefixOf_iff_prefix.2 hc))
      rw [e]
    · rw [if_neg hp]
      rcases List.mem_cons.1 h with rfl | h
      · exact absurd (List.isPrefixOf_iff_prefix.2 (List.prefix_append x r)) hp
      · exact cMarkF_ext x r hx ms (fun y hy => hm y (by simp [hy])) h
/-- A token is cut as well where something follows it. -/
theorem cut_ext (x r : List UInt8) (k : Nat) (t : List UInt8) (v : Nat) (h : cut x = .tok k t v x.length) (hk : k ≠ 0) (hr : Sep r) : cut (x ++ r) = .tok k t v x.length := by
  cases x with
  | nil => cases h; exact absurd rfl hk
  | cons b y =>
    have hc : ∀ r : List UInt8, cut (b :: r) = if isL b then cName (b :: r) else if isD b then cNum (b :: r) else if b = 34 then cQuo (b :: r) else cMark (b :: r) := fun _ => rfl
    have ha : (b :: y) ++ r = b :: (y ++ r) := rfl
    rw [hc] at h
    rw [ha, hc, ← ha]
    by_cases hL : isL b = true
    · rw [if_pos hL] at h ⊢
      unfold cName at h ⊢
      split at h
      · cases h
      · rename_i h32
        injection h with h1 h2 h3 h4
        rw [sp_app_full _ r h4, hr.sp inW (fun c h => h), Nat.add_zero, ← h4, if_neg h32, h1, ← h3]
        congr 1
        rw [h4, List.take_left]
        rw [h4, List.take_length] at h2
        exact h2
    · rw [if_neg hL] at h ⊢
      by_cases hD : isD b = true
      · rw [if_pos hD] at h ⊢
        have h2 := sp_le isD (b :: y)
        unfold cNum at h ⊢
        have hh : ((b :: y) ++ r).head? = (b :: y).head? := rfl
        rw [hh]
        split at h
        · cases h
        · rename_i hbad
          split at h
          · rename_i hf
            injection h with e1 e2 e3 e4
            have hlt : sp isD (b :: y) < (b :: y).length := by omega
            have s1 : sp isD ((b :: y) ++ r) = sp isD (b :: y) := sp_app_part _ r hlt
            have s2 : ((b :: y) ++ r).drop (sp isD (b :: y)) = (b :: y).drop (sp isD (b :: y)) ++ r := List.drop_append_of_le_length (by omega)
            have s3 : frac ((b :: y).drop (sp isD (b :: y)) ++ r) = frac ((b :: y).drop (sp isD (b :: y))) := by
              have hdl : ((b :: y).drop (sp isD (b :: y))).length = frac ((b :: y).drop (sp isD (b :: y))) := by rw [List.length_drop]; omega
              generalize (b :: y).drop (sp isD (b :: y)) = z at hf hdl ⊢
              cases z with
              | nil => simp [frac] at hf
              | cons c d =>
                rw [List.cons_append, frac, frac]
                rw [frac] at hf hdl
                by_cases hc46 : c = 46
                · rw [if_pos hc46] at hf hdl ⊢
                  rw [if_pos hc46]
                  by_cases h0 : sp isD d = 0
                  · rw [if_pos h0] at hf; omega
                  · rw [if_neg h0] at hdl ⊢
                    have hfull : sp isD d = d.length := by simp at hdl; omega
                    rw [sp_app_full d r hfull, hr.sp isD notD, Nat.add_zero, if_neg (by omega), hfull]
                · rw [if_neg hc46] at hf; omega
            have s4 : ((b :: y) ++ r).drop (sp isD (b :: y) + frac ((b :: y).drop (sp isD (b :: y)))) = r := by rw [e4, List.drop_left]
            rw [s1, s2, s3, s4, hr.sp isL notL, if_neg (by rintro (h | h); exact hbad (.inl h); omega), if_pos hf, e1, e4, ← e3]
            congr 1
            rw [List.take_left, ← e2, e4, List.take_length]
          · rename_i hf
            split at h
            · cases h
            · rename_i hv
              injection h with e1 e2 e3 e4
              have s1 : sp isD ((b :: y) ++ r) = sp isD (b :: y) := by rw [sp_app_full _ r e4, hr.sp isD notD, e4]; omega
              have s2 : ((b :: y) ++ r).drop (sp isD (b :: y)) = r := by rw [e4, List.drop_left]
              have s3 : ((b :: y) ++ r).take (sp isD (b :: y)) = (b :: y).take (sp isD (b :: y)) := by rw [e4, List.take_left, List.take_length]
              have s4 : ((b :: y) ++ r).drop (sp isD (b :: y) + 0) = r := by rw [Nat.add_zero]; exact s2
              rw [s1, s2, hr.frac, s4, hr.sp isL notL, if_neg (by rintro (h | h); exact hbad (.inl h); omega), if_neg (by omega), s3, if_neg hv, e1, e2, e3, e4]
      · rw [if_neg hD] at h ⊢
        by_cases hq : b = 34
        · rw [if_pos hq] at h ⊢
          unfold cQuo at h ⊢
          rw [ha]
          simp only [List.drop_succ_cons, List.drop_zero] at h ⊢
          cases hx : y.drop (sp inQ y) with
          | nil => rw [hx] at h; cases h
          | cons a u =>
            rw [hx, cQuoT] at h
            split at h
            · rename_i h34
              injection h with e1 e2 e3 e4
              have hlt : sp inQ y < y.length := by
                have := congrArg List.length hx
                rw [List.length_drop] at this
                simp at this
                omega
              rw [sp_app_part y r hlt, List.drop_append_of_le_length (by omega), hx, List.cons_append, cQuoT, if_pos h34, List.take_append_of_le_length (by omega), e1, e2, e3, e4]
            · cases h
        · rw [if_neg hq] at h ⊢
          obtain ⟨rfl, hm, rfl, hn, hp⟩ := cMarkF_in _ _ _ _ _ _ h
          have e : t = b :: y := (List.isPrefixOf_iff_prefix.1 hp).eq_of_length hn.symm
          rw [e] at hm ⊢
          exact cMarkF_ext _ r hm marks (fun m h => h) hm
theorem cut_blank (a : UInt8) (r : List UInt8) (h : blank a = true ∨ a = 47) : cut (a :: r) = .bad 40 := by
  have : a = 32 ∨ a = 9 ∨ a = 10 ∨ a = 13 ∨ a = 47 := by
    rcases h with h | h
    · rcases blank_cases a h with h | h | h | h <;> simp [h]
    · simp [h]
  rcases this with rfl | rfl | rfl | rfl | rfl <;> rfl
/-- No blank and no comment stands at a token's head. -/
theorem tok_gp (x : List UInt8) (k : Nat) (t : List UInt8) (v n : Nat) (h : cut x = .tok k t v n) : gp false x = 0 := by
  cases x with
  | nil => rfl
  | cons a r =>
    by_cases hb : blank a = true
    · rw [cut_blank a r (.inl hb)] at h; cases h
    · by_cases h47 : a = 47
      · rw [cut_blank a r (.inr h47)] at h; cases h
      · have hb' : blank a = false := by simpa using hb
        simp [gp, hb', h47]
/-- Blanks and comments, whatever follows. -/
def Gap (g : List UInt8) : Prop := ∀ r, gp false (g ++ r) = g.length + gp false r
theorem Gap.all {g : List UInt8} (h : Gap g) : gp false g = g.length := by
  have := h []
  rw [List.append_nil] at this
  exact this
theorem Gap.app {a b : List UInt8} (ha : Gap a) (hb : Gap b) : Gap (a ++ b) := fun r => by rw [List.append_assoc, ha, hb, List.length_append]; omega
theorem gap_nil : Gap [] := fun r => by simp
/-- A token behind blanks. -/
theorem step_tok (G x r : List UInt8) (k : Nat) (t : List UInt8) (v : Nat) (hG : Gap G) (h : cut x = .tok k t v x.length) (hk : k ≠ 0) (hr : Sep r) (f off : Nat) (p : Nat × Nat) :
    ∃ o l c off' p', scan (f + 1) (G ++ (x ++ r)) off p = Sc.pre [⟨k, t, v, o, l, c⟩] (scan f r off' p') := by
  have hx := cut_ext x r k t v h hk hr
  have hg : gp false (G ++ (x ++ r)) = G.length := by rw [hG, tok_gp _ _ _ _ _ hx]; omega
  have e := scan_tok f (G ++ (x ++ r)) off p k v x.length t (by rw [hg, List.drop_left]; exact hx)
  rw [if_neg hk, hg, List.drop_left, List.drop_left] at e
  exact ⟨_, _, _, _, _, e⟩
/-- The end behind blanks. -/
theorem step_end (G : List UInt8) (hG : Gap G) (f off : Nat) (p : Nat × Nat) : ∃ o l c, scan (f + 1) G off p = .ok [⟨0, [], 0, o, l, c⟩] := by
  have e := scan_tok f G off p 0 0 0 [] (by rw [hG.all, List.drop_length]; rfl)
  rw [if_pos rfl] at e
  exact ⟨_, _, _, e⟩
/-- The tokens that are to come of a row. -/
def wantL : List TA → List TA
  | [] => [⟨0, [], 0, 0, 0, 0⟩]
  | [t] => if t.kd = 0 then [t.pl] else [t.pl, ⟨0, [], 0, 0, 0, 0⟩]
  | t :: r => t.pl :: wantL r
/-- What Write takes. -/
theorem wr_cut (t : TA) (x : List UInt8) (h : t.wr = some x) : ∃ k v : Nat, t.kd = (k : Int) ∧ t.nm = (v : Int) ∧ cut x = .tok k t.tx v x.length ∧ x = draftL t.kd t.tx t.nm := by
  unfold TA.wr writeR at h
  split at h
  · rename_i hw
    cases h
    unfold wholeB at hw
    cases hC : cut (draftL t.kd t.tx t.nm) with
    | bad e => rw [hC] at hw; cases hw
    | tok k tx v n =>
      rw [hC] at hw
      simp at hw
      obtain ⟨rfl, ⟨h1, h2⟩, h3⟩ := hw
      exact ⟨k, v, h1.symm, h3.symm, by rw [h2], rfl⟩
  · cases h
theorem cut_zero (x : List UInt8) (t : List UInt8) (v n : Nat) (h : cut x = .tok 0 t v n) : x = [] ∧ t = [] ∧ v = 0 := by
  cases x with
  | nil => cases h; exact ⟨rfl, rfl, rfl⟩
  | cons b r =>
    exfalso
    rw [show cut (b :: r) = if isL b then cName (b :: r) else if isD b then cNum (b :: r) else if b = 34 then cQuo (b :: r) else cMark (b :: r) from rfl] at h
    split at h
    · unfold cName at h; split at h <;> cases h
    · split at h
      · unfold cNum at h
        repeat' split at h
        all_goals cases h
      · split at h
        · unfold cQuo at h
          generalize (List.drop (sp inQ (List.drop 1 (b :: r))) (List.drop 1 (b :: r))) = z at h
          cases z with
          | nil => cases h
          | cons a u => rw [cQuoT] at h; split at h <;> cases h
        · have := (cMarkF_in _ _ _ _ _ _ h).1
          cases this
theorem sep_nil : Sep [] := fun c t h => by cases h
theorem sep_blank (r : List UInt8) : Sep (32 :: r) := fun c t h => by cases h; exact ⟨by decide, by decide⟩
theorem gap_blank : Gap [32] := fun r => by show gp false (32 :: r) = _; rw [gp_blank r (by decide)]; simp; omega
/-- What is joined is cut again. -/
theorem back : ∀ (ts : List TA) (xs : List (List UInt8)), joinT ts = some xs → ∀ (G : List UInt8), Gap G → ∀ (f off : Nat) (p : Nat × Nat), ts.length < f → ∃ us, scan f (G ++ Lib.join xs [32]) off p = .ok us ∧ (us.map T.ta).map TA.pl = wantL ts
  | [], xs, h, G, hG, f, off, p, hf => by
    cases h
    obtain ⟨f, rfl⟩ : ∃ x, f = x + 1 := ⟨f - 1, by omega⟩
    obtain ⟨o, l, c, e⟩ := step_end G hG f off p
    refine ⟨_, by rw [show G ++ Lib.join [] [32] = G by simp [Lib.join]]; exact e, rfl⟩
  | [t], xs, h, G, hG, f, off, p, hf => by
    unfold joinT at h
    cases hw : t.wr with
    | none => rw [hw] at h; cases h
    | some x =>
      rw [hw] at h
      simp [joinT] at h
      obtain ⟨rfl⟩ := h
      obtain ⟨k, v, hkd, hnm, hcut, _⟩ := wr_cut t x hw
      have hj : Lib.join [x] [32] = x := by simp [Lib.join, List.intercalate]
      rw [hj]
      obtain ⟨f, rfl⟩ : ∃ y, f = y + 2 := ⟨f - 2, by simp at hf; omega⟩
      by_cases hk : k = 0
      · subst hk
        obtain ⟨rfl, htx, rfl⟩ := cut_zero _ _ _ _ hcut
        obtain ⟨o, l, c, e⟩ := step_end G hG (f + 1) off p
        refine ⟨_, by rw [List.append_nil]; exact e, ?_⟩
        have h0 : t.kd = 0 := hkd
        simp [wantL, h0, T.ta, TA.pl, htx, hnm]
      · obtain ⟨o, l, c, off', p', e⟩ := step_tok G x [] k t.tx v hG hcut hk sep_nil (f + 1) off p
        obtain ⟨o2, l2, c2, e2⟩ := step_end [] gap_nil f off' p'
        rw [List.append_nil] at e
        refine ⟨_, by rw [e, e2]; rfl, ?_⟩
        simp [wantL, hk, T.ta, TA.pl, hkd, hnm]
  | t :: u :: r, xs, h, G, hG, f, off, p, hf => by
    rw [joinT] at h
    cases hw : t.wr with
    | none => rw [hw] at h; cases h
    | some x =>
      rw [hw] at h
      simp only at h
      split at h
      · cases h
      · rename_i hne
        cases hr : joinT (u :: r) with
        | none => rw [hr] at h; cases h
        | some ys =>
          rw [hr] at h
          cases h
          obtain ⟨k, v, hkd, hnm, hcut, _⟩ := wr_cut t x hw
          have hk : k ≠ 0 := fun e => hne ⟨by rw [hkd, e]; rfl, by simp⟩
          have hyl : ys ≠ [] := by
            intro e
            subst e
            rw [joinT] at hr
            cases hwu : u.wr with
            | none => rw [hwu] at hr; cases hr
            | some z =>
              rw [hwu] at hr
              simp only at hr
              split at hr
              · cases hr
              · cases hjr : joinT r with
                | none => rw [hjr] at hr; cases hr
                | some q => rw [hjr] at hr; cases hr
          have hj : Lib.join (x :: ys) [32] = x ++ ([32] ++ Lib.join ys [32]) := by
            cases ys with
            | nil => exact absurd rfl hyl
            | cons y ys => simp [Lib.join, List.intercalate, List.intersperse]
          obtain ⟨f, rfl⟩ : ∃ y, f = y + 1 := ⟨f - 1, by omega⟩
          obtain ⟨o, l, c, off', p', e⟩ := step_tok G x ([32] ++ Lib.join ys [32]) k t.tx v hG hcut hk (sep_blank _) f off p
          obtain ⟨us, e2, h2⟩ := back (u :: r) ys hr [32] gap_blank f off' p' (by simp at hf ⊢; omega)
          refine ⟨⟨k, t.tx, v, o, l, c⟩ :: us, by rw [hj, e, e2]; rfl, ?_⟩
          rw [List.map_cons, List.map_cons, h2]
          simp [wantL, T.ta, TA.pl, hkd, hnm]
/-- How many rounds are granted turns nothing, if they are enough. -/
theorem scan_fuel : ∀ (f f' : Nat) (l : List UInt8) (off : Nat) (p : Nat × Nat), l.length < f → l.length < f' → scan f l off p = scan f' l off p
  | 0, f', l, off, p, h, _ => by omega
  | f + 1, 0, l, off, p, _, h => by omega
  | f + 1, f' + 1, l, off, p, h, h' => by
    have hg := gp_le false l
    cases hC : cut (l.drop (gp false l)) with
    | bad e => rw [scan_bad _ _ _ _ e hC, scan_bad _ _ _ _ e hC]
    | tok k t v n =>
      rw [scan_tok _ _ _ _ k v n t hC, scan_tok _ _ _ _ k v n t hC]
      by_cases hk : k = 0
      · rw [if_pos hk, if_pos hk]
      · obtain ⟨hnl, hn1⟩ := cut_len _ _ _ _ _ hC
        have hn1 := hn1 hk
        rw [List.length_drop] at hnl
        rw [if_neg hk, if_neg hk, scan_fuel f f' _ _ _ (by rw [List.length_drop, List.length_drop]; omega) (by rw [List.length_drop, List.length_drop]; omega)]
theorem scanAll_eq (l : List UInt8) (f : Nat) (h : l.length < f) : scanAll l = scan f l 0 (1, 1) := scan_fuel _ _ l 0 (1, 1) (by omega) h
def endT : TA := ⟨0, [], 0, 0, 0, 0⟩
theorem wantL_last : ∀ (ts : List TA) (t : TA), ts.getLast? = some t → wantL ts = if t.kd = 0 then ts.map TA.pl else ts.map TA.pl ++ [endT]
  | [], t, h => by simp at h
  | [a], t, h => by
    simp at h
    subst h
    rw [wantL]
    split <;> rfl
  | a :: b :: r, t, h => by
    have ih := wantL_last (b :: r) t (by simpa using h)
    rw [wantL, ih]
    · split <;> simp
    · simp
theorem wantL_nil : wantL [] = ([] : List TA).map TA.pl ++ [endT] := rfl
/-- What Scan answers of what Join wrote. -/
theorem back_all (ts : List TA) (xs : List (List UInt8)) (h : joinT ts = some xs) : ∃ us, scanAll (Lib.join xs [32]) = .ok us ∧ (us.map T.ta).map TA.pl = wantL ts := by
  obtain ⟨us, h1, h2⟩ := back ts xs h [] gap_nil ((Lib.join xs [32]).length + ts.length + 2) 0 (1, 1) (by omega)
  rw [List.nil_append] at h1
  exact ⟨us, by rw [scanAll_eq _ ((Lib.join xs [32]).length + ts.length + 2) (by omega)]; exact h1, h2⟩
end Go.Proofs.YtinbbcojilogeaaDoor.Tok
