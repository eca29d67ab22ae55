/- What follows of the pure scan: the spot of a fault, and what stands ahead of it. No program is named. -/
import Derived.Test.YtinbbcojilogeaaDoorKi
namespace Go.Proofs.YtinbbcojilogeaaDoor.Tok

theorem gp_last : ∀ (b : Bool) (l : List UInt8), gp b l < l.length → (gp b l = 0 ∧ b = false) ∨ blank (l.getD (gp b l - 1) 0) = true
  | b, [], h => by simp at h
  | true, a :: r, h => by
    rw [gp_true] at h ⊢
    by_cases h10 : a.toNat = 10
    · rw [if_pos h10] at h ⊢
      simp only [Nat.add_sub_cancel]
      rcases gp_last false r (by simp at h; omega) with ⟨h0, _⟩ | h1
      · right
        rw [h0]
        simp [blank, h10]
      · right
        cases hg : gp false r with
        | zero => simp [blank, h10]
        | succ n => rw [hg] at h1; simpa using h1
    · rw [if_neg h10] at h ⊢
      simp only [Nat.add_sub_cancel]
      rcases gp_last true r (by simp at h; omega) with ⟨_, h0⟩ | h1
      · cases h0
      · right
        cases hg : gp true r with
        | zero =>
          cases r with
          | nil => simp [gp] at h
          | cons c t => rw [gp_true] at hg; split at hg <;> omega
        | succ n => rw [hg] at h1; simpa using h1
  | false, a :: r, h => by
    cases hb : blank a with
    | true =>
      rw [gp_blank r hb] at h ⊢
      simp only [Nat.add_sub_cancel]
      right
      rcases gp_last false r (by simp at h; omega) with ⟨h0, _⟩ | h1
      · rw [h0]; simpa using hb
      · cases hg : gp false r with
        | zero => simpa using hb
        | succ n => rw [hg] at h1; simpa using h1
    | false =>
      have e : gp false (a :: r) = if a = 47 ∧ r.head? = some 47 then gp true r + 1 else 0 := by simp [gp, hb]
      rw [e] at h ⊢
      split at h
      · rename_i hc
        rw [if_pos hc]
        simp only [Nat.add_sub_cancel]
        right
        rcases gp_last true r (by simp at h; omega) with ⟨_, h0⟩ | h1
        · cases h0
        · cases hg : gp true r with
          | zero =>
            cases r with
            | nil => simp at hc
            | cons c t => rw [gp_true] at hg; split at hg <;> omega
          | succ n => rw [hg] at h1; simpa using h1
      · rename_i hc
        rw [if_neg hc]
        exact .inl ⟨rfl, rfl⟩
theorem blank_low (b : UInt8) (h : blank b = true) : b.toNat < 128 := by
  simp [blank] at h
  omega
theorem inW_low (b : UInt8) (h : inW b = true) : b.toNat < 128 := by
  simp [inW, isL, isD] at h
  omega
theorem isD_low (b : UInt8) (h : isD b = true) : b.toNat < 128 := by
  simp [isD] at h
  omega
theorem sp_getD (p : UInt8 → Bool) : ∀ (l : List UInt8) (i : Nat), i < sp p l → p (l.getD i 0) = true
  | [], i, h => by simp [sp] at h
  | a :: r, i, h => by
    by_cases hp : p a = true
    · rw [sp_cons_true r hp] at h
      cases i with
      | zero => simpa using hp
      | succ i => simpa using sp_getD p r i (by omega)
    · rw [sp_cons_false r (by simpa using hp)] at h; omega
theorem frac_last (l : List UInt8) (h : 0 < frac l) : isD (l.getD (frac l - 1) 0) = true := by
  cases l with
  | nil => simp [frac] at h
  | cons a r =>
    rw [frac] at h ⊢
    by_cases ha : a = 46
    · rw [if_pos ha] at h ⊢
      by_cases h0 : sp isD r = 0
      · rw [if_pos h0] at h; omega
      · rw [if_neg h0]
        obtain ⟨n, hn⟩ : ∃ n, sp isD r = n + 1 := ⟨sp isD r - 1, by omega⟩
        rw [hn, show 1 + (n + 1) - 1 = n + 1 by omega]
        simpa using sp_getD isD r n (by omega)
    · rw [if_neg ha] at h; omega
theorem cMarkF_last (l : List UInt8) : ∀ (ms : List (List UInt8)), (∀ m ∈ ms, 1 ≤ m.length ∧ ∀ b ∈ m, b.toNat < 128) → ∀ k t v n, cMarkF l ms = .tok k t v n → (l.getD (n - 1) 0).toNat < 128
  | [], _, k, t, v, n, h => by simp [cMarkF] at h
  | m :: r, hm, k, t, v, n, h => by
    unfold cMarkF at h
    split at h
    · rename_i hp
      cases h
      obtain ⟨x, rfl⟩ := List.isPrefixOf_iff_prefix.1 hp
      have h1 := hm m (by simp)
      rw [List.getD_eq_getElem?_getD, List.getElem?_append_left (by omega), List.getElem?_eq_getElem (by omega)]
      exact h1.2 _ (List.getElem_mem _)
    · exact cMarkF_last l r (fun x hx => hm x (by simp [hx])) k t v n h
/-- A token's last byte is one of ASCII's. -/
theorem cut_last (l : List UInt8) (k : Nat) (t : List UInt8) (v n : Nat) (h : cut l = .tok k t v n) (hk : k ≠ 0) : (l.getD (n - 1) 0).toNat < 128 := by
  obtain ⟨hnl, hn1⟩ := cut_len l k t v n h
  have hn1 := hn1 hk
  cases l with
  | nil => cases h; exact absurd rfl hk
  | cons b r =>
    rw [show cut (b :: r) = if isL b then cName (b :: r) else if isD b then cNum (b :: r) else if b = 34 then cQuo (b :: r) else cMark (b :: r) from rfl] at h
    split at h
    · unfold cName at h
      split at h
      · cases h
      · cases h
        exact inW_low _ (sp_getD inW _ _ (by omega))
    · split at h
      · rename_i hD
        have h1 : 1 ≤ sp isD (b :: r) := by rw [sp_cons_true r hD]; omega
        unfold cNum at h
        split at h
        · cases h
        · split at h
          · rename_i hf
            cases h
            have := frac_last _ hf
            rw [List.getD_eq_getElem?_getD, List.getElem?_drop, ← List.getD_eq_getElem?_getD] at this
            rw [show sp isD (b :: r) + frac ((b :: r).drop (sp isD (b :: r))) - 1 = sp isD (b :: r) + (frac ((b :: r).drop (sp isD (b :: r))) - 1) by omega]
            exact isD_low _ this
          · split at h
            · cases h
            · cases h
              exact isD_low _ (sp_getD isD _ _ (by omega))
      · split at h
        · unfold cQuo at h
          rw [List.drop_succ_cons, List.drop_zero] at h
          cases hx : r.drop (sp inQ r) with
          | nil => rw [hx] at h; cases h
          | cons a t =>
            rw [hx, cQuoT] at h
            split at h
            · rename_i ha
              cases h
              have e : (b :: r).getD (sp inQ r + 2 - 1) 0 = a := by
                rw [show sp inQ r + 2 - 1 = sp inQ r + 1 by omega]
                have h2 := congrArg (fun z => z[0]?) hx
                simp only [List.getElem?_drop, Nat.add_zero, List.getElem?_cons_zero] at h2
                simp [List.getD_eq_getElem?_getD, h2]
              rw [e, ha]
              decide
            · cases h
        · exact cMarkF_last _ marks (by decide) _ _ _ _ h
/-- A rune begins at off. -/
def Bd (l : List UInt8) (off : Nat) : Prop := off = 0 ∨ (l.getD (off - 1) 0).toNat < 128
theorem spot_add (l : List UInt8) (off g : Nat) (ho : off ≤ l.length) (hb : Bd l off) : spotAt l (off + g) = adv 0 g (l.drop off) (spotAt l off) := adv_add off off g l (1, 1) (Nat.le_refl _) ho hb
theorem bd_drop (l : List UInt8) (off n : Nat) (h1 : 1 ≤ n) (h : ((l.drop off).getD (n - 1) 0).toNat < 128) : Bd l (off + n) := by
  right
  rw [List.getD_eq_getElem?_getD, List.getElem?_drop, ← List.getD_eq_getElem?_getD, show off + (n - 1) = off + n - 1 by omega] at h
  exact h
theorem gap_bd (l : List UInt8) (off : Nat) (hb : Bd l off) (hg : gp false (l.drop off) < (l.drop off).length) : Bd l (off + gp false (l.drop off)) := by
  rcases gp_last false _ hg with ⟨h0, _⟩ | h1
  · rw [h0]; exact hb
  · by_cases h0 : gp false (l.drop off) = 0
    · rw [h0]; exact hb
    · exact bd_drop l off _ (by omega) (blank_low _ h1)
/-- What a fault says of the text. -/
theorem fault_spot (l : List UInt8) : ∀ (f off : Nat) (p : Nat × Nat) (F : Flt), off ≤ l.length → Bd l off → p = spotAt l off → scan f (l.drop off) off p = .bad F → F.off ≤ l.length ∧ spotAt l F.off = (F.line, F.col) ∧ F.code ≠ 0
  | 0, off, p, F, _, _, _, h => by simp [scan] at h
  | f + 1, off, p, F, ho, hb, hp, h => by
    have hg := gp_le false (l.drop off)
    rw [List.length_drop] at hg
    have hs1 : spotAt l (off + gp false (l.drop off)) = adv 0 (gp false (l.drop off)) (l.drop off) p := by rw [hp]; exact spot_add l off _ ho hb
    cases hC : cut ((l.drop off).drop (gp false (l.drop off))) with
    | bad e =>
      rw [scan_bad _ _ _ _ e hC] at h
      cases h
      refine ⟨by simp only; omega, ?_, ?_⟩
      · simp only
        rw [hs1]
      · intro e0
        exact cut_bad_ne _ (by rw [hC]; exact congrArg Cut.bad e0)
    | tok k t v n =>
      rw [scan_tok _ _ _ _ k v n t hC] at h
      split at h
      · cases h
      · rename_i hk
        obtain ⟨hnl, hn1⟩ := cut_len _ _ _ _ _ hC
        have hn1 := hn1 hk
        have hla := cut_last _ _ _ _ _ hC hk
        rw [List.length_drop, List.length_drop] at hnl
        rw [List.drop_drop] at hla
        have hb1 : Bd l (off + gp false (l.drop off)) := gap_bd l off hb (by rw [List.length_drop]; omega)
        have hs2 := spot_add l (off + gp false (l.drop off)) n (by omega) hb1
        rw [hs1] at hs2
        have hdd : ∀ g, (l.drop off).drop g = l.drop (off + g) := fun g => List.drop_drop
        have hdd2 : ∀ g, (l.drop g).drop n = l.drop (g + n) := fun g => List.drop_drop
        rw [hdd, hdd2] at h
        cases hr : scan f (l.drop (off + gp false (l.drop off) + n)) (off + gp false (l.drop off) + n) (adv 0 n (l.drop (off + gp false (l.drop off))) (adv 0 (gp false (l.drop off)) (l.drop off) p)) with
        | ok ts => rw [hr] at h; cases h
        | bad F' =>
          rw [hr] at h
          cases h
          exact fault_spot l f _ _ F (by omega) (bd_drop l _ n hn1 hla) hs2.symm hr

/-! What stands ahead of a fault -/
theorem gp_take : ∀ (b : Bool) (l : List UInt8) (m : Nat), gp b l ≤ m → gp b (l.take m) = gp b l
  | b, [], m, _ => by simp
  | true, a :: r, m, h => by
    rw [gp_true] at h
    cases m with
    | zero => split at h <;> omega
    | succ m =>
      rw [List.take_succ_cons, gp_true, gp_true]
      split at h
      · rename_i h10
        rw [if_pos h10, if_pos h10, gp_take false r m (by omega)]
      · rename_i h10
        rw [if_neg h10, if_neg h10, gp_take true r m (by omega)]
  | false, a :: r, m, h => by
    cases hb : blank a with
    | true =>
      rw [gp_blank r hb] at h
      cases m with
      | zero => omega
      | succ m => rw [List.take_succ_cons, gp_blank _ hb, gp_blank _ hb, gp_take false r m (by omega)]
    | false =>
      have e : ∀ r : List UInt8, gp false (a :: r) = if a = 47 ∧ r.head? = some 47 then gp true r + 1 else 0 := fun r => by simp [gp, hb]
      cases m with
      | zero =>
        rw [List.take_zero]
        have : gp false (a :: r) = 0 := by omega
        rw [this]
        rfl
      | succ m =>
        rw [List.take_succ_cons, e, e]
        rw [e] at h
        by_cases hc : a = 47 ∧ r.head? = some 47
        · rw [if_pos hc] at h
          have hr1 : 1 ≤ gp true r := by
            cases r with
            | nil => simp at hc
            | cons c t => rw [gp_true]; split <;> omega
          have hh : (r.take m).head? = r.head? := by
            cases m with
            | zero => omega
            | succ m => cases r <;> rfl
          rw [if_pos hc, if_pos ⟨hc.1, by rw [hh]; exact hc.2⟩, gp_take true r m (by omega)]
        · rw [if_neg hc]
          by_cases hm : m = 0
          · subst hm; rw [if_neg]; simp
          · have hh : (r.take m).head? = r.head? := by
              cases m with
              | zero => exact absurd rfl hm
              | succ m => cases r <;> rfl
            rw [if_neg (by rw [hh]; exact hc)]
theorem sp_take (p : UInt8 → Bool) : ∀ (l : List UInt8) (m : Nat), sp p (l.take m) = min (sp p l) m
  | [], m => by simp [sp]
  | a :: r, 0 => by simp [sp]
  | a :: r, m + 1 => by
    rw [List.take_succ_cons]
    by_cases hp : p a = true
    · rw [sp_cons_true _ hp, sp_cons_true _ hp, sp_take p r m]; omega
    · rw [sp_cons_false _ (by simpa using hp), sp_cons_false _ (by simpa using hp)]; omega
theorem frac_take (l : List UInt8) (m : Nat) (h : frac l ≤ m) : frac (l.take m) = frac l := by
  cases l with
  | nil => simp
  | cons a r =>
    cases m with
    | zero =>
      have : frac (a :: r) = 0 := by omega
      rw [this]; rfl
    | succ m =>
      rw [List.take_succ_cons, frac, frac]
      by_cases ha : a = 46
      · rw [if_pos ha, if_pos ha, sp_take]
        rw [frac, if_pos ha] at h
        by_cases h0 : sp isD r = 0
        · rw [if_pos h0, if_pos (by omega)]
        · rw [if_neg h0] at h
          rw [if_neg h0, if_neg (by omega)]
          omega
      · rw [if_neg ha, if_neg ha]
theorem cMarkF_take (l : List UInt8) (m : Nat) : ∀ (ms : List (List UInt8)) k t v n, cMarkF l ms = .tok k t v n → n ≤ m → (∀ x ∈ ms, x.isPrefixOf (l.take m) = true → x.isPrefixOf l = true) ∧ True → cMarkF (l.take m) ms = .tok k t v n
  | [], k, t, v, n, h, _, _ => by simp [cMarkF] at h
  | x :: r, k, t, v, n, h, hm, hx => by
    unfold cMarkF at h ⊢
    by_cases hp : x.isPrefixOf l = true
    · rw [if_pos hp] at h
      cases h
      rw [if_pos]
      obtain ⟨y, rfl⟩ := List.isPrefixOf_iff_prefix.1 hp
      rw [List.isPrefixOf_iff_prefix, List.take_append, List.take_of_length_le hm]
      exact List.prefix_append _ _
    · rw [if_neg hp] at h
      rw [if_neg (fun e => hp (hx.1 x (by simp) e))]
      exact cMarkF_take l m r k t v n h hm ⟨fun y hy => hx.1 y (by simp [hy]), trivial⟩
theorem pre_take (x l : List UInt8) (m : Nat) (h : x.isPrefixOf (l.take m) = true) : x.isPrefixOf l = true :=
  List.isPrefixOf_iff_prefix.2 ((List.isPrefixOf_iff_prefix.1 h).trans (List.take_prefix m l))
/-- A token is cut as well where the text ends behind it. -/
theorem cut_take (l : List UInt8) (m k : Nat) (t : List UInt8) (v n : Nat) (h : cut l = .tok k t v n) (hk : k ≠ 0) (hm : n ≤ m) : cut (l.take m) = .tok k t v n := by
  obtain ⟨hnl, hn1⟩ := cut_len l k t v n h
  have hn1 := hn1 hk
  cases l with
  | nil => cases h; exact absurd rfl hk
  | cons b r =>
    obtain ⟨m', rfl⟩ : ∃ m', m = m' + 1 := ⟨m - 1, by omega⟩
    have ht : (b :: r).take (m' + 1) = b :: r.take m' := List.take_succ_cons
    have hc : ∀ r : List UInt8, cut (b :: r) = if isL b then cName (b :: r) else if isD b then cNum (b :: r) else if b = 34 then cQuo (b :: r) else cMark (b :: r) := fun _ => rfl
    rw [hc] at h
    rw [ht, hc, ← ht]
    by_cases hL : isL b = true
    · rw [if_pos hL] at h ⊢
      unfold cName at h ⊢
      split at h
      · cases h
      · rename_i h32
        cases h
        rw [sp_take, Nat.min_eq_left hm, if_neg h32, List.take_take, Nat.min_eq_left hm]
    · rw [if_neg hL] at h ⊢
      by_cases hD : isD b = true
      · rw [if_pos hD] at h ⊢
        have h2 := sp_le isD (b :: r)
        unfold cNum at h ⊢
        have hd : ∀ j, ((b :: r).take (m' + 1)).drop j = ((b :: r).drop j).take (m' + 1 - j) := fun j => List.drop_take
        have hh : ((b :: r).take (m' + 1)).head? = (b :: r).head? := rfl
        rw [hh]
        split at h
        · cases h
        · rename_i hbad
          split at h
          · rename_i hf
            cases h
            have e1 : sp isD ((b :: r).take (m' + 1)) = sp isD (b :: r) := by rw [sp_take]; omega
            have e2 : frac (((b :: r).take (m' + 1)).drop (sp isD (b :: r))) = frac ((b :: r).drop (sp isD (b :: r))) := by rw [hd]; exact frac_take _ _ (by omega)
            rw [e1, e2, hd, sp_take, if_neg (by rintro (h | h); exact hbad (.inl h); exact hbad (.inr (by omega))), if_pos hf, List.take_take, Nat.min_eq_left hm]
          · rename_i hf
            split at h
            · cases h
            · rename_i hv
              cases h
              have e1 : sp isD ((b :: r).take (m' + 1)) = sp isD (b :: r) := by rw [sp_take]; omega
              have e2 : frac (((b :: r).take (m' + 1)).drop (sp isD (b :: r))) = frac ((b :: r).drop (sp isD (b :: r))) := by rw [hd]; exact frac_take _ _ (by omega)
              rw [e1, e2, hd, sp_take, if_neg (by rintro (h | h); exact hbad (.inl h); exact hbad (.inr (by omega))), if_neg hf, List.take_take, Nat.min_eq_left hm, if_neg hv]
      · rw [if_neg hD] at h ⊢
        by_cases hq : b = 34
        · rw [if_pos hq] at h ⊢
          unfold cQuo at h ⊢
          rw [ht]
          simp only [List.drop_succ_cons, List.drop_zero] at h ⊢
          cases hx : r.drop (sp inQ r) with
          | nil => rw [hx] at h; cases h
          | cons a u =>
            rw [hx, cQuoT] at h
            split at h
            · rename_i ha
              cases h
              rw [sp_take, Nat.min_eq_left (by omega), List.drop_take, hx, show m' - sp inQ r = (m' - sp inQ r - 1) + 1 by omega, List.take_succ_cons, cQuoT, if_pos ha, List.take_take, Nat.min_eq_left (by omega)]
            · cases h
        · rw [if_neg hq] at h ⊢
          exact cMarkF_take _ _ _ _ _ _ _ h hm ⟨fun x _ hx => pre_take x _ _ hx, trivial⟩
/-- What stands ahead of a fault is a text without one. -/
theorem ahead : ∀ (f : Nat) (r : List UInt8) (off : Nat) (p : Nat × Nat) (F : Flt), scan f r off p = .bad F → off ≤ F.off ∧ F.off - off ≤ r.length ∧ ∀ f' p', F.off - off < f' → ∃ ts, scan f' (r.take (F.off - off)) off p' = .ok ts
  | 0, r, off, p, F, h => by simp [scan] at h
  | f + 1, r, off, p, F, h => by
    have hg := gp_le false r
    cases hC : cut (r.drop (gp false r)) with
    | bad e =>
      rw [scan_bad _ _ _ _ e hC] at h
      cases h
      simp only
      rw [show off + gp false r - off = gp false r by omega]
      refine ⟨by omega, hg, fun f' p' hf => ?_⟩
      obtain ⟨f', rfl⟩ : ∃ x, f' = x + 1 := ⟨f' - 1, by omega⟩
      have e1 : gp false (r.take (gp false r)) = gp false r := gp_take false r _ (Nat.le_refl _)
      rw [scan_tok f' _ _ _ 0 0 0 [] (by rw [e1, List.drop_of_length_le (by rw [List.length_take]; omega)]; rfl), if_pos rfl]
      exact ⟨_, rfl⟩
    | tok k t v n =>
      rw [scan_tok _ _ _ _ k v n t hC] at h
      split at h
      · cases h
      · rename_i hk
        obtain ⟨hnl, hn1⟩ := cut_len _ _ _ _ _ hC
        have hn1 := hn1 hk
        rw [List.length_drop] at hnl
        cases hr : scan f ((r.drop (gp false r)).drop n) (off + gp false r + n) (adv 0 n (r.drop (gp false r)) (adv 0 (gp false r) r p)) with
        | ok ts => rw [hr] at h; cases h
        | bad F' =>
          rw [hr] at h
          cases h
          obtain ⟨i1, i2, i3⟩ := ahead f _ _ _ F hr
          rw [List.length_drop, List.length_drop] at i2
          refine ⟨by omega, by omega, fun f' p' hf => ?_⟩
          obtain ⟨f', rfl⟩ : ∃ x, f' = x + 1 := ⟨f' - 1, by omega⟩
          have e1 : gp false (r.take (F.off - off)) = gp false r := gp_take false r _ (by omega)
          have e2 : cut ((r.take (F.off - off)).drop (gp false r)) = .tok k t v n := by
            rw [List.drop_take]
            exact cut_take _ _ _ _ _ _ hC hk (by omega)
          rw [scan_tok f' _ _ _ k v n t (by rw [e1]; exact e2), if_neg hk, e1, List.drop_take, List.drop_take]
          obtain ⟨ts, hts⟩ := i3 f' (adv 0 n ((r.drop (gp false r)).take (F.off - off - gp false r)) (adv 0 (gp false r) (r.take (F.off - off)) p')) (by omega)
          rw [show F.off - (off + gp false r + n) = F.off - off - gp false r - n by omega] at hts
          rw [hts]
          exact ⟨_, rfl⟩
end Go.Proofs.YtinbbcojilogeaaDoor.Tok
