import Derived.Test.YtnghfdnlcnocjaaGreatDoorEc7f0558e
namespace Go.Proofs.YtnghfdnlcnocjaaGreatDoor.Tok
theorem sp_take (p : UInt8 -> Bool) : ∀ (l : List UInt8) (m : Nat), sp p (l.take m) = min (sp p l) m
  | [], m => by simp [sp]
  | a :: r, 0 => by simp [sp]
  | a :: r, m + 1 => by
    rw [List.take_succ_cons]
    by_cases hp : p a = true
    . rw [sp_cons_true _ hp, sp_cons_true _ hp, sp_take p r m]; omega
    . rw [sp_cons_false _ (by simpa using hp), sp_cons_false _ (by simpa using hp)]; omega
theorem frac_take (l : List UInt8) (m : Nat) (h : frac l <= m) : frac (l.take m) = frac l := by
  cases l with
  | nil => simp
  | cons a r =>
    cases m with
    | zero =>
      have : frac (a :: r) = 0 := by omega
      rw [this]; rfl
    | succ m =>
      rw [List.take_succ_cons, frac, frac]
      by_cases ha : a = 46
      . rw [if_pos ha, if_pos ha, sp_take]
        rw [frac, if_pos ha] at h
        by_cases h0 : sp isD r = 0
        . rw [if_pos h0, if_pos (by omega)]
        . rw [if_neg h0] at h
          rw [if_neg h0, if_neg (by omega)]
          omega
      . rw [if_neg ha, if_neg ha]
theorem cMarkF_take (l : List UInt8) (m : Nat) : ∀ (ms : List (List UInt8)) k t v n, cMarkF l ms = .tok k t v n -> n <= m -> (∀ x ∈ ms, x.isPrefixOf (l.take m) = true -> x.isPrefixOf l = true) /\ True -> cMarkF (l.take m) ms = .tok k t v n
  | [], k, t, v, n, h, _, _ => by simp [cMarkF] at h
  | x :: r, k, t, v, n, h, hm, hx => by
    unfold cMarkF at h ⊢
    by_cases hp : x.isPrefixOf l = true
    . rw [if_pos hp] at h
      cases h
      rw [if_pos]
      obtain ⟨y, rfl⟩ := List.isPrefixOf_iff_prefix.1 hp
      rw [List.isPrefixOf_iff_prefix, List.take_append, List.take_of_length_le hm]
      exact List.prefix_append _ _
    . rw [if_neg hp] at h
      rw [if_neg (fun e => hp (hx.1 x (by simp) e))]
      exact cMarkF_take l m r k t v n h hm ⟨fun y hy => hx.1 y (by simp [hy]), trivial⟩
theorem pre_take (x l : List UInt8) (m : Nat) (h : x.isPrefixOf (l.take m) = true) : x.isPrefixOf l = true :=
  List.isPrefixOf_iff_prefix.2 ((List.isPrefixOf_iff_prefix.1 h).trans (List.take_prefix m l))
theorem cut_take (l : List UInt8) (m k : Nat) (t : List UInt8) (v n : Nat) (h : cut l = .tok k t v n) (hk : k ≠ 0) (hm : n <= m) : cut (l.take m) = .tok k t v n := by
  obtain ⟨hnl, hn1⟩ := cut_len l k t v n h
  have hn1 := hn1 hk
  cases l with
  | nil => cases h; exact absurd rfl hk
  | cons b r =>
    obtain ⟨m', rfl⟩ : ∃ m', m = m' + 1 := ⟨m - 1, by omega⟩
    have ht : (b :: r).take (m' + 1) = b :: r.take m' := List.take_succ_cons
    have hc : ∀ r : List UInt8, cut (b :: r) = if isL b then cName (b :: r) else if isD b then cNum (b :: r) else if b = 34 then cQuo (b :: r) else cMark (b :: r) := fun _ => rfl
    rw [hc] at h
    rw [ht, hc, ← ht]
    by_cases hL : isL b = true
    . rw [if_pos hL] at h ⊢
      unfold cName at h ⊢
      split at h
      . cases h
      . rename_i h32
        cases h
        rw [sp_take, Nat.min_eq_left hm, if_neg h32, List.take_take, Nat.min_eq_left hm]
    . rw [if_neg hL] at h ⊢
      by_cases hD : isD b = true
      . rw [if_pos hD] at h ⊢
        have h2 := sp_le isD (b :: r)
        unfold cNum at h ⊢
        have hd : ∀ j, ((b :: r).take (m' + 1)).drop j = ((b :: r).drop j).take (m' + 1 - j) := fun j => List.drop_take
        have hh : ((b :: r).take (m' + 1)).head? = (b :: r).head? := rfl
        rw [hh]
        split at h
        . cases h
        . rename_i hbad
          split at h
          . rename_i hf
            cases h
            have e1 : sp isD ((b :: r).take (m' + 1)) = sp isD (b :: r) := by rw [sp_take]; omega
            have e2 : frac (((b :: r).take (m' + 1)).drop (sp isD (b :: r))) = frac ((b :: r).drop (sp isD (b :: r))) := by rw [hd]; exact frac_take _ _ (by omega)
            rw [e1, e2, hd, sp_take, if_neg (by rintro (h | h); exact hbad (.inl h); exact hbad (.inr (by omega))), if_pos hf, List.take_take, Nat.min_eq_left hm]
          . rename_i hf
            split at h
            . cases h
            . rename_i hv
              cases h
              have e1 : sp isD ((b :: r).take (m' + 1)) = sp isD (b :: r) := by rw [sp_take]; omega
              have e2 : frac (((b :: r).take (m' + 1)).drop (sp isD (b :: r))) = frac ((b :: r).drop (sp isD (b :: r))) := by rw [hd]; exact frac_take _ _ (by omega)
              rw [e1, e2, hd, sp_take, if_neg (by rintro (h | h); exact hbad (.inl h); exact hbad (.inr (by omega))), if_neg hf, List.take_take, Nat.min_eq_left hm, if_neg hv]
      . rw [if_neg hD] at h ⊢
        by_cases hq : b = 34
        . rw [if_pos hq] at h ⊢
          unfold cQuo at h ⊢
          rw [ht]
          simp only [List.drop_succ_cons, List.drop_zero] at h ⊢
          cases hx : r.drop (sp inQ r) with
          | nil => rw [hx] at h; cases h
          | cons a u =>
            rw [hx, cQuoT] at h
            split at h
            . rename_i ha
              cases h
              rw [sp_take, Nat.min_eq_left (by omega), List.drop_take, hx, show m' - sp inQ r = (m' - sp inQ r - 1) + 1 by omega, List.take_succ_cons, cQuoT, if_pos ha, List.take_take, Nat.min_eq_left (by omega)]
            . cases h
        . rw [if_neg hq] at h ⊢
          exact cMarkF_take _ _ _ _ _ _ _ h hm ⟨fun x _ hx => pre_take x _ _ hx, trivial⟩
end Go.Proofs.YtnghfdnlcnocjaaGreatDoor.Tok
