/- What follows for Whole: any order, the other sign, a pair put in: plain facts. -/
import Derived.Test.YtnpdfkcjjedamaaGreatDoorYd
namespace Go.Proofs.YtnpdfkcjjedamaaGreatDoor.Sca
open Go.RowKit Go.Lib Go.Shelf

theorem any_perm {l l' : List Nat} (h : l.Perm l') (p : Nat → Bool) : l.any p = l'.any p := by
  rw [Bool.eq_iff_iff, List.any_eq_true, List.any_eq_true]
  exact ⟨fun ⟨x, hx, hp⟩ => ⟨x, h.mem_iff.1 hx, hp⟩, fun ⟨x, hx, hp⟩ => ⟨x, h.mem_iff.2 hx, hp⟩⟩
theorem es_perm {l l' : List Nat} (h : l.Perm l') : es l = es l' := by
  unfold es
  rw [any_perm h, any_perm h, any_perm h]
theorem ng0_perm {l l' : List Nat} (h : l.Perm l') : ng0 l = ng0 l' := by
  unfold ng0
  rw [Bool.eq_iff_iff, List.all_eq_true, List.all_eq_true]
  exact ⟨fun k x hx => k x (h.mem_iff.2 hx), fun k x hx => k x (h.mem_iff.1 hx)⟩
theorem tsum_cons (x : Nat) (l : List Nat) : tsum (x :: l) = tm x + tsum l := rfl
theorem tsum_perm {l l' : List Nat} (h : l.Perm l') : tsum l = tsum l' := by
  induction h with
  | nil => rfl
  | cons x _ ih => rw [tsum_cons, tsum_cons, ih]
  | swap x y l => rw [tsum_cons, tsum_cons, tsum_cons, tsum_cons]; omega
  | trans _ _ ih1 ih2 => exact ih1.trans ih2
theorem wholeC_perm {l l' : List Nat} (h : l.Perm l') : wholeC l = wholeC l' := by
  unfold wholeC sgB
  rw [es_perm h, ng0_perm h, tsum_perm h, h.length_eq]
theorem tsum_app (l r : List Nat) : tsum (l ++ r) = tsum l + tsum r := by
  induction l with
  | nil => simp [tsum]
  | cons x l ih => rw [List.cons_append, tsum_cons, tsum_cons, ih]; omega
/-- A nought's sign struck off; the other sign, of what Whole answers. -/
def pC (c : Nat) : Nat := if mg c = 0 then 0 else c
def nC (c : Nat) : Nat := if c = 9221120237041090561 then c else negB c
theorem can_plus (b : Nat) : can (plusB b) = pC (can b) := by
  by_cases h : 9218868437227405312 < mg b
  · have hp : plusB b = b := by unfold plusB; rw [if_neg (by omega)]
    rw [hp, can_nan b h]
    decide +kernel
  · have h1 : can b = b := can_num b h
    rw [h1]
    unfold pC plusB
    by_cases h0 : mg b = 0
    · rw [if_pos h0]
      decide +kernel
    · rw [if_neg h0, h1]
theorem can_neg (b : Nat) (hb : b < 18446744073709551616) : can (negB b) = nC (can b) := by
  have hm := mg_neg hb
  unfold nC
  by_cases h : 9218868437227405312 < mg b
  · rw [can_nan b h, if_pos rfl, can_nan _ (by rw [hm]; exact h)]
  · have h1 : can b = b := can_num b h
    rw [h1, if_neg (fun e => h (by rw [e]; decide +kernel)), can_num _ (by rw [hm]; exact h)]
theorem any_map {f : Nat → Nat} {p q : Nat → Bool} : ∀ l : List Nat, (∀ x ∈ l, p (f x) = q x) → (l.map f).any p = l.any q
  | [], _ => rfl
  | x :: l, h => by rw [List.map_cons, List.any_cons, List.any_cons, h x (by simp), any_map l (fun y hy => h y (by simp [hy]))]
theorem es_neg (l : List Nat) (h : ∀ x ∈ l, x < 18446744073709551616) : es (l.map negB) = if es l = 1 then 2 else if es l = 2 then 1 else es l := by
  have h1 : (l.map negB).any nanB = l.any nanB := any_map l (fun x hx => by unfold nanB; rw [mg_neg (h x hx)])
  have hs : ∀ x, x < 18446744073709551616 → (negB x < 9223372036854775808 ↔ ¬ x < 9223372036854775808) := fun x hx => by unfold negB; split <;> omega
  have h2 : (l.map negB).any pinf = l.any minf := any_map l (fun x hx => by
    unfold pinf minf
    rw [mg_neg (h x hx), Bool.eq_iff_iff, decide_eq_true_iff, decide_eq_true_iff, hs x (h x hx)])
  have h3 : (l.map negB).any minf = l.any pinf := any_map l (fun x hx => by
    unfold pinf minf
    rw [mg_neg (h x hx), Bool.eq_iff_iff, decide_eq_true_iff, decide_eq_true_iff, hs x (h x hx), Decidable.not_not])
  unfold es
  rw [h1, h2, h3]
  generalize l.any nanB = A
  generalize l.any pinf = B
  generalize l.any minf = C
  cases A <;> cases B <;> cases C <;> rfl
theorem tsum_neg : ∀ (l : List Nat), (∀ x ∈ l, x < 18446744073709551616) → tsum (l.map negB) = - tsum l
  | [], _ => rfl
  | x :: l, h => by rw [List.map_cons, tsum_cons, tsum_cons, tm_neg (h x (by simp)), tsum_neg l (fun y hy => h y (by simp [hy]))]; omega
theorem es_fin (l : List Nat) (h : es l = 0) : ∀ x ∈ l, mg x < 9218868437227405312 := by
  intro x hx
  rcases Nat.lt_or_ge (mg x) 9218868437227405312 with h1 | h1
  · exact h1
  · exfalso
    have hA : nanB x = true → l.any nanB = true := fun e => List.any_eq_true.2 ⟨x, hx, e⟩
    have hB : pinf x = true → l.any pinf = true := fun e => List.any_eq_true.2 ⟨x, hx, e⟩
    have hC : minf x = true → l.any minf = true := fun e => List.any_eq_true.2 ⟨x, hx, e⟩
    unfold es at h
    by_cases hn : 9218868437227405312 < mg x
    · rw [hA (decide_eq_true hn)] at h
      simp at h
    · have hm : mg x = 9218868437227405312 := by omega
      generalize l.any nanB = A at *
      by_cases hs : x < 9223372036854775808
      · rw [hB (decide_eq_true ⟨hm, hs⟩)] at h
        generalize l.any minf = C at *
        cases A <;> cases C <;> simp at h
      · rw [hC (decide_eq_true ⟨hm, hs⟩)] at h
        generalize l.any pinf = C at *
        cases A <;> cases C <;> simp at h
theorem tsum_ng0 : ∀ (l : List Nat), (∀ x ∈ l, x = 9223372036854775808) → tsum l = 0
  | [], _ => rfl
  | x :: l, h => by
    rw [tsum_cons, h x (by simp), tsum_ng0 l (fun y hy => h y (by simp [hy]))]
    decide +kernel
theorem sgR_zero : sgR 0 = 0 := by decide +kernel
theorem sgR_num (v : Int) : ¬ 9218868437227405312 < mg (sgR v) := by
  have := rung_le v.natAbs (-1074)
  unfold sgR mg
  split <;> omega
theorem whole_fin (l : List Nat) (h : es l = 0) : pC (wholeC l) = pC (sgR (tsum l)) ∧ pC (nC (wholeC l)) = pC (negB (sgR (tsum l))) := by
  have hw : wholeC l = if sgB l then 9223372036854775808 else sgR (tsum l) := by
    unfold wholeC
    rw [h, if_neg (by omega), if_neg (by omega), if_neg (by omega)]
  rw [hw]
  by_cases hs : sgB l = true
  · rw [if_pos hs]
    have hn : ng0 l = true := by
      unfold sgB at hs
      rw [Bool.and_eq_true] at hs
      exact hs.2
    have hz : tsum l = 0 := tsum_ng0 l (fun x hx => by
      unfold ng0 at hn
      rw [List.all_eq_true] at hn
      have := of_decide_eq_true (hn x hx)
      exact this.elim (fun k => absurd (es_fin l h x hx) k) id)
    rw [hz, sgR_zero]
    decide +kernel
  · rw [if_neg hs]
    refine ⟨rfl, ?_⟩
    unfold nC
    rw [if_neg (fun e => sgR_num (tsum l) (by rw [e]; decide +kernel))]
theorem sgR_neg (v : Int) : pC (sgR (-v)) = pC (negB (sgR v)) := by
  have hr := rung_le v.natAbs (-1074)
  rcases Int.lt_trichotomy v 0 with h | h | h
  · have e1 : sgR (-v) = rung v.natAbs (-1074) := by unfold sgR; rw [if_neg (by omega), Int.natAbs_neg, Nat.zero_add]
    have e2 : sgR v = 9223372036854775808 + rung v.natAbs (-1074) := by unfold sgR; rw [if_pos h]
    rw [e1, e2]
    congr 1
    unfold negB
    rw [if_neg (by omega)]
    omega
  · subst h
    rw [Int.neg_zero, sgR_zero]
    decide +kernel
  · have e1 : sgR (-v) = 9223372036854775808 + rung v.natAbs (-1074) := by unfold sgR; rw [if_pos (by omega), Int.natAbs_neg]
    have e2 : sgR v = rung v.natAbs (-1074) := by unfold sgR; rw [if_neg (by omega), Nat.zero_add]
    rw [e1, e2]
    congr 1
    unfold negB
    rw [if_pos (by omega)]
    omega
theorem wholeC_1 {l : List Nat} (h : es l = 1) : wholeC l = 9218868437227405312 := by unfold wholeC; rw [h, if_neg (by omega), if_pos rfl]
theorem wholeC_2 {l : List Nat} (h : es l = 2) : wholeC l = 18442240474082181120 := by unfold wholeC; rw [h, if_neg (by omega), if_neg (by omega), if_pos rfl]
theorem wholeC_3 {l : List Nat} (h : es l = 3) : wholeC l = 9221120237041090561 := by unfold wholeC; rw [h, if_pos rfl]
theorem wholeC_neg (l : List Nat) (h : ∀ x ∈ l, x < 18446744073709551616) : pC (wholeC (l.map negB)) = pC (nC (wholeC l)) := by
  have he := es_neg l h
  have hl := es_le l
  have : es l = 0 ∨ es l = 1 ∨ es l = 2 ∨ es l = 3 := by omega
  rcases this with e | e | e | e
  · rw [e] at he
    rw [(whole_fin l e).2, (whole_fin (l.map negB) he).1, tsum_neg l h]
    exact sgR_neg _
  · rw [e, if_pos rfl] at he
    rw [wholeC_1 e, wholeC_2 he]
    decide +kernel
  · rw [e, if_neg (by omega), if_pos rfl] at he
    rw [wholeC_2 e, wholeC_1 he]
    decide +kernel
  · rw [e, if_neg (by omega), if_neg (by omega)] at he
    rw [wholeC_3 e, wholeC_3 he]
    decide +kernel
theorem wholeC_pair (l : List Nat) (y : Nat) (hy : y < 18446744073709551616) (hf : mg y < 9218868437227405312) : pC (wholeC (l ++ [y, negB y])) = pC (wholeC l) := by
  have he : es (l ++ [y, negB y]) = es l := by
    rw [show l ++ [y, negB y] = (l ++ [y]) ++ [negB y] from by simp, es_snoc, es_snoc, eStep_fin _ (by rw [mg_neg hy]; exact hf), eStep_fin _ hf]
  by_cases h0 : es l = 0
  · rw [(whole_fin l h0).1, (whole_fin _ (he.trans h0)).1, tsum_app, tsum_cons, tsum_cons, tm_neg hy]
    congr 2
    show tsum l + (tm y + (- tm y + 0)) = _
    omega
  · have hl := es_le l
    have : es l = 1 ∨ es l = 2 ∨ es l = 3 := by omega
    rcases this with e | e | e
    · rw [wholeC_1 e, wholeC_1 (he.trans e)]
    · rw [wholeC_2 e, wholeC_2 (he.trans e)]
    · rw [wholeC_3 e, wholeC_3 (he.trans e)]
/-- In the words of the law. -/
theorem law_perm {l l' : List Nat} {r r1 : Nat} (h : l'.Perm l) (hr : can r = wholeC l) (h1 : can r1 = wholeC l') : can r1 = can r := by rw [hr, h1, wholeC_perm h]
theorem law_neg {l : List Nat} {r m : Nat} (hl : ∀ x ∈ l, x < 18446744073709551616) (hrl : r < 18446744073709551616) (hr : can r = wholeC l) (hm : can m = wholeC (l.map negB)) : can (plusB m) = can (plusB (negB r)) := by
  rw [can_plus, can_plus, can_neg r hrl, hr, hm]
  exact wholeC_neg l hl
theorem law_pair {l l' : List Nat} {r m y : Nat} (h : l'.Perm l) (hy : y < 18446744073709551616) (hf : mg y < 9218868437227405312) (hr : can r = wholeC l) (hm : can m = wholeC (l' ++ [y, negB y])) : can (plusB m) = can (plusB r) := by
  rw [can_plus, can_plus, hr, hm, wholeC_pair l' y hy hf, wholeC_perm h]
/-- The list turned about. -/
def rot (l : List Nat) (r : Nat) : List Nat := l.reverse.drop r ++ l.reverse.take r
theorem rot_perm (l : List Nat) (r : Nat) : (rot l r).Perm l := by
  unfold rot
  refine List.perm_append_comm.trans ?_
  rw [List.take_append_drop]
  exact List.reverse_perm l
theorem rot_length (l : List Nat) (r : Nat) : (rot l r).length = l.length := (rot_perm l r).length_eq
theorem rot_at (l : List Nat) (r i : Nat) (hr : r < l.length) (hi : i < l.length) : (rot l r)[i]? = l[l.length - 1 - (r + i) % l.length]? := by
  unfold rot
  by_cases h : r + i < l.length
  · rw [List.getElem?_append_left (by rw [List.length_drop, List.length_reverse]; omega), List.getElem?_drop, Nat.mod_eq_of_lt h, List.getElem?_reverse h]
  · have hm : (r + i) % l.length = r + i - l.length := by rw [Nat.mod_eq_sub_mod (by omega), Nat.mod_eq_of_lt (by omega)]
    rw [List.getElem?_append_right (by rw [List.length_drop, List.length_reverse]; omega), List.length_drop, List.length_reverse, List.getElem?_take, if_pos (by omega), List.getElem?_reverse (by omega), hm]
    congr 1
    omega
end Go.Proofs.YtnpdfkcjjedamaaGreatDoor.Sca
