/- What the exact sum's words are rounded to. -/
import Derived.Test.YtnpdfkcjjedamaaGreatDoorYa
namespace Go.Proofs.YtnpdfkcjjedamaaGreatDoor.Sca
open Go.RowKit Go.Lib Go.Shelf

def valN : List Nat → Nat
  | [] => 0
  | x :: r => x + 18446744073709551616 * valN r
theorem val_nat : ∀ a : List Nat, val a = (valN a : Int)
  | [] => rfl
  | x :: r => by unfold val valN; rw [val_nat r]; omega
theorem valN_append : ∀ l r : List Nat, valN (l ++ r) = valN l + 18446744073709551616 ^ l.length * valN r
  | [], r => by simp [valN]
  | x :: l, r => by
    simp only [List.cons_append, valN, List.length_cons]
    rw [valN_append l r, Nat.mul_add, Nat.pow_succ, Nat.mul_comm (18446744073709551616 ^ l.length) 18446744073709551616, Nat.mul_assoc]
    omega
theorem valN_lt : ∀ l : List Nat, (∀ x ∈ l, x < 18446744073709551616) → valN l < 18446744073709551616 ^ l.length
  | [], _ => by simp [valN]
  | x :: r, h => by
    have h0 := h x (by simp)
    have h1 := valN_lt r (fun y hy => h y (by simp [hy]))
    rw [List.length_cons, Nat.pow_succ]
    unfold valN
    generalize 18446744073709551616 ^ r.length = P at *
    omega
theorem wd_zero (x : Nat) (r : List Nat) : wd (x :: r) 0 = x := rfl
theorem wd_succ (x : Nat) (r : List Nat) (i : Nat) : wd (x :: r) (i + 1) = wd r i := by simp [wd]
theorem valN_zero : ∀ l : List Nat, valN l = 0 ↔ ∀ i, i < l.length → wd l i = 0
  | [] => by simp [valN]
  | x :: r => by
    have ih := valN_zero r
    unfold valN
    constructor
    · intro h i hi
      have h1 : valN r = 0 := by omega
      cases i with
      | zero => rw [wd_zero]; omega
      | succ i => rw [wd_succ]; exact ih.1 h1 i (by simpa using hi)
    · intro h
      have h0 := h 0 (by simp)
      rw [wd_zero] at h0
      have h1 := ih.2 (fun i hi => by have := h (i + 1) (by simpa using hi); rwa [wd_succ] at this)
      omega
theorem wd_take (a : List Nat) (j i : Nat) (h : i < j) : wd (a.take j) i = wd a i := by
  unfold wd
  simp [List.getD, h]
theorem wd_drop (a : List Nat) (j i : Nat) : wd (a.drop j) i = wd a (j + i) := by
  unfold wd
  simp [List.getD, List.getElem?_drop]
theorem cut_one (a : List Nat) (k : Nat) (h : k < a.length) : a = a.take k ++ wd a k :: a.drop (k + 1) := by
  have e : wd a k = a[k] := wd_at (List.getElem?_eq_getElem h)
  rw [e]
  rw [← List.drop_eq_getElem_cons h, List.take_append_drop]
/-- The words above the highest one are 0. -/
theorem valN_top (a : List Nat) (k : Nat) (hl : a.length = 34) (ht : Top a k) : valN a = valN (a.take k) + 18446744073709551616 ^ k * wd a k := by
  have hd : valN (a.drop (k + 1)) = 0 := (valN_zero _).2 (fun i hi => by
    rw [wd_drop]
    rw [List.length_drop] at hi
    exact ht.up _ (by omega) (by omega))
  have hlt := ht.lt
  have e : valN a = valN (a.take k ++ wd a k :: a.drop (k + 1)) := congrArg valN (cut_one a k (by omega))
  rw [e, valN_append, List.length_take, Nat.min_eq_left (by omega)]
  unfold valN
  rw [hd, Nat.mul_zero, Nat.add_zero]
theorem valN_take (a : List Nat) (j : Nat) (h : j < a.length) : valN (a.take (j + 1)) = valN (a.take j) + 18446744073709551616 ^ j * wd a j := by
  have e : a.take (j + 1) = a.take j ++ [wd a j] := by
    have hx : a[j]? = some (wd a j) := by rw [List.getElem?_eq_getElem h]; congr 1; exact (wd_at (List.getElem?_eq_getElem h)).symm
    rw [List.take_add_one, hx]
    rfl
  rw [e, valN_append, List.length_take, Nat.min_eq_left (by omega)]
  simp [valN]
theorem b64 (j : Nat) : 18446744073709551616 ^ j = 2 ^ (64 * j) := by rw [Nat.pow_mul]
theorem rndP_val (a : List Nat) (k : Nat) (hl : a.length = 34) (hlt : ∀ (i : Nat) x, a[i]? = some x → x < 18446744073709551616) (ht : Top a k) : rndP a k = rung (valN a) (-1074) := by
  have hk := ht.lt
  have hv := valN_top a k hl ht
  have hw : ∀ i, i < 34 → wd a i < 18446744073709551616 := fun i hi => by
    have hx : a[i]? = some (a[i]'(by omega)) := List.getElem?_eq_getElem _
    rw [wd_at hx]
    exact hlt i _ hx
  cases k with
  | zero =>
    unfold rndP
    rw [if_pos rfl, hv]
    simp [valN]
  | succ j =>
    have hx0 : wd a (j + 1) ≠ 0 := by
      rcases ht.nz with h | h
      · omega
      · exact h
    have hx := hw (j + 1) hk
    have hy := hw j (by omega)
    have hU : valN (a.take j) < 2 ^ (64 * j) := by
      have := valN_lt (a.take j) (fun x hx => by
        obtain ⟨i, hi⟩ := List.getElem?_of_mem hx
        rw [List.getElem?_take] at hi
        split at hi
        · exact hlt i x hi
        · cases hi)
      rw [List.length_take, Nat.min_eq_left (by omega), b64] at this
      exact this
    have hUz : valN (a.take j) = 0 ↔ ∀ i, i < j → wd a i = 0 := by
      rw [valN_zero, List.length_take, Nat.min_eq_left (by omega)]
      constructor
      · intro h i hi
        have := h i hi
        rwa [wd_take a j i hi] at this
      · intro h i hi
        rw [wd_take a j i hi]
        exact h i hi
    have hN : valN a = valN (a.take j) + 2 ^ (64 * j) * (wd a j + 18446744073709551616 * wd a (j + 1)) := by
      rw [hv, valN_take a j (by omega), Nat.pow_succ, b64, Nat.mul_add, ← Nat.mul_assoc]
      omega
    have hbl : bl (wd a (j + 1)) ≤ 64 := bl_lt hx
    have hbl1 : 1 ≤ bl (wd a (j + 1)) := by rw [bl_pos hx0]; omega
    have hxb2 : 2 ^ (bl (wd a (j + 1)) - 1) ≤ wd a (j + 1) := by rw [bl_pos hx0]; exact Nat.log2_self_le hx0
    obtain ⟨c, hc⟩ : ∃ c, bl (wd a (j + 1)) = c := ⟨_, rfl⟩
    rw [hc] at hbl hbl1 hxb2
    obtain ⟨en, hen⟩ : ∃ en, 64 - c = en := ⟨_, rfl⟩
    have he : emp a (j + 1) = en := by unfold emp; rw [hc, hen]
    have hB : 2 ^ en * 2 ^ c = 18446744073709551616 := by rw [← Nat.pow_add, show en + c = 64 from by omega]
    have hm : m0 a (j + 1) = wd a (j + 1) * 2 ^ en + wd a j / 2 ^ c := by unfold m0; rw [he, show 64 - en = c from by omega]; rfl
    have hst : sticky a (j + 1) = (decide (wd a j * 2 ^ en % 18446744073709551616 ≠ 0) || !decide (∀ i, i < j → wd a i = 0)) := by unfold sticky; rw [he]; rfl
    have hmS : mS a (j + 1) = if sticky a (j + 1) then (wd a (j + 1) * 2 ^ en + wd a j / 2 ^ c) ||| 1 else wd a (j + 1) * 2 ^ en + wd a j / 2 ^ c := by unfold mS; rw [hm]
    have hr : rndP a (j + 1) = rung (mS a (j + 1)) (-1074 + 64 * ((j + 1 : Nat) : Int) - (en : Int)) := by unfold rndP; rw [if_neg (by omega), he]
    have hdiv : valN a / 2 ^ (64 * j + c) = wd a (j + 1) * 2 ^ en + wd a j / 2 ^ c := by
      rw [hN, Nat.pow_add, ← Nat.div_div_eq_div_mul, Nat.add_comm, Nat.mul_add_div (Nat.two_pow_pos _), Nat.div_eq_of_lt hU, Nat.add_zero, ← hB]
      rw [Nat.mul_comm (2 ^ en) (2 ^ c), Nat.mul_assoc, Nat.add_comm, Nat.mul_add_div (Nat.two_pow_pos _), Nat.mul_comm (2 ^ en)]
    have hmod : valN a % 2 ^ (64 * j + c) = valN (a.take j) + 2 ^ (64 * j) * (wd a j % 2 ^ c) := by
      rw [hN, Nat.pow_add, Nat.mod_mul, Nat.add_mul_mod_self_left, Nat.mod_eq_of_lt hU]
      rw [Nat.add_mul_div_left _ _ (Nat.two_pow_pos _), Nat.div_eq_of_lt hU, Nat.zero_add, ← hB, Nat.mul_comm (2 ^ en) (2 ^ c), Nat.mul_assoc, Nat.add_mul_mod_self_left]
    have hyq : wd a j * 2 ^ en % 18446744073709551616 = wd a j % 2 ^ c * 2 ^ en := by
      rw [← hB, Nat.mul_comm (2 ^ en) (2 ^ c), Nat.mul_mod_mul_right]
    have hz : (valN a % 2 ^ (64 * j + c) = 0) ↔ sticky a (j + 1) = false := by
      rw [hmod, hst, Bool.or_eq_false_iff, decide_eq_false_iff_not, Bool.not_eq_false', decide_eq_true_iff, hyq, ← hUz, Decidable.not_not]
      have p1 : 0 < 2 ^ (64 * j) := Nat.two_pow_pos _
      have p2 : 0 < 2 ^ en := Nat.two_pow_pos _
      constructor
      · intro h
        have h1 : 2 ^ (64 * j) * (wd a j % 2 ^ c) = 0 := by omega
        rcases Nat.mul_eq_zero.1 h1 with h2 | h2
        · omega
        · exact ⟨by rw [h2, Nat.zero_mul], by omega⟩
      · rintro ⟨h1, h2⟩
        rcases Nat.mul_eq_zero.1 h1 with h3 | h3
        · rw [h2, h3, Nat.mul_zero]
        · omega
    have h63 : 9223372036854775808 ≤ valN a / 2 ^ (64 * j + c) := by
      rw [hdiv]
      have h1 : 2 ^ (c - 1) * 2 ^ en ≤ wd a (j + 1) * 2 ^ en := Nat.mul_le_mul_right _ hxb2
      rw [← Nat.pow_add, show c - 1 + en = 63 from by omega] at h1
      exact Nat.le_trans h1 (Nat.le_add_right _ _)
    rw [rung_sticky (valN a) (64 * j + c) (-1074) h63, hr, hmS]
    unfold stk
    rw [hdiv]
    have e : (-1074 : Int) + 64 * ((j + 1 : Nat) : Int) - (en : Int) = -1074 + ((64 * j + c : Nat) : Int) := by omega
    rw [e]
    by_cases hs : sticky a (j + 1) = true
    · rw [if_pos hs, if_neg (fun h => by rw [hz.1 h] at hs; cases hs)]
    · rw [if_neg hs, if_pos (hz.2 (by simpa using hs))]
end Go.Proofs.YtnpdfkcjjedamaaGreatDoor.Sca
