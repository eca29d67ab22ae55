/- The document's exact sum: what its words say, plain facts. -/
import Derived.Test.YtnpdfkcjjedamaaGreatDoorZe
import Derived.Test.YtnpdfkcjjedamaaGreatDoorYe
import Derived.Test.YtnpdfkcjjedamaaGreatDoorYf
namespace Go.Proofs.YtnpdfkcjjedamaaGreatDoor.Sca
open Go.RowKit Go.Lib Go.Shelf

theorem valq_zs : ∀ l : List Nat, valq (zs l) = (pvn l : Int)
  | [] => rfl
  | x :: r => by
    have := valq_zs r
    unfold zs at this ⊢
    rw [List.map_cons]
    unfold valq pvn
    rw [this]
    omega
theorem valq_snoc : ∀ (l : List Int) (x : Int), valq (l ++ [x]) = valq l + x * 4294967296 ^ l.length
  | [], x => by simp [valq]
  | y :: l, x => by
    rw [List.cons_append]
    unfold valq
    rw [valq_snoc l x, List.length_cons, Int.pow_succ, Int.mul_add, Int.mul_comm (4294967296 ^ l.length) 4294967296, Int.mul_left_comm x]
    generalize (4294967296 : Int) * (x * 4294967296 ^ l.length) = Z
    cases l <;> omega
theorem valq_neg : ∀ l : List Int, valq (l.map (fun x => -x)) = - valq l
  | [] => rfl
  | x :: r => by
    rw [List.map_cons]
    unfold valq
    rw [valq_neg r]
    omega
theorem pvn_lt : ∀ l : List Nat, (∀ x ∈ l, x < 4294967296) → pvn l < 4294967296 ^ l.length
  | [], _ => by simp [pvn]
  | x :: r, h => by
    have h0 := h x (by simp)
    have h1 := pvn_lt r (fun y hy => h y (by simp [hy]))
    rw [List.length_cons, Nat.pow_succ]
    unfold pvn
    generalize 4294967296 ^ r.length = P at *
    omega
theorem zs_of (a : List Int) (h : ∀ x ∈ a, 0 ≤ x ∧ x < 4294967296) : zs (a.map Int.toNat) = a ∧ ∀ x ∈ a.map Int.toNat, x < 4294967296 := by
  constructor
  · unfold zs
    rw [List.map_map]
    conv => rhs; rw [← List.map_id a]
    apply List.map_congr_left
    intro x hx
    have := h x hx
    show ((x.toNat : Nat) : Int) = x
    omega
  · intro x hx
    obtain ⟨y, hy, rfl⟩ := List.mem_map.1 hx
    have := h y hy
    omega
theorem words_of (a : List Int) (ha : a.length = 72) (hn : ∀ (i : Nat) x, i < 71 → a[i]? = some x → 0 ≤ x ∧ x < 4294967296) (T : Int) (hv : valq a = T) (h1 : -(4294967296 ^ 71) < T) (h2 : T < 4294967296 ^ 71) :
    ∃ z, a[71]? = some z ∧ ((0 ≤ T ∧ z = 0 ∧ ∃ l, a = zs l ∧ l.length = 72 ∧ (∀ x ∈ l, x < 4294967296) ∧ (pvn l : Int) = T) ∨ (T < 0 ∧ z = -1)) := by
  obtain ⟨z, hz⟩ : ∃ z, a[71]? = some z := ⟨a[71]'(by omega), List.getElem?_eq_getElem _⟩
  refine ⟨z, hz, ?_⟩
  have hsp : a = a.take 71 ++ [z] := by
    have h3 : a.take (71 + 1) = a.take 71 ++ [z] := by rw [List.take_add_one, hz]; rfl
    rw [List.take_of_length_le (by omega)] at h3
    exact h3
  have hm : ∀ x ∈ a.take 71, 0 ≤ x ∧ x < 4294967296 := fun x hx => by
    obtain ⟨i, hi⟩ := List.getElem?_of_mem hx
    rw [List.getElem?_take] at hi
    split at hi
    · rename_i hlt
      exact hn i x hlt hi
    · cases hi
  obtain ⟨e1, e2⟩ := zs_of _ hm
  have hl0 : (a.take 71).length = 71 := by rw [List.length_take]; omega
  have hv2 : T = (pvn ((a.take 71).map Int.toNat) : Int) + z * 4294967296 ^ 71 := by
    rw [← hv]
    conv => lhs; rw [hsp]
    rw [valq_snoc, hl0, ← valq_zs, e1]
  have hlt := pvn_lt _ e2
  rw [List.length_map, hl0] at hlt
  have hlt2 : (pvn ((a.take 71).map Int.toNat) : Int) < 4294967296 ^ 71 := by
    have := Int.ofNat_lt.2 hlt
    rw [Int.natCast_pow] at this
    exact this
  have hlt0 : (0 : Int) ≤ (pvn ((a.take 71).map Int.toNat) : Int) := Int.natCast_nonneg _
  have hP : (0 : Int) < 4294967296 ^ 71 := Int.pow_pos (by decide)
  have hzc : z = 0 ∨ z = -1 := by
    generalize (4294967296 : Int) ^ 71 = P at *
    generalize (pvn ((a.take 71).map Int.toNat) : Int) = L at *
    rcases Int.lt_or_le z (-1) with h | h
    · exfalso
      have : z * P ≤ (-2) * P := Int.mul_le_mul_of_nonneg_right (by omega) (by omega)
      omega
    · rcases Int.lt_or_le 0 z with h3 | h3
      · exfalso
        have : 1 * P ≤ z * P := Int.mul_le_mul_of_nonneg_right (by omega) (by omega)
        omega
      · omega
  rcases hzc with rfl | rfl
  · left
    rw [Int.zero_mul, Int.add_zero] at hv2
    refine ⟨by omega, rfl, (a.take 71).map Int.toNat ++ [0], ?_, by rw [List.length_append, List.length_map, hl0]; rfl, ?_, ?_⟩
    · conv => lhs; rw [hsp]
      unfold zs at e1 ⊢
      rw [List.map_append, e1]
      rfl
    · intro x hx
      rw [List.mem_append] at hx
      rcases hx with hx | hx
      · exact e2 x hx
      · simp at hx
        omega
    · rw [hv2]
      congr 1
      have := valq_snoc (zs ((a.take 71).map Int.toNat)) 0
      rw [Int.zero_mul, Int.add_zero, valq_zs] at this
      have e3 : zs ((a.take 71).map Int.toNat) ++ [0] = zs ((a.take 71).map Int.toNat ++ [0]) := by simp [zs]
      rw [e3, valq_zs] at this
      exact Int.ofNat.inj this
  · right
    generalize (4294967296 : Int) ^ 71 = P at *
    exact ⟨by omega, rfl⟩
theorem tsum_q71 (l : List Nat) (h : l.length ≤ 17592186044416) : -(4294967296 ^ 71) < tsum l ∧ tsum l < 4294967296 ^ 71 := by
  have h1 := tsum_q l h
  have h2 : (9223372036854775808 : Int) * 18446744073709551616 ^ 33 < 4294967296 ^ 71 := by decide +kernel
  generalize (9223372036854775808 : Int) * 18446744073709551616 ^ 33 = A at *
  generalize (4294967296 : Int) ^ 71 = P at *
  omega
/-- A float's parts, with its sign: what the document puts in. -/
theorem tm_parts (x : Nat) (hf : mg x < 9218868437227405312) : (if decide (sb (can x) ≠ 0) = true then -((mOf x * 2 ^ (pOf x + 1074).toNat : Nat) : Int) else ((mOf x * 2 ^ (pOf x + 1074).toNat : Nat) : Int)) = tm x := by
  rw [tm_abs, if_pos hf, can_fin x hf]
  by_cases h : sb x = 0
  · rw [if_pos h, if_neg (by simp [h])]
  · rw [if_neg h, if_pos (by simp [h])]
def al0 (l : List Nat) : Bool := l.all (fun x => decide (x = 9223372036854775808))
theorem al0_snoc (l : List Nat) (x : Nat) : al0 (l ++ [x]) = (al0 l && decide (x = 9223372036854775808)) := by simp [al0, List.all_append]
theorem al0_ng0 (l : List Nat) (h : es l = 0) : (decide (0 < l.length) && al0 l) = sgB l := by
  unfold sgB
  congr 1
  unfold al0 ng0
  rw [Bool.eq_iff_iff, List.all_eq_true, List.all_eq_true]
  constructor
  · intro k x hx
    exact decide_eq_true (.inr (of_decide_eq_true (k x hx)))
  · intro k x hx
    exact decide_eq_true ((of_decide_eq_true (k x hx)).elim (fun c => absurd (es_fin l h x hx) c) id)
theorem al0_sum (l : List Nat) (h : al0 l = true) : tsum l = 0 := tsum_ng0 l (fun x hx => by
  unfold al0 at h
  rw [List.all_eq_true] at h
  exact of_decide_eq_true (h x hx))
theorem es_of (l : List Nat) (h : l.any nanB = false) : es l = if (l.any pinf && l.any minf) then 3 else if l.any pinf then 1 else if l.any minf then 2 else 0 := by
  unfold es
  rw [h, Bool.false_or]
theorem any_snoc (l : List Nat) (x : Nat) (p : Nat → Bool) : (l ++ [x]).any p = (l.any p || p x) := by simp [List.any_append]
theorem es_nan (l : List Nat) (x : Nat) (hx : x ∈ l) (h : 9218868437227405312 < mg x) : es l = 3 := by
  unfold es
  rw [List.any_eq_true.2 ⟨x, hx, decide_eq_true h⟩, Bool.true_or, if_pos rfl]
theorem wholeC_0 {l : List Nat} (h : es l = 0) : wholeC l = if sgB l then 9223372036854775808 else sgR (tsum l) := by
  unfold wholeC
  rw [h, if_neg (by omega), if_neg (by omega), if_neg (by omega)]
theorem bd_carried (a : List Int) (ha : a.length = 72) (hn : ∀ (i : Nat) x, i < 71 → a[i]? = some x → 0 ≤ x ∧ x < 4294967296) (T : Int) (hv : valq a = T) (h1 : -(4294967296 ^ 71) < T) (h2 : T < 4294967296 ^ 71) :
    ∀ (j : Nat) x, a[j]? = some x → -4294967296 ≤ x ∧ x ≤ 4294967296 := by
  intro j x hj
  obtain ⟨z, hz, hc⟩ := words_of a ha hn T hv h1 h2
  by_cases h71 : j < 71
  · have := hn j x h71 hj
    omega
  · have : j = 71 := by
      have := (List.getElem?_eq_some_iff.1 hj).1
      omega
    subst this
    rw [hz] at hj
    cases hj
    rcases hc with ⟨_, h, _⟩ | ⟨_, h⟩ <;> omega
end Go.Proofs.YtnpdfkcjjedamaaGreatDoor.Sca
