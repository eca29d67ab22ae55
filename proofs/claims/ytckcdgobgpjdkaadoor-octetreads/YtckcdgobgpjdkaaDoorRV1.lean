/- The document's look at UTF-8 is the library's: plain facts. -/
import Derived.Test.YtckcdgobgpjdkaaDoorRV0
namespace Go.Proofs.YtckcdgobgpjdkaaDoor.Oct
open Go.Lib

theorem drop_getD (l : List UInt8) (i k : Nat) : (l.drop i).getD k 0 = l.getD (i + k) 0 := by
  rw [List.getD_eq_getElem?_getD, List.getD_eq_getElem?_getD, List.getElem?_drop]
theorem v_ascii (l : List UInt8) (i : Nat) (h : i < l.length) (hb : (l.getD i 0).toNat < 128) : validD (l.drop i) = validD (l.drop (i + 1)) := by
  have e : l.drop i = l.getD i 0 :: l.drop (i + 1) := by
    rw [List.drop_eq_getElem_cons h, List.getD_eq_getElem?_getD, List.getElem?_eq_getElem h]
    rfl
  rw [e, validD_cons _ _ hb]
theorem v_lead (l : List UInt8) (i c sz lo hi : Nat) (h : i < l.length) (hc : (l.getD i 0).toNat = c) (h128 : 128 ≤ c) (h1 : firstT c % 8 = sz) (h2 : accLo (firstT c / 16) = lo) (h3 : accHi (firstT c / 16) = hi) :
    validD (l.drop i) = match checkN (l.length - i) (l.getD (i + 1) 0).toNat (l.getD (i + 2) 0).toNat (l.getD (i + 3) 0).toNat sz lo hi with | none => false | some k => validD (l.drop (i + k)) := by
  have hne : l.drop i ≠ [] := by intro e; have := congrArg List.length e; simp at this; omega
  have := validD_lead (l.drop i) hne (by rw [drop_getD, Nat.add_zero, hc]; exact h128)
  simp only [drop_getD, Nat.add_zero, hc, h1, h2, h3, List.length_drop, List.drop_drop] at this
  exact this
theorem v_bad (l : List UInt8) (i c : Nat) (h : i < l.length) (hc : (l.getD i 0).toNat = c) (h1 : (128 ≤ c ∧ c < 194) ∨ 244 < c) : validD (l.drop i) = false := by
  have e : firstT c = 241 := by
    unfold firstT
    repeat' split
    all_goals first | rfl | (exfalso; omega)
  have := v_lead l i c 1 (accLo 15) (accHi 15) h hc (by omega) (by rw [e]) (by rw [e]) (by rw [e])
  rw [this]
  simp [checkN]
theorem v_two (l : List UInt8) (i c lo hi : Nat) (h : i < l.length) (hc : (l.getD i 0).toNat = c) (h128 : 128 ≤ c) (h1 : firstT c % 8 = 2) (h2 : accLo (firstT c / 16) = lo) (h3 : accHi (firstT c / 16) = hi) :
    validD (l.drop i) = if contB l (i + 1) lo hi then validD (l.drop (i + 2)) else false := by
  rw [v_lead l i c 2 lo hi h hc h128 h1 h2 h3]
  unfold checkN contB
  by_cases hk : l.length - i < 2 ∨ (l.getD (i + 1) 0).toNat < lo ∨ hi < (l.getD (i + 1) 0).toNat
  · rw [if_pos rfl, if_pos hk, decide_eq_false (by omega)]; rfl
  · rw [if_pos rfl, if_neg hk, decide_eq_true (by omega)]; rfl
theorem v_three (l : List UInt8) (i c lo hi : Nat) (h : i < l.length) (hc : (l.getD i 0).toNat = c) (h128 : 128 ≤ c) (h1 : firstT c % 8 = 3) (h2 : accLo (firstT c / 16) = lo) (h3 : accHi (firstT c / 16) = hi) :
    validD (l.drop i) = if contB l (i + 1) lo hi then (if contB l (i + 2) 128 191 then validD (l.drop (i + 3)) else false) else false := by
  rw [v_lead l i c 3 lo hi h hc h128 h1 h2 h3]
  unfold checkN contB
  generalize (l.getD (i + 1) 0).toNat = b1
  generalize (l.getD (i + 2) 0).toNat = b2
  rw [if_neg (by decide), if_pos rfl]
  by_cases ha : i + 1 < l.length ∧ lo ≤ b1 ∧ b1 ≤ hi
  · by_cases hb : i + 2 < l.length ∧ 128 ≤ b2 ∧ b2 ≤ 191
    · rw [decide_eq_true ha, decide_eq_true hb, if_neg (by omega)]; rfl
    · rw [decide_eq_true ha, decide_eq_false hb, if_pos (by omega)]; rfl
  · rw [decide_eq_false ha, if_pos (by omega)]; rfl
theorem v_four (l : List UInt8) (i c lo hi : Nat) (h : i < l.length) (hc : (l.getD i 0).toNat = c) (h128 : 128 ≤ c) (h1 : firstT c % 8 = 4) (h2 : accLo (firstT c / 16) = lo) (h3 : accHi (firstT c / 16) = hi) :
    validD (l.drop i) = if contB l (i + 1) lo hi then (if contB l (i + 2) 128 191 then (if contB l (i + 3) 128 191 then validD (l.drop (i + 4)) else false) else false) else false := by
  rw [v_lead l i c 4 lo hi h hc h128 h1 h2 h3]
  unfold checkN contB
  generalize (l.getD (i + 1) 0).toNat = b1
  generalize (l.getD (i + 2) 0).toNat = b2
  generalize (l.getD (i + 3) 0).toNat = b3
  rw [if_neg (by decide), if_neg (by decide), if_pos rfl]
  by_cases ha : i + 1 < l.length ∧ lo ≤ b1 ∧ b1 ≤ hi
  · by_cases hb : i + 2 < l.length ∧ 128 ≤ b2 ∧ b2 ≤ 191
    · by_cases hd : i + 3 < l.length ∧ 128 ≤ b3 ∧ b3 ≤ 191
      · rw [decide_eq_true ha, decide_eq_true hb, decide_eq_true hd, if_neg (by omega)]; rfl
      · rw [decide_eq_true ha, decide_eq_true hb, decide_eq_false hd, if_pos (by omega)]; rfl
    · rw [decide_eq_true ha, decide_eq_false hb, if_pos (by omega)]; rfl
  · rw [decide_eq_false ha, if_pos (by omega)]; rfl
/-- The table, class by class. -/
theorem t_C2 {c : Nat} (h : 194 ≤ c ∧ c ≤ 223) : firstT c = 2 := by
  unfold firstT
  repeat' split
  all_goals first | rfl | (exfalso; omega)
theorem t_E1 {c : Nat} (h : 225 ≤ c ∧ c ≤ 239 ∧ c ≠ 237) : firstT c = 3 := by
  unfold firstT
  repeat' split
  all_goals first | rfl | (exfalso; omega)
theorem t_F1 {c : Nat} (h : 241 ≤ c ∧ c ≤ 243) : firstT c = 4 := by
  unfold firstT
  repeat' split
  all_goals first | rfl | (exfalso; omega)
end Go.Proofs.YtckcdgobgpjdkaaDoor.Oct
