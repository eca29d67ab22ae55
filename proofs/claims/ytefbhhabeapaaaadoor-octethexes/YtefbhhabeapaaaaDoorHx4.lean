/- Digits and bytes, there and back: plain facts. -/
import Derived.Test.YtefbhhabeapaaaaDoorHx3
namespace Go.Proofs.YtefbhhabeapaaaaDoor.Oct
open Go.RowKit

theorem hx_dg : ∀ n : Fin 16, dg (hx n.val).toNat = n.val := by decide +kernel
theorem hexOf_cons (b : UInt8) (r : List UInt8) : hexOf (b :: r) = hx (b.toNat / 16) :: hx (b.toNat % 16) :: hexOf r := by
  rw [hexOf, List.flatMap_cons]; rfl
theorem unh_hexOf : ∀ l : List UInt8, unh (hexOf l) = some l
  | [] => rfl
  | b :: r => by
    have hb := b.toNat_lt
    have h1 := hx_dg ⟨b.toNat / 16, by omega⟩
    have h2 := hx_dg ⟨b.toNat % 16, by omega⟩
    simp only at h1 h2
    rw [hexOf_cons, unh, h1, h2, if_neg (by omega), unh_hexOf r]
    simp only [Option.map_some, Option.some.injEq, List.cons.injEq, and_true]
    apply UInt8.toNat_inj.1
    rw [UInt8.toNat_ofNat', Nat.mod_eq_of_lt (by omega)]
    omega
theorem unh_bad : ∀ (l : List UInt8) (j : Nat) (a : UInt8), l[j]? = some a → dg a.toNat = 16 → unh l = none
  | [], j, a, h, _ => by simp at h
  | [_], _, _, _, _ => rfl
  | x :: y :: r, 0, a, h, hd => by
    simp at h; subst h
    rw [unh, if_pos (.inl hd)]
  | x :: y :: r, 1, a, h, hd => by
    simp at h; subst h
    rw [unh, if_pos (.inr hd)]
  | x :: y :: r, j + 2, a, h, hd => by
    simp at h
    rw [unh, unh_bad r j a h hd]
    split <;> rfl
/-- The digit at a place. -/
def dv (l : List UInt8) (j : Nat) : Nat := dg (l.getD j 0).toNat
theorem unh_full : ∀ (l : List UInt8), l.length % 2 = 0 → (∀ j, j < l.length → dv l j ≠ 16) → unh l = some ((List.range (l.length / 2)).map fun i => UInt8.ofNat (dv l (2 * i) * 16 + dv l (2 * i + 1)))
  | [], _, _ => rfl
  | [_], h, _ => by simp at h
  | x :: y :: r, h, hd => by
    have h0 := hd 0 (by simp)
    have h1 := hd 1 (by simp)
    have ih := unh_full r (by simp at h; omega) (fun j hj => by
      have := hd (j + 2) (by simp; omega)
      simpa [dv] using this)
    have e0 : dv (x :: y :: r) 0 = dg x.toNat := rfl
    have e1 : dv (x :: y :: r) 1 = dg y.toNat := rfl
    rw [e0] at h0
    rw [e1] at h1
    rw [unh, if_neg (by omega), ih]
    simp only [Option.map_some, Option.some.injEq]
    rw [show (x :: y :: r).length / 2 = r.length / 2 + 1 by simp only [List.length_cons]; omega, List.range_succ_eq_map, List.map_cons, List.map_map]
    rfl
/-- What lies at byte i when pos digits have been read. -/
def fl (l : List UInt8) (pos i : Nat) : Nat := if 2 * i + 1 < pos then dv l (2 * i) * 16 + dv l (2 * i + 1) else if 2 * i < pos then dv l (2 * i) else 0
def tx (l : List UInt8) (pos : Nat) : List UInt8 := (List.range (l.length / 2)).map fun i => UInt8.ofNat (fl l pos i)
theorem tx_length (l : List UInt8) (pos : Nat) : (tx l pos).length = l.length / 2 := by simp [tx]
theorem tx_zero (l : List UInt8) : tx l 0 = List.replicate (l.length / 2) 0 := by
  rw [tx, List.eq_replicate_iff]
  refine ⟨by simp, fun b hb => ?_⟩
  simp only [List.mem_map] at hb
  obtain ⟨i, _, rfl⟩ := hb
  rw [fl, if_neg (by omega), if_neg (by omega)]
  rfl
theorem tx_end (l : List UInt8) (hl : l.length % 2 = 0) (hd : ∀ j, j < l.length → dv l j ≠ 16) : unh l = some (tx l l.length) := by
  rw [unh_full l hl hd, tx]
  congr 1
  apply List.map_congr_left
  intro i hi
  rw [List.mem_range] at hi
  rw [fl, if_pos (by omega)]
theorem tx_get (l : List UInt8) (pos i : Nat) (hi : i < l.length / 2) : (tx l pos)[i]? = some (UInt8.ofNat (fl l pos i)) := by
  rw [tx, List.getElem?_map, List.getElem?_range hi]; rfl
theorem tx_step (l : List UInt8) (pos : Nat) : (tx l pos).set (pos / 2) (UInt8.ofNat (fl l (pos + 1) (pos / 2))) = tx l (pos + 1) := by
  apply List.ext_getElem?
  intro i
  by_cases hi : i < l.length / 2
  · rw [List.getElem?_set, tx_length, tx_get l (pos + 1) i hi]
    by_cases h : pos / 2 = i
    · rw [if_pos h, if_pos (by omega), h]
    · rw [if_neg h, tx_get l pos i hi]
      congr 2
      unfold fl
      by_cases h1 : 2 * i + 1 < pos
      · rw [if_pos h1, if_pos (by omega)]
      · rw [if_neg h1, if_neg (by omega), if_neg (by omega), if_neg (by omega)]
  · rw [List.getElem?_eq_none (by rw [List.length_set, tx_length]; omega), List.getElem?_eq_none (by rw [tx_length]; omega)]
theorem fl_now (l : List UInt8) (pos : Nat) : fl l pos (pos / 2) = if pos % 2 = 0 then 0 else dv l (pos - 1) := by
  unfold fl
  by_cases h : pos % 2 = 0
  · rw [if_neg (by omega), if_neg (by omega), if_pos h]
  · rw [if_neg (by omega), if_pos (by omega), if_neg h, show 2 * (pos / 2) = pos - 1 by omega]
theorem fl_next (l : List UInt8) (pos : Nat) : fl l (pos + 1) (pos / 2) = fl l pos (pos / 2) * 16 + dv l pos := by
  rw [fl_now]
  unfold fl
  by_cases h : pos % 2 = 0
  · rw [if_neg (by omega), if_pos (by omega), if_pos h, show 2 * (pos / 2) = pos by omega]; omega
  · rw [if_pos (by omega), if_neg h, show 2 * (pos / 2) = pos - 1 by omega, show pos - 1 + 1 = pos by omega]
theorem fl_lt (l : List UInt8) (pos : Nat) (hd : ∀ j, j < pos → dv l j < 16) : fl l pos (pos / 2) < 16 := by
  rw [fl_now]
  by_cases h : pos % 2 = 0
  · rw [if_pos h]; omega
  · rw [if_neg h]; exact hd _ (by omega)
theorem or16 : ∀ x : Fin 16, ∀ y : Fin 16, bits .or .u8 ((x.val : Int) * 16) (y.val : Int) = ((x.val * 16 + y.val : Nat) : Int) := by decide +kernel
end Go.Proofs.YtefbhhabeapaaaaDoor.Oct
