/- Pure: what a text is read as, by the program and by the document. -/
import Derived.Test.YteknpejkooemjabDoorY13
namespace Go.Proofs.YteknpejkooemjabDoor.Pau
open Go.RowKit Go.Shelf

/-- A text's sign, as the document reads it. -/
def dI (l : List UInt8) : Nat := if l.getD 1 0 = 105 ∧ 1 < l.length then 1 else 0
def dM (l : List UInt8) : Nat := if l.getD 0 0 = 45 ∧ 0 < l.length then 2 else 0
/-- A text, as the document reads it. -/
def dP (l : List UInt8) : P := ⟨((min 64 (l.drop (1 + dI l)).length : Nat) : Int), rd cx (l.drop (1 + dI l)) (min 64 (l.drop (1 + dI l)).length), rd cz (l.drop (1 + dI l)) (min 64 (l.drop (1 + dI l)).length), ((dM l + dI l : Nat) : Int)⟩
theorem bt_rd {f : UInt8 → Nat} (hf : ∀ b, f b ≤ 1) (r : List UInt8) : ∀ m q, q < m → bt (rd f r m) q = f (r.getD q 0)
  | 0, q, h => absurd h (by omega)
  | m + 1, q, h => by
    have hl := rd_lt hf r m
    have h1 := hf (r.getD m 0)
    rw [rd]
    by_cases e : q = m
    · subst e
      unfold bt
      rw [Nat.mul_comm, Nat.add_mul_div_left _ _ (Nat.two_pow_pos q), Nat.div_eq_of_lt hl, Nat.zero_add, Nat.mod_eq_of_lt (by omega)]
    · rw [← bt_rd hf r m q (by omega)]
      unfold bt
      obtain ⟨k, hk⟩ : ∃ k, m = q + (k + 1) := ⟨m - q - 1, by omega⟩
      rw [hk, Nat.pow_add, Nat.pow_succ, show f (r.getD (q + (k + 1)) 0) * (2 ^ q * (2 ^ k * 2)) = 2 ^ q * (2 * (f (r.getD (q + (k + 1)) 0) * 2 ^ k)) by
        rw [Nat.mul_left_comm, Nat.mul_comm (2 ^ k) 2, Nat.mul_left_comm (f _) 2], Nat.add_mul_div_left _ _ (Nat.two_pow_pos q), Nat.add_mul_mod_self_left]
theorem lt_ok (b : UInt8) (h : okB b = true) : UInt8.ofNat (lt (cx b) (cz b)) = b := by
  unfold okB at h
  rcases of_decide_eq_true h with rfl | rfl | rfl | rfl <;> decide
theorem lt_is (u v : Nat) (hu : u < 2) (hv : v < 2) : okB (UInt8.ofNat (lt u v)) = true ∧ cx (UInt8.ofNat (lt u v)) = u ∧ cz (UInt8.ofNat (lt u v)) = v := by
  have h1 : u = 0 ∨ u = 1 := by omega
  have h2 : v = 0 ∨ v = 1 := by omega
  rcases h1 with rfl | rfl <;> rcases h2 with rfl | rfl <;> decide
/-- Letters that are read are written as they were. -/
theorem ltr_rd (r : List UInt8) (n ph : Int) (h : r.all okB = true) : ltr ⟨n, rd cx r r.length, rd cz r r.length, ph⟩ r.length = r := by
  unfold ltr
  apply List.ext_getElem?
  intro q
  rw [List.getElem?_map]
  by_cases hq : q < r.length
  · rw [List.getElem?_range hq]
    simp only [Option.map_some]
    rw [bt_rd cx_le r _ q hq, bt_rd cz_le r _ q hq]
    have e : r.getD q 0 = r[q] := by rw [List.getD_eq_getElem?_getD, List.getElem?_eq_getElem hq]; rfl
    rw [e, List.getElem?_eq_getElem hq, lt_ok r[q] (List.all_eq_true.1 h _ (List.getElem_mem hq))]
  · rw [List.getElem?_eq_none (l := List.range r.length) (by rw [List.length_range]; omega), List.getElem?_eq_none (l := r) (by omega)]
    rfl
theorem ltr_ok (p : P) (k : Nat) : (ltr p k).all okB = true := by
  refine List.all_eq_true.2 (fun b hb => ?_)
  unfold ltr at hb
  obtain ⟨q, -, rfl⟩ := List.mem_map.1 hb
  exact (lt_is _ _ (bt_lt _ _) (bt_lt _ _)).1
theorem pre_iff (l p : List UInt8) : Lib.hasPrefix l p = true ↔ ∃ r, l = p ++ r := by
  unfold Lib.hasPrefix
  rw [List.isPrefixOf_iff_prefix]
  exact ⟨fun ⟨r, h⟩ => ⟨r, h.symm⟩, fun ⟨r, h⟩ => ⟨r, h.symm⟩⟩
theorem trim_eq (p r : List UInt8) : Lib.trimPrefix (p ++ r) p = r := by
  have h := (pre_iff (p ++ r) p).2 ⟨r, rfl⟩
  unfold Lib.trimPrefix
  rw [if_pos h]
  simp
/-- What stands ahead and behind. -/
theorem cut_is {l : List UInt8} (h : 0 ≤ (cutP l).1) : ∃ k : Nat, k < 4 ∧ (cutP l).1 = (k : Int) ∧ l = sg k ++ (cutP l).2 := by
  unfold cutP at *
  by_cases h3 : Lib.hasPrefix l (sg 3) = true
  · rw [if_pos h3] at *
    obtain ⟨r, rfl⟩ := (pre_iff _ _).1 h3
    exact ⟨3, by decide, rfl, by rw [trim_eq]⟩
  · rw [if_neg h3] at *
    by_cases h2 : Lib.hasPrefix l (sg 2) = true
    · rw [if_pos h2] at *
      obtain ⟨r, rfl⟩ := (pre_iff _ _).1 h2
      exact ⟨2, by decide, rfl, by rw [trim_eq]⟩
    · rw [if_neg h2] at *
      by_cases h1 : Lib.hasPrefix l (sg 1) = true
      · rw [if_pos h1] at *
        obtain ⟨r, rfl⟩ := (pre_iff _ _).1 h1
        exact ⟨1, by decide, rfl, by rw [trim_eq]⟩
      · rw [if_neg h1] at *
        by_cases h0 : Lib.hasPrefix l (sg 0) = true
        · rw [if_pos h0] at *
          obtain ⟨r, rfl⟩ := (pre_iff _ _).1 h0
          exact ⟨0, by decide, rfl, by rw [trim_eq]⟩
        · rw [if_neg h0] at h
          exact absurd h (by decide)
theorem head_ok {r : List UInt8} (h : r.all okB = true) : r.getD 0 0 ≠ 105 := by
  cases r with
  | nil => decide
  | cons b r =>
    intro e
    have hb := List.all_eq_true.1 h b (by simp)
    rw [show (b :: r).getD 0 0 = b from rfl] at e
    rw [e] at hb
    exact absurd hb (by decide)
theorem no_pre {l p : List UInt8} (h : ∀ r, l ≠ p ++ r) : Lib.hasPrefix l p = false := by
  cases e : Lib.hasPrefix l p with
  | false => rfl
  | true => obtain ⟨r, hr⟩ := (pre_iff _ _).1 e; exact absurd hr (h r)
theorem cut_sg {k : Nat} (hk : k < 4) {r : List UInt8} (h : r.getD 0 0 ≠ 105) : cutP (sg k ++ r) = ((k : Int), r) := by
  have yes : ∀ k, Lib.hasPrefix (sg k ++ r) (sg k) = true := fun k => (pre_iff _ _).2 ⟨r, rfl⟩
  have h4 : k = 0 ∨ k = 1 ∨ k = 2 ∨ k = 3 := by omega
  unfold cutP
  have hr : ∀ t, r ≠ 105 :: t := fun t e => h (by rw [e]; rfl)
  rcases h4 with rfl | rfl | rfl | rfl
  · rw [no_pre (l := sg 0 ++ r) (p := sg 3) (fun t e => by simp [sg] at e), no_pre (l := sg 0 ++ r) (p := sg 2) (fun t e => by simp [sg] at e), no_pre (l := sg 0 ++ r) (p := sg 1) (fun t e => by simp [sg] at e; exact hr t e), yes 0, trim_eq]
    rfl
  · rw [no_pre (l := sg 1 ++ r) (p := sg 3) (fun t e => by simp [sg] at e), no_pre (l := sg 1 ++ r) (p := sg 2) (fun t e => by simp [sg] at e), yes 1, trim_eq]
    rfl
  · rw [no_pre (l := sg 2 ++ r) (p := sg 3) (fun t e => by simp [sg] at e; exact hr t e), yes 2, trim_eq]
    rfl
  · rw [yes 3, trim_eq]
    rfl
theorem d_sg {k : Nat} (hk : k < 4) {r : List UInt8} (h : r.getD 0 0 ≠ 105) : dM (sg k ++ r) + dI (sg k ++ r) = k ∧ (sg k ++ r).drop (1 + dI (sg k ++ r)) = r := by
  have h4 : k = 0 ∨ k = 1 ∨ k = 2 ∨ k = 3 := by omega
  have hg : ∀ a : UInt8, (a :: r).getD 1 0 = r.getD 0 0 := fun a => rfl
  rcases h4 with rfl | rfl | rfl | rfl
  · have e1 : dI (sg 0 ++ r) = 0 := by unfold dI; rw [show sg 0 ++ r = 43 :: r from rfl, hg]; exact if_neg (fun g => h g.1)
    have e2 : dM (sg 0 ++ r) = 0 := by unfold dM; rw [show sg 0 ++ r = 43 :: r from rfl]; rfl
    rw [e1, e2]
    exact ⟨rfl, rfl⟩
  · have e1 : dI (sg 1 ++ r) = 1 := by unfold dI; rw [show sg 1 ++ r = 43 :: 105 :: r from rfl]; exact if_pos ⟨rfl, by simp⟩
    have e2 : dM (sg 1 ++ r) = 0 := by unfold dM; rw [show sg 1 ++ r = 43 :: 105 :: r from rfl]; rfl
    rw [e1, e2]
    exact ⟨rfl, rfl⟩
  · have e1 : dI (sg 2 ++ r) = 0 := by unfold dI; rw [show sg 2 ++ r = 45 :: r from rfl, hg]; exact if_neg (fun g => h g.1)
    have e2 : dM (sg 2 ++ r) = 2 := by unfold dM; rw [show sg 2 ++ r = 45 :: r from rfl]; exact if_pos ⟨rfl, by simp⟩
    rw [e1, e2]
    exact ⟨rfl, rfl⟩
  · have e1 : dI (sg 3 ++ r) = 1 := by unfold dI; rw [show sg 3 ++ r = 45 :: 105 :: r from rfl]; exact if_pos ⟨rfl, by simp⟩
    have e2 : dM (sg 3 ++ r) = 2 := by unfold dM; rw [show sg 3 ++ r = 45 :: 105 :: r from rfl]; exact if_pos ⟨rfl, by simp⟩
    rw [e1, e2]
    exact ⟨rfl, rfl⟩
theorem dMI (l : List UInt8) : dM l + dI l < 4 := by unfold dM dI; split <;> split <;> omega
theorem dP_rt (l : List UInt8) : rt (dP l) = true := by
  have := dMI l
  refine rt_iff.2 ⟨by unfold dP; simp only; omega, by unfold dP; simp only; omega, ?_, ?_, by unfold dP; simp only; omega, by unfold dP; simp only; omega⟩
  · unfold dP; simp only [Int.toNat_natCast]; exact rd_lt cx_le _ _
  · unfold dP; simp only [Int.toNat_natCast]; exact rd_lt cz_le _ _
/-- Both sides read a text alike. -/
theorem par_same (l : List UInt8) : parR l = if prt (dP l) = l then (dP l, 0) else (oP, 130) := by
  by_cases hp : prt (dP l) = l
  · rw [if_pos hp]
    have hMI := dMI l
    have hl : l = sg (dM l + dI l) ++ ltr (dP l) (dP l).n.toNat := by
      have := hp.symm
      unfold prt at this
      rw [show (dP l).ph.toNat = dM l + dI l by unfold dP; simp only [Int.toNat_natCast]] at this
      exact this
    have hok := ltr_ok (dP l) (dP l).n.toNat
    have hc := cut_sg hMI (head_ok hok)
    rw [← hl] at hc
    have hd := (d_sg hMI (head_ok hok)).2
    rw [← hl] at hd
    have hlen : (ltr (dP l) (dP l).n.toNat).length = min 64 (l.drop (1 + dI l)).length := by rw [ltr_len]; unfold dP; simp
    rw [hd] at hlen
    have hn : (dP l).n.toNat = (ltr (dP l) (dP l).n.toNat).length := (ltr_len _ _).symm
    unfold parR
    rw [hc]
    simp only
    rw [if_neg (by
      rintro (g | g | g)
      · omega
      · omega
      · rw [hok] at g; cases g)]
    congr 1
    refine P.ext' ?_ ?_ ?_ ?_
    · show ((ltr (dP l) (dP l).n.toNat).length : Int) = (dP l).n
      rw [ltr_len]
      have := (rt_iff.1 (dP_rt l)).1
      omega
    · show rd cx (ltr (dP l) (dP l).n.toNat) (ltr (dP l) (dP l).n.toNat).length = (dP l).x
      have e : (dP l).x = rd cx (l.drop (1 + dI l)) (min 64 (l.drop (1 + dI l)).length) := rfl
      rw [e, hd, ← hlen]
    · show rd cz (ltr (dP l) (dP l).n.toNat) (ltr (dP l) (dP l).n.toNat).length = (dP l).z
      have e : (dP l).z = rd cz (l.drop (1 + dI l)) (min 64 (l.drop (1 + dI l)).length) := rfl
      rw [e, hd, ← hlen]
    · rfl
  · rw [if_neg hp]
    unfold parR
    rw [if_pos]
    rcases Int.lt_or_le (cutP l).1 0 with g | g
    · exact .inl g
    · right
      by_cases g2 : 64 < (cutP l).2.length
      · exact .inl g2
      · right
        rw [Bool.eq_false_iff]
        intro hok
        obtain ⟨k, hk, hk1, hl⟩ := cut_is g
        generalize (cutP l).2 = r at *
        have hd := d_sg hk (head_ok hok)
        rw [← hl] at hd
        apply hp
        have e1 : dP l = ⟨(r.length : Int), rd cx r r.length, rd cz r r.length, (k : Int)⟩ := by
          unfold dP
          rw [hd.2, hd.1, Nat.min_eq_right (by omega)]
        rw [e1]
        unfold prt
        simp only [Int.toNat_natCast]
        rw [ltr_rd r _ _ hok]
        exact hl.symm
end Go.Proofs.YteknpejkooemjabDoor.Pau
