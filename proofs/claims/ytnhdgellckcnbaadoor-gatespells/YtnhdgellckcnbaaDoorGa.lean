/- Floats of whole numbers of a power of two: taken apart again. -/
import Derived.Test.YtnhdgellckcnbaaDoorSk
import Derived.Test.YtnhdgellckcnbaaDoorDa
namespace Go.Proofs.YtnhdgellckcnbaaDoor.Dy
open Go.RowKit Go.Shelf Go.Proofs.YtnhdgellckcnbaaDoor.Sca

theorem tz_uniq : ∀ (a b k l : Nat), 2 ^ a * (2 * k + 1) = 2 ^ b * (2 * l + 1) → a = b
  | 0, 0, _, _, _ => rfl
  | 0, b + 1, k, l, h => by rw [Nat.pow_zero, Nat.pow_succ, Nat.mul_comm (2 ^ b) 2, Nat.mul_assoc] at h; omega
  | a + 1, 0, k, l, h => by rw [Nat.pow_zero, Nat.pow_succ, Nat.mul_comm (2 ^ a) 2, Nat.mul_assoc] at h; omega
  | a + 1, b + 1, k, l, h => by
    rw [Nat.pow_succ, Nat.mul_comm (2 ^ a) 2, Nat.mul_assoc, Nat.pow_succ, Nat.mul_comm (2 ^ b) 2, Nat.mul_assoc] at h
    rw [tz_uniq a b k l (by omega)]
theorem tz_of_odd (o k : Nat) (ho : o % 2 = 1) (h : o * 2 ^ k < 18446744073709551616) : tz (o * 2 ^ k) = k := by
  have h0 : o * 2 ^ k ≠ 0 := Nat.mul_ne_zero (by omega) (Nat.ne_of_gt (Nat.pow_pos (by decide)))
  obtain ⟨⟨j, hj⟩, _⟩ := tz_spec _ h0 h
  have : 2 ^ k * (2 * (o / 2) + 1) = 2 ^ tz (o * 2 ^ k) * (2 * j + 1) := by rw [← hj, Nat.mul_comm o]; congr 1; omega
  exact (tz_uniq _ _ _ _ this).symm
theorem odd_of_odd (o k : Nat) (ho : o % 2 = 1) (h : o * 2 ^ k < 18446744073709551616) : odd (o * 2 ^ k) = o := by
  unfold odd
  rw [tz_of_odd o k ho h]
  exact Nat.mul_div_cancel _ (Nat.pow_pos (by decide))
/-- The float of an odd number below 2^53 over a power. -/
theorem rung_odd (o : Nat) (f : Int) (ho : o % 2 = 1) (hlt : o < 9007199254740992) (hf1 : -1000 ≤ f) (hf2 : f ≤ 900) :
    ∃ k : Nat, k ≤ 52 ∧ 4503599627370496 ≤ o * 2 ^ k ∧ o * 2 ^ k < 9007199254740992 ∧ rung o f = (f - k + 1074).toNat * 4503599627370496 + o * 2 ^ k ∧ rung o f < 9218868437227405312 := by
  have h0 : o ≠ 0 := by omega
  have hl1 : 2 ^ o.log2 ≤ o := Nat.log2_self_le h0
  have hl2 : o < 2 ^ (o.log2 + 1) := Nat.lt_log2_self
  have hl : o.log2 ≤ 52 := log2_le (k := 52) hlt
  refine ⟨52 - o.log2, by omega, ?_, ?_, ?_⟩
  · have := Nat.mul_le_mul_right (2 ^ (52 - o.log2)) hl1
    rw [← Nat.pow_add, show o.log2 + (52 - o.log2) = 52 by omega] at this
    exact this
  · have := Nat.mul_lt_mul_of_pos_right hl2 (show 0 < 2 ^ (52 - o.log2) from Nat.pow_pos (by decide))
    rw [← Nat.pow_add, show o.log2 + 1 + (52 - o.log2) = 53 by omega] at this
    exact this
  · have g1 : 4503599627370496 ≤ o * 2 ^ (52 - o.log2) := by
      have := Nat.mul_le_mul_right (2 ^ (52 - o.log2)) hl1
      rw [← Nat.pow_add, show o.log2 + (52 - o.log2) = 52 by omega] at this
      exact this
    have g2 : o * 2 ^ (52 - o.log2) < 9007199254740992 := by
      have := Nat.mul_lt_mul_of_pos_right hl2 (show 0 < 2 ^ (52 - o.log2) from Nat.pow_pos (by decide))
      rw [← Nat.pow_add, show o.log2 + 1 + (52 - o.log2) = 53 by omega] at this
      exact this
    have hs := rung_scale o (52 - o.log2) f
    rw [← hs, rung_normal _ _ g1 g2 (by omega)]
    generalize o * 2 ^ (52 - o.log2) = m at *
    omega
theorem mg_join (m e : Int) : mg (joinB m e) = rung m.natAbs e ∧ (sb (joinB m e) = if m < 0 then 9223372036854775808 else 0) ∧ joinB m e < 18446744073709551616 := by
  have := rung_le m.natAbs e
  unfold joinB mg sb
  split <;> omega
/-- An odd number over a power, made a float, is taken apart again. -/
theorem split_odd (s : Int) (f : Int) (ho : s.natAbs % 2 = 1) (hlt : s.natAbs < 9007199254740992) (hf1 : -1000 ≤ f) (hf2 : f ≤ 900) :
    mg (joinB s f) < 9218868437227405312 ∧ mg (joinB s f) ≠ 0 ∧ slM (joinB s f) = s ∧ slE (joinB s f) = f ∧ spF (joinB s f) = 0 := by
  obtain ⟨k, hk, h1, h2, h3, h4⟩ := rung_odd s.natAbs f ho hlt hf1 hf2
  obtain ⟨g1, g2, _⟩ := mg_join s f
  generalize joinB s f = b at *
  rw [← g1] at h3 h4
  generalize hm : s.natAbs * 2 ^ k = m at *
  have e1 : mOf b = m := by unfold mOf; rw [h3]; rw [if_neg (by omega)]; omega
  have e2 : pOf b = f - k := by unfold pOf; rw [h3]; omega
  have e3 : tz (mOf b) = k := by rw [e1, ← hm]; exact tz_of_odd _ _ ho (by omega)
  have e4 : odd (mOf b) = s.natAbs := by rw [e1, ← hm]; exact odd_of_odd _ _ ho (by omega)
  have hne : mg b ≠ 0 := by omega
  refine ⟨h4, hne, ?_, ?_, ?_⟩
  · unfold slM spM
    rw [if_pos h4, if_neg hne, e4, g2]
    split <;> split <;> omega
  · unfold slE spE
    rw [if_pos h4, if_neg hne, e2, e3]
    omega
  · unfold spF; rw [if_pos h4]
theorem join_zero (e : Int) : joinB 0 e = 0 := by unfold joinB rung; simp
theorem join_scale (s : Int) (t : Nat) (f : Int) : joinB (s * 2 ^ t) (f - t) = joinB s f := by
  unfold joinB
  rw [Int.natAbs_mul, Int.natAbs_pow, show (2 : Int).natAbs = 2 from rfl, rung_scale]
  have : (s * 2 ^ t < 0) ↔ (s < 0) := by
    have hp := pow_pos' t
    constructor
    · intro h
      rcases Int.lt_or_le s 0 with c | c
      · exact c
      · have := Int.mul_nonneg c (Int.le_of_lt hp); omega
    · intro h; exact Int.mul_neg_of_neg_of_pos h hp
  by_cases c : s < 0
  · rw [if_pos c, if_pos (this.2 c)]
  · rw [if_neg c, if_neg (fun h => c (this.1 h))]
/-- A whole number is an odd one times a power of two. -/
theorem odd_part (x : Int) (h0 : x ≠ 0) (hx : x.natAbs ≤ 9007199254740992) : ∃ (s : Int) (t : Nat), x = s * 2 ^ t ∧ s.natAbs % 2 = 1 ∧ s.natAbs < 9007199254740992 ∧ t ≤ 53 := by
  have hn : x.natAbs ≠ 0 := by omega
  obtain ⟨⟨k, hk⟩, ht⟩ := tz_spec x.natAbs hn (by omega)
  have ht53 : tz x.natAbs ≤ 53 := by
    rcases Nat.lt_or_ge 53 (tz x.natAbs) with h | h
    · have h1 : 2 ^ 54 ≤ 2 ^ tz x.natAbs := Nat.pow_le_pow_right (by decide) h
      have h2 : 2 ^ tz x.natAbs * 1 ≤ 2 ^ tz x.natAbs * (2 * k + 1) := Nat.mul_le_mul_left _ (by omega)
      rw [← hk] at h2
      omega
    · exact h
  generalize tz x.natAbs = t at *
  have hb : 2 * k + 1 < 9007199254740992 := by
    have h2 : 1 * (2 * k + 1) ≤ 2 ^ t * (2 * k + 1) := Nat.mul_le_mul_right _ (Nat.pow_pos (by decide))
    rw [← hk] at h2
    omega
  rcases Int.lt_or_le x 0 with c | c
  · refine ⟨-((2 * k + 1 : Nat) : Int), t, ?_, by rw [Int.natAbs_neg, Int.natAbs_natCast]; omega, by rw [Int.natAbs_neg, Int.natAbs_natCast]; exact hb, ht53⟩
    have : x = -((x.natAbs : Nat) : Int) := by omega
    rw [this, hk, Int.natCast_mul, Int.natCast_pow, Int.neg_mul, Int.mul_comm]
    rfl
  · refine ⟨((2 * k + 1 : Nat) : Int), t, ?_, by rw [Int.natAbs_natCast]; omega, by rw [Int.natAbs_natCast]; exact hb, ht53⟩
    have : x = ((x.natAbs : Nat) : Int) := by omega
    rw [this, hk, Int.natCast_mul, Int.natCast_pow, Int.mul_comm]
    rfl
end Go.Proofs.YtnhdgellckcnbaaDoor.Dy
