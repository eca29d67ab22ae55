/- What is printed is read back, whole. -/
import Derived.Test.YtnpdfkcjjedamaaGreatDoorBa
namespace Go.Proofs.YtnpdfkcjjedamaaGreatDoor.Sca
open Go.RowKit Go.Lib Go.Shelf Go.Proofs.YtnpdfkcjjedamaaGreatDoor.Oct

theorem bl_bounds (M : Nat) (h0 : M ≠ 0) : 2 ^ (bl M - 1) ≤ M ∧ M < 2 ^ bl M ∧ 1 ≤ bl M := by
  rw [bl_pos h0]
  exact ⟨by rw [Nat.add_sub_cancel]; exact Nat.log2_self_le h0, Nat.lt_log2_self, by omega⟩
theorem sixteen (k : Nat) : 16 ^ k = 2 ^ (4 * k) := by rw [Nat.pow_mul]
/-- The digits behind the point, of an odd number of at most 53 bits. -/
theorem fr_spec (M : Nat) (h0 : M ≠ 0) (hM : M < 9007199254740992) : ∃ fr, M * 2 ^ (64 - bl M) * 2 % 18446744073709551616 = fr ∧ fr < 18446744073709551616 ∧ fr + 18446744073709551616 = M * 2 ^ (65 - bl M) ∧ fr * 16 ^ 13 % 18446744073709551616 = 0 := by
  obtain ⟨h1, h2, h3⟩ := bl_bounds M h0
  have hn : bl M ≤ 53 := bl_lt (show M < 2 ^ 53 from hM)
  have hX : M * 2 ^ (64 - bl M) * 2 = M * 2 ^ (65 - bl M) := by rw [Nat.mul_assoc, ← Nat.pow_succ, show (64 - bl M).succ = 65 - bl M from by omega]
  have hlo : 18446744073709551616 ≤ M * 2 ^ (65 - bl M) := by
    have : 2 ^ (bl M - 1) * 2 ^ (65 - bl M) ≤ M * 2 ^ (65 - bl M) := Nat.mul_le_mul_right _ h1
    rw [← Nat.pow_add, show bl M - 1 + (65 - bl M) = 64 from by omega] at this
    exact this
  have hhi : M * 2 ^ (65 - bl M) < 36893488147419103232 := by
    have : M * 2 ^ (65 - bl M) < 2 ^ bl M * 2 ^ (65 - bl M) := Nat.mul_lt_mul_of_pos_right h2 (Nat.two_pow_pos _)
    rw [← Nat.pow_add, show bl M + (65 - bl M) = 65 from by omega] at this
    exact this
  have hmul : M * 2 ^ (65 - bl M) * 16 ^ 13 = M * 2 ^ (53 - bl M) * 18446744073709551616 := by
    rw [Nat.mul_assoc, Nat.mul_assoc, sixteen, show (18446744073709551616 : Nat) = 2 ^ 64 from rfl, ← Nat.pow_add, ← Nat.pow_add, show 65 - bl M + 4 * 13 = 53 - bl M + 64 from by omega]
  refine ⟨_, rfl, Nat.mod_lt _ (by decide), ?_, ?_⟩
  · rw [hX]
    generalize M * 2 ^ (65 - bl M) = X at *
    omega
  · rw [hX, Nat.mod_mul_mod, hmul, Nat.mul_mod_left]
theorem digits_eq (M fr k v : Nat) (h0 : M ≠ 0) (hM : M < 9007199254740992) (hf : fr + 18446744073709551616 = M * 2 ^ (65 - bl M)) (hv : v * 18446744073709551616 = fr * 16 ^ k) : (16 ^ k + v) * 2 ^ (bl M - 1) = M * 2 ^ (4 * k) := by
  obtain ⟨_, _, h3⟩ := bl_bounds M h0
  have hn : bl M ≤ 53 := bl_lt (show M < 2 ^ 53 from hM)
  refine Nat.eq_of_mul_eq_mul_right (Nat.two_pow_pos (65 - bl M)) ?_
  have e1 : (16 ^ k + v) * 2 ^ (bl M - 1) * 2 ^ (65 - bl M) = (16 ^ k + v) * 18446744073709551616 := by
    rw [Nat.mul_assoc, ← Nat.pow_add, show bl M - 1 + (65 - bl M) = 64 from by omega]
  have e2 : (16 ^ k + v) * 18446744073709551616 = (fr + 18446744073709551616) * 16 ^ k := by
    rw [Nat.add_mul, Nat.add_mul, hv, Nat.mul_comm (16 ^ k), Nat.add_comm]
  rw [e1, e2, hf, sixteen, Nat.mul_right_comm]
/-- A finite number that is not nought, read back from its text. -/
theorem read_num_back (b : Nat) (hb : b < 18446744073709551616) (h : mg b < 9218868437227405312) (h0 : mg b ≠ 0) : readB (numB b) = some b := by
  have hm0 : mOf b ≠ 0 := fun e => h0 ((mOf_zero b).1 e)
  have hm := mOf_lt b
  obtain ⟨ho1, ho2⟩ := odd_mul (mOf b) hm0 (by omega)
  have hol := odd_le (mOf b)
  have hM0 : odd (mOf b) ≠ 0 := by omega
  obtain ⟨fr, hfr, hf1, hf2, hf3⟩ := fr_spec (odd (mOf b)) hM0 (by omega)
  have hbl : bl (odd (mOf b)) ≤ 53 := bl_lt (show odd (mOf b) < 2 ^ 53 by omega)
  obtain ⟨_, _, hbl1⟩ := bl_bounds (odd (mOf b)) hM0
  have hE : slE b = spE b := by unfold slE; rw [if_pos h]
  have hbd := slE_bd b
  rw [hE] at hbd
  have hsE : spE b = pOf b + (tz (mOf b) : Int) := by unfold spE; rw [if_neg h0]
  have hz := (tz_spec (mOf b) hm0 (by omega)).2
  have hpo : pOf b ≤ 971 := by unfold pOf; omega
  have hpw : pwB b = spE b + (bl (odd (mOf b)) : Int) - 1 := rfl
  have htx : numB b = txt (decide (sb b ≠ 0)) fr (pwB b) := by
    unfold numB txt mnsB
    rw [show frB b = fr from hfr, can_fin b h]
    by_cases c : sb b = 0
    · rw [if_neg (fun e => e c), decide_eq_false (fun e => e c)]; rfl
    · rw [if_pos c, decide_eq_true c]; rfl
  obtain ⟨k, v, hk, hv, hr⟩ := readN_txt (decide (sb b ≠ 0)) fr hf1 hf3 (pwB b) (by omega) (by omega)
  rw [htx, readB_txt, hr]
  have hdig := digits_eq (odd (mOf b)) fr k v hM0 (by omega) hf2 hv
  have hru : rung (16 ^ k + v) (pwB b - 4 * (k : Int)) = mg b := by
    rw [← rung_scale (16 ^ k + v) (bl (odd (mOf b)) - 1), hdig, show pwB b - 4 * (k : Int) - ((bl (odd (mOf b)) - 1 : Nat) : Int) = spE b - ((4 * k : Nat) : Int) from by omega, rung_scale, ← rung_scale (odd (mOf b)) (tz (mOf b)), ho1, hsE, show pOf b + (tz (mOf b) : Int) - (tz (mOf b) : Int) = pOf b from by omega]
    exact rung_read b h
  have h16 : 0 < 16 ^ k := Nat.pow_pos (by decide)
  have hj : joinB (if decide (sb b ≠ 0) = true then -((16 ^ k + v : Nat) : Int) else ((16 ^ k + v : Nat) : Int)) (pwB b - 4 * (k : Int)) = b := by
    have hsum := mg_sb b
    rcases sb_eq b hb with hs | hs
    · rw [show (if decide (sb b ≠ 0) = true then -((16 ^ k + v : Nat) : Int) else ((16 ^ k + v : Nat) : Int)) = ((16 ^ k + v : Nat) : Int) from if_neg (by rw [hs]; decide)]
      unfold joinB
      rw [if_neg (by omega), Int.natAbs_natCast, hru]
      omega
    · rw [show (if decide (sb b ≠ 0) = true then -((16 ^ k + v : Nat) : Int) else ((16 ^ k + v : Nat) : Int)) = -((16 ^ k + v : Nat) : Int) from if_pos (by rw [hs]; decide)]
      unfold joinB
      rw [if_pos (by omega), Int.natAbs_neg, Int.natAbs_natCast, hru]
      omega
  rw [hj]
theorem can_sb (b : Nat) (h : ¬ 9218868437227405312 < mg b) : sb (can b) = sb b := by rw [can_num b h]
theorem read_back (b : Nat) (hb : b < 18446744073709551616) : readB (prB b) = some (can b) := by
  have hsum := mg_sb b
  have hse := sb_eq b hb
  unfold prB
  by_cases h1 : 9218868437227405312 < mg b
  · rw [if_pos h1, can_nan b h1]; rfl
  · rw [if_neg h1, can_num b h1]
    by_cases h2 : mg b = 9218868437227405312
    · rw [if_pos h2]
      unfold mnsB
      rw [can_num b h1]
      rcases hse with hs | hs
      · rw [hs, if_neg (fun e => e rfl), show b = 9218868437227405312 from by omega]; rfl
      · rw [hs, if_pos (by decide), show b = 18442240474082181120 from by omega]; rfl
    · rw [if_neg h2]
      by_cases h3 : mg b = 0
      · rw [if_pos h3]
        unfold mnsB
        rw [can_num b h1]
        rcases hse with hs | hs
        · rw [hs, if_neg (fun e => e rfl), show b = 0 from by omega]; rfl
        · rw [hs, if_pos (by decide), show b = 9223372036854775808 from by omega]; rfl
      · rw [if_neg h3]
        exact read_num_back b hb (by omega) h3
theorem pr_can (b : Nat) : prB (can b) = prB b := by
  by_cases h1 : 9218868437227405312 < mg b
  · have h2 := mg_can b h1
    unfold prB
    rw [if_pos h1, if_pos (by omega)]
  · rw [can_num b h1]
theorem par_back (b : Nat) (hb : b < 18446744073709551616) : parOk (prB b) = true := by
  unfold parOk
  rw [read_back b hb]
  show decide (prB (can b) = prB b) = true
  exact decide_eq_true (pr_can b)
end Go.Proofs.YtnpdfkcjjedamaaGreatDoor.Sca
