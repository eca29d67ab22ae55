/- Join, as it is walked. -/
import Derived.Test.YthpkmbgollollabDoorSs
import Derived.Deep.QuietTactic
import Derived.BigQuiet
import Derived.Deep.DeepBigQuietO
namespace Go.Proofs.YthpkmbgollollabDoor.Sca
open Go.RowKit Go.Lib Go.Shelf

theorem mixed_ok : Tryd.prog.follows .mixedOrders = true := by kernel_rfl
theorem wrapU (x : Int) : IntKind.u64.wrap x = x % 18446744073709551616 := by simp [IntKind.wrap, IntKind.bits, IntKind.signed]
theorem and_one (k : Nat) (h : k < 18446744073709551616) : bits .and .u64 (k : Int) 1 = ((k % 2 : Nat) : Int) := by
  rw [show (1 : Int) = ((1 : Nat) : Int) from rfl, u64_and_nat k 1 h (by decide), Nat.and_one_is_mod]
/-- What is shifted off, at the top of the word. -/
theorem rest_eq (m n : Nat) (hn : n ≤ 64) : IntKind.u64.wrap ((m : Int) * 2 ^ (64 - n)) = ((m % 2 ^ n * 2 ^ (64 - n) : Nat) : Int) := by
  rw [wrapU, show ((m : Int) * 2 ^ (64 - n)) = ((m * 2 ^ (64 - n) : Nat) : Int) from by rw [Int.natCast_mul, Int.natCast_pow]; rfl, ← Nat.mul_mod_mul_right, ← Nat.pow_add, show n + (64 - n) = 64 from by omega]
  rfl
theorem rhe_top (m n : Nat) (hn : n ≤ 64) : rhe m n = m / 2 ^ n + if 9223372036854775808 < m % 2 ^ n * 2 ^ (64 - n) ∨ 9223372036854775808 = m % 2 ^ n * 2 ^ (64 - n) ∧ m / 2 ^ n % 2 = 1 then 1 else 0 := by
  have hz : 0 < 2 ^ (64 - n) := Nat.two_pow_pos _
  have e : 2 ^ n * 2 ^ (64 - n) = 18446744073709551616 := by rw [← Nat.pow_add, show n + (64 - n) = 64 from by omega]
  have h1 : (2 ^ n < 2 * (m % 2 ^ n)) ↔ 9223372036854775808 < m % 2 ^ n * 2 ^ (64 - n) := by
    rw [← Nat.mul_lt_mul_right hz, e, Nat.mul_assoc]
    omega
  have h2 : (2 ^ n = 2 * (m % 2 ^ n)) ↔ 9223372036854775808 = m % 2 ^ n * 2 ^ (64 - n) := by
    rw [← Nat.mul_left_inj (a := 2 ^ (64 - n)) (by omega), e, Nat.mul_assoc]
    omega
  unfold rhe
  simp only [h1, h2]
theorem sRoundOff (m n : Nat) (hm : m < 18446744073709551616) (hn1 : 1 ≤ n) (hn : n ≤ 64) (w : World) :
    Calls Tryd.prog 68 #[.int .u64 (m : Int), .int .i64 (n : Int)] w fun e w' => e = .returned (.int .u64 (rhe m n : Int)) ∧ ∃ q, w' = w.drewN q := by
  have mixed := mixed_ok
  have hz : decide ((64 : Int) < (n : Int)) = false := decide_eq_false (by omega)
  have hz1 : (0 : Int) ≤ (n : Int) := by omega
  have hz2 : (0 : Int) ≤ 64 - (n : Int) := by omega
  have hr := rest_eq m n hn
  have hk : (m : Int) / 2 ^ n = ((m / 2 ^ n : Nat) : Int) := by rw [Int.natCast_ediv, Int.natCast_pow]; rfl
  have hk63 : m / 2 ^ n ≤ 9223372036854775808 := by
    have h2 : 2 ^ 1 ≤ 2 ^ n := Nat.pow_le_pow_right (by decide) hn1
    have h3 : m / 2 ^ n ≤ m / 2 ^ 1 := Nat.div_le_div_left h2 (by decide)
    omega
  rw [rhe_top m n hn]
  generalize m % 2 ^ n * 2 ^ (64 - n) = r at *
  generalize m / 2 ^ n = k at *
  have ha := and_one k (by omega)
  have hw : IntKind.u64.wrap ((k : Int) + 1) = (k : Int) + 1 := by rw [wrapU]; omega
  by_cases h1 : 9223372036854775808 < r
  · rw [if_pos (Or.inl h1)]
    have h1z : decide ((9223372036854775808 : Int) < (r : Int)) = true := decide_eq_true (by omega)
    clear h1 ha
    go_enter Tryd.func68, Tryd.ntmps68
    go_wp2
    go_big_quiet_o (fail)
    go_wp2
    go_ret
    exact ⟨rfl, _, rfl⟩
  have h1z : decide ((9223372036854775808 : Int) < (r : Int)) = false := decide_eq_false (by omega)
  by_cases h2 : 9223372036854775808 = r
  · have h2z : ((r : Int) == 9223372036854775808) = true := by rw [beq_iff_eq]; omega
    by_cases h3 : k % 2 = 1
    · rw [if_pos (Or.inr ⟨h2, h3⟩)]
      rw [h3] at ha
      clear h1 h2 h3
      go_enter Tryd.func68, Tryd.ntmps68
      go_wp2
      go_big_quiet_o (fail)
      go_wp2
      go_ret
      exact ⟨rfl, _, rfl⟩
    · rw [if_neg (by omega)]
      rw [show k % 2 = 0 from by omega] at ha
      clear h1 h2 h3
      go_enter Tryd.func68, Tryd.ntmps68
      go_wp2
      go_big_quiet_o (fail)
      go_wp2
      go_ret
      exact ⟨rfl, _, rfl⟩
  · rw [if_neg (by omega)]
    have h2z : ((r : Int) == 9223372036854775808) = false := by rw [beq_eq_false_iff_ne]; omega
    clear h1 h2 ha
    go_enter Tryd.func68, Tryd.ntmps68
    go_wp2
    go_big_quiet_o (fail)
    go_wp2
    go_ret
    exact ⟨rfl, _, rfl⟩
theorem sRoundOff_far (m n : Nat) (hm : m < 18446744073709551616) (hn : 64 < n) (w : World) :
    Calls Tryd.prog 68 #[.int .u64 (m : Int), .int .i64 (n : Int)] w fun e w' => e = .returned (.int .u64 (rhe m n : Int)) ∧ ∃ q, w' = w.drewN q := by
  have hz : decide ((64 : Int) < (n : Int)) = true := decide_eq_true (by omega)
  have h65 : 2 ^ 65 ≤ 2 ^ n := Nat.pow_le_pow_right (by decide) (by omega)
  rw [rhe_small (by omega)]
  clear h65
  go_enter Tryd.func68, Tryd.ntmps68
  go_wp2
  go_ret
  exact ⟨rfl, 0, rfl⟩
theorem sRoundOff_all (m n : Nat) (hm : m < 18446744073709551616) (hn1 : 1 ≤ n) (w : World) :
    Calls Tryd.prog 68 #[.int .u64 (m : Int), .int .i64 (n : Int)] w fun e w' => e = .returned (.int .u64 (rhe m n : Int)) ∧ ∃ q, w' = w.drewN q := by
  by_cases h : n ≤ 64
  · exact sRoundOff m n hm hn1 h w
  · exact sRoundOff_far m n hm (by omega) w
theorem rhe_le {m n k : Nat} (h : m < 2 ^ (k + n)) : rhe m n ≤ 2 ^ k := by
  have h1 : m / 2 ^ n < 2 ^ k := by
    rw [Nat.div_lt_iff_lt_mul (Nat.two_pow_pos n), ← Nat.pow_add]
    exact h
  unfold rhe
  split <;> omega
theorem rung_clamp (m : Nat) (e : Int) (h0 : m ≠ 0) (hm : m < 18446744073709551616) : rung m (min (max e (-1200)) 1100) = rung m e := by
  by_cases c1 : e < -1200
  · rw [rung_small m e hm (by omega), rung_small m _ hm (by omega)]
  · by_cases c2 : 1100 < e
    · rw [rung_great m e h0 (by omega), rung_great m _ h0 (by omega)]
    · rw [show min (max e (-1200)) 1100 = e from by omega]
theorem or_sg (sg f : Nat) (hs : sg = 0 ∨ sg = 9223372036854775808) (hf : f < 9223372036854775808) : bits .or .u64 (sg : Int) (f : Int) = ((sg + f : Nat) : Int) := by
  rcases hs with rfl | rfl
  · rw [u64_or_nat 0 f (by decide) (by omega), Nat.zero_or, Nat.zero_add]
  · rw [u64_or_nat 9223372036854775808 f (by decide) (by omega), Nat.or_comm, or_top f hf, Nat.add_comm]
theorem bl_pos {m : Nat} (h : m ≠ 0) : bl m = m.log2 + 1 := by unfold bl; rw [if_neg h]

set_option maxRecDepth 100000 in
theorem sPack (sg m : Nat) (e : Int) (hs : sg = 0 ∨ sg = 9223372036854775808) (hm : m < 18446744073709551616) (h0 : m ≠ 0) (w : World) :
    Calls Tryd.prog 53 #[.int .u64 (sg : Int), .int .u64 (m : Int), .int .i64 e] w fun e' w' => e' = .returned (.float .f64 (sg + rung m e)) ∧ ∃ q, w' = w.drewN q := by
  have cL := fun w => len64 m hm w
  have hz : ((m : Int) == 0) = false := by rw [beq_eq_false_iff_ne]; omega
  rw [← rung_clamp m e h0 hm]
  have hEb : -1200 ≤ min (max e (-1200)) 1100 ∧ min (max e (-1200)) 1100 ≤ 1100 := by omega
  generalize hE : min (max e (-1200)) 1100 = E at *
  obtain ⟨hE1, hE2⟩ := hEb
  have hbl := bl_lt (m := m) (k := 64) hm
  have hblp := bl_pos h0
  have hlog : m < 2 ^ (m.log2 + 1) := Nat.lt_log2_self
  rw [← hblp] at hlog
  obtain ⟨L, hL⟩ : ∃ L, max (E + (bl m : Int) - 52 - 1) (-1074) = L := ⟨_, rfl⟩
  have hLP : lastP m E = L := by unfold lastP; omega
  have hL1 : -1074 ≤ L ∧ L ≤ 1111 ∧ E + (bl m : Int) - 53 ≤ L := by omega
  have hL3 : L = -1074 ∨ L = E + (bl m : Int) - 53 := by omega
  have hrung : rung m E = min ((L + 1074).toNat * 4503599627370496 + rhe (m * 2 ^ (E - L).toNat) (L - E).toNat) 9218868437227405312 := by unfold rung; rw [if_neg h0, hLP]
  rw [hrung]
  clear hrung hLP hblp
  generalize bl m = k at *
  by_cases c : E < L
  · have cz : decide (E < L) = true := decide_eq_true c
    obtain ⟨n, hn⟩ : ∃ n : Nat, L - E = (n : Int) := ⟨(L - E).toNat, by omega⟩
    have hn1 : 1 ≤ n := by omega
    have hR : rhe m n ≤ 2 ^ 53 := rhe_le (Nat.lt_of_lt_of_le hlog (Nat.pow_le_pow_right (by decide) (by omega)))
    have cR := fun w => sRoundOff_all m n hm hn1 w
    rw [show (E - L).toNat = 0 from by omega, show (L - E).toNat = n from by omega, Nat.pow_zero, Nat.mul_one]
    generalize rhe m n = R at *
    obtain ⟨B, hB⟩ : ∃ B, (L + 1074).toNat * 4503599627370496 + R = B := ⟨_, rfl⟩
    have hBz : IntKind.u64.wrap ((L + 1074) * 4503599627370496 + (R : Int)) = (B : Int) := by rw [wrapU]; omega
    obtain ⟨F, hF⟩ : ∃ F, min B 9218868437227405312 = F := ⟨_, rfl⟩
    have hFz : min (B : Int) 9218868437227405312 = (F : Int) := by omega
    have hO := or_sg sg F hs (by omega)
    rw [hB, hF]
    clear hB hF hL3 hlog c hm h0 hs
    generalize sg + F = z at *
    go_enter Tryd.func53, Tryd.ntmps53
    go_wp2_with (go_at_call 40; refine (cL _).mono ?_; rintro e w' ⟨rfl, rfl⟩)
    refine (cR _).mono ?_
    rintro e1 w1 ⟨rfl, q, rfl⟩
    go_wp2_with (go_at_call 69; refine (sOf z _).mono ?_; rintro e2 w2 ⟨rfl, rfl⟩)
    go_ret
    exact ⟨rfl, q, rfl⟩
  · have cz : decide (E < L) = false := decide_eq_false c
    obtain ⟨n, hn⟩ : ∃ n : Nat, E - L = (n : Int) := ⟨(E - L).toNat, by omega⟩
    have hn53 : n + k ≤ 53 := by omega
    have hM : m * 2 ^ n < 2 ^ 53 := by
      have h2 : 2 ^ k * 2 ^ n ≤ 2 ^ 53 := by rw [← Nat.pow_add]; exact Nat.pow_le_pow_right (by decide) (by omega)
      have h3 : m * 2 ^ n < 2 ^ k * 2 ^ n := Nat.mul_lt_mul_of_pos_right hlog (Nat.two_pow_pos n)
      omega
    have hMz : IntKind.u64.wrap ((m : Int) * 2 ^ n) = ((m * 2 ^ n : Nat) : Int) := by
      rw [wrapU, show ((m : Int) * 2 ^ n) = ((m * 2 ^ n : Nat) : Int) from by rw [Int.natCast_mul, Int.natCast_pow]; rfl]
      omega
    rw [show (E - L).toNat = n from by omega, show (L - E).toNat = 0 from by omega, rhe_zero]
    generalize hR : m * 2 ^ n = R at *
    obtain ⟨B, hB⟩ : ∃ B, (L + 1074).toNat * 4503599627370496 + R = B := ⟨_, rfl⟩
    have hBz : IntKind.u64.wrap ((L + 1074) * 4503599627370496 + (R : Int)) = (B : Int) := by rw [wrapU]; omega
    obtain ⟨F, hF⟩ : ∃ F, min B 9218868437227405312 = F := ⟨_, rfl⟩
    have hFz : min (B : Int) 9218868437227405312 = (F : Int) := by omega
    have hO := or_sg sg F hs (by omega)
    rw [hB, hF]
    have hnz : (0 : Int) ≤ (n : Int) := by omega
    clear hB hF hL3 hlog c hm h0 hs hR hn53
    generalize sg + F = z at *
    go_enter Tryd.func53, Tryd.ntmps53
    go_wp2_with (go_at_call 40; refine (cL _).mono ?_; rintro e w' ⟨rfl, rfl⟩)
    refine (sOf z _).mono ?_
    rintro e2 w2 ⟨rfl, rfl⟩
    go_wp2
    go_ret
    exact ⟨rfl, 0, rfl⟩
theorem sPack_zero (sg : Nat) (e : Int) (w : World) :
    Calls Tryd.prog 53 #[.int .u64 (sg : Int), .int .u64 0, .int .i64 e] w fun e' w' => e' = .returned (.float .f64 0) ∧ ∃ q, w' = w.drewN q := by
  go_enter Tryd.func53, Tryd.ntmps53
  go_wp2
  go_ret
  exact ⟨rfl, 0, rfl⟩
/-- What Join answers: the bits. -/
def joinB (m e : Int) : Nat := (if m < 0 then 9223372036854775808 else 0) + rung m.natAbs e
theorem sJoin (m e : Int) (h1 : -9223372036854775808 ≤ m) (h2 : m ≤ 9223372036854775807) (w : World) :
    Calls Tryd.prog 43 #[.int .i64 m, .int .i64 e] w fun e' w' => e' = .returned (.float .f64 (joinB m e)) ∧ ∃ q, w' = w.drewN q := by
  unfold joinB
  by_cases c : m < 0
  · have cz : decide (m < 0) = true := decide_eq_true c
    rw [if_pos c]
    obtain ⟨k, hk⟩ : ∃ k : Nat, m.natAbs = k := ⟨_, rfl⟩
    have cP := fun w => sPack 9223372036854775808 k e (Or.inr rfl) (by omega) (by omega) w
    rw [hk]
    have hw : IntKind.u64.wrap (Go.RowKit.wrap64 (-m)) = (k : Int) := by
      rw [wrapU]
      unfold Go.RowKit.wrap64
      omega
    clear c
    go_enter Tryd.func43, Tryd.ntmps43
    go_wp2_with fail
    refine (cP _).mono ?_
    rintro e1 w1 ⟨rfl, q, rfl⟩
    go_wp2
    go_ret
    exact ⟨rfl, q, rfl⟩
  · have cz : decide (m < 0) = false := decide_eq_false c
    rw [if_neg c]
    obtain ⟨k, rfl⟩ : ∃ k : Nat, m = (k : Int) := ⟨m.toNat, by omega⟩
    rw [Int.natAbs_natCast, Nat.zero_add]
    by_cases k0 : k = 0
    · subst k0
      rw [show rung 0 e = 0 from rfl]
      have cP := fun w => sPack_zero 0 e w
      go_enter Tryd.func43, Tryd.ntmps43
      go_wp2_with fail
      refine (cP _).mono ?_
      rintro e1 w1 ⟨rfl, q, rfl⟩
      go_wp2
      go_ret
      exact ⟨rfl, q, rfl⟩
    · have cP := fun w => sPack 0 k e (Or.inl rfl) (by omega) k0 w
      rw [Nat.zero_add] at cP
      go_enter Tryd.func43, Tryd.ntmps43
      go_wp2_with fail
      refine (cP _).mono ?_
      rintro e1 w1 ⟨rfl, q, rfl⟩
      go_wp2
      go_ret
      exact ⟨rfl, q, rfl⟩
end Go.Proofs.YthpkmbgollollabDoor.Sca
