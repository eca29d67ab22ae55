/- The document's own rounding, whole. -/
import Derived.Test.YtnpdfkcjjedamaaGreatDoorQb
namespace Go.Proofs.YtnpdfkcjjedamaaGreatDoor.Sca
open Go.RowKit Go.Lib Go.Shelf

set_option maxRecDepth 100000 in
theorem rd_far (m k n : Nat) (e L : Int) (h0z : ((m : Int) == 0) = false) (h0y : (m == 0) = false) (h1z : decide (e < -3000) = false) (h2z : decide (3000 < e) = false) (he1 : -3000 ≤ e) (he2 : e ≤ 3000) (hk : k ≤ 64) (hL : max (e + (k : Int) - 1 - 52) (-1074) = L) (hn : L - e = (n : Int)) (hn2 : n ≤ 7000)
    (cz1 : decide ((n : Int) ≤ 0) = false) (cz2 : decide (n = 0) = false) (cz4 : decide ((64 : Int) < (n : Int)) = true) (cz5 : decide (64 < n) = true)
    (cB : ∀ w, Calls Tryz.prog 73 #[.int .u64 (m : Int)] w fun e w' => e = .returned (.int .i64 (k : Int)) ∧ w' = w) (w : World) :
    Calls Tryz.prog 54 #[.int .u64 (m : Int), .int .i64 e, .bool false] w fun e' w' => e' = .returned (.float .f64 0) ∧ ∃ q, w' = w.drewN q := by
  have hu : True := by
    have := h0z
    have := h0y
    have := h1z
    have := h2z
    have := he1
    have := he2
    have := hk
    have := hL
    have := hn
    have := hn2
    have := cz1
    have := cz2
    have := cz4
    have := cz5
    trivial
  clear hu
  have mixed := mixed_ok
  go_enter Tryz.func54, Tryz.ntmps54
  go_wp2_with (go_at_call 73; refine (cB _).mono ?_; rintro e w' ⟨rfl, hw⟩; obtain rfl := hw.symm)
  go_ret
  exact ⟨rfl, 0, rfl⟩
set_option maxRecDepth 100000 in
set_option maxHeartbeats 1000000 in
/-- The document's rounding. -/
theorem qRounded (m : Nat) (e : Int) (hm : m < 18446744073709551616) (he1 : -9223372036854775808 ≤ e) (he2 : e ≤ 9223372036854775807) (w : World) :
    Calls Tryz.prog 54 #[.int .u64 (m : Int), .int .i64 e, .bool false] w fun e' w' => e' = .returned (.float .f64 (rung m e)) ∧ ∃ q, w' = w.drewN q := by
  have mixed := mixed_ok
  have cO := fun w => qOf 9218868437227405312 w
  by_cases h0 : m = 0
  · subst h0
    rw [show rung 0 e = 0 from rfl]
    go_enter Tryz.func54, Tryz.ntmps54
    go_wp2
    go_ret
    exact ⟨rfl, 0, rfl⟩
  have h0z : ((m : Int) == 0) = false := by rw [beq_eq_false_iff_ne]; omega
  by_cases h1 : e < -3000
  · have h1z : decide (e < -3000) = true := decide_eq_true h1
    rw [rung_small m e hm (by omega)]
    clear h1
    go_enter Tryz.func54, Tryz.ntmps54
    go_wp2
    go_ret
    exact ⟨rfl, 0, rfl⟩
  have h1z : decide (e < -3000) = false := decide_eq_false h1
  by_cases h2 : 3000 < e
  · have h2z : decide (3000 < e) = true := decide_eq_true h2
    rw [rung_great m e h0 (by omega)]
    clear h1 h2
    go_enter Tryz.func54, Tryz.ntmps54
    go_wp2_with (go_at_call 14; refine (cO _).mono ?_; rintro e w' ⟨rfl, rfl⟩)
    go_ret
    exact ⟨rfl, 0, rfl⟩
  have h2z : decide (3000 < e) = false := decide_eq_false h2
  have hbl := bl_lt (m := m) (k := 64) hm
  have hblp := bl_pos h0
  have hlog : m < 2 ^ (m.log2 + 1) := Nat.lt_log2_self
  have hlog2 : 2 ^ m.log2 ≤ m := Nat.log2_self_le h0
  have cB := fun w => qBitsN m hm w
  obtain ⟨L, hL⟩ : ∃ L, max (e + (bl m : Int) - 1 - 52) (-1074) = L := ⟨_, rfl⟩
  have hLP : lastP m e = L := by unfold lastP; omega
  have hL1 : -1074 ≤ L ∧ L ≤ 3100 ∧ e + (bl m : Int) - 53 ≤ L := by omega
  have hrung : rung m e = min ((L + 1074).toNat * 4503599627370496 + rhe (m * 2 ^ (e - L).toNat) (L - e).toNat) 9218868437227405312 := by unfold rung; rw [if_neg h0, hLP]
  rw [hrung]
  clear cO
  by_cases c : L - e ≤ 0
  · have cz : decide (L - e ≤ 0) = true := decide_eq_true c
    obtain ⟨n, hn⟩ : ∃ n : Nat, e - L = (n : Int) := ⟨(e - L).toNat, by omega⟩
    have hn53 : n + bl m ≤ 53 := by omega
    have hM : m * 2 ^ n < 2 ^ 53 := by
      have h2 : 2 ^ bl m * 2 ^ n ≤ 2 ^ 53 := by rw [← Nat.pow_add]; exact Nat.pow_le_pow_right (by decide) (by omega)
      have h3 : m * 2 ^ n < 2 ^ bl m * 2 ^ n := Nat.mul_lt_mul_of_pos_right (by rw [hblp]; exact hlog) (Nat.two_pow_pos n)
      omega
    have hMz : IntKind.u64.wrap ((m : Int) * 2 ^ n) = ((m * 2 ^ n : Nat) : Int) := by
      rw [wrapU, show ((m : Int) * 2 ^ n) = ((m * 2 ^ n : Nat) : Int) from by rw [Int.natCast_mul, Int.natCast_pow]; rfl]
      omega
    have h52 : m * 2 ^ n < 4503599627370496 → L = -1074 := fun h => by
      rcases Int.lt_or_le (-1074) L with hlt | hle
      · exfalso
        have hn52 : n + m.log2 = 52 := by omega
        have : 2 ^ m.log2 * 2 ^ n ≤ m * 2 ^ n := Nat.mul_le_mul_right _ hlog2
        rw [← Nat.pow_add, show m.log2 + n = 52 from by omega] at this
        omega
      · omega
    have cP := fun w => qPacked (m * 2 ^ n) L (by omega) (by omega) (by omega) h52 w
    rw [show (e - L).toNat = n from by omega, show (L - e).toNat = 0 from by omega, rhe_zero]
    have hne : -(L - e) = (n : Int) := by omega
    have hnw : IntKind.u64.wrap (n : Int) = (n : Int) := by rw [wrapU]; omega
    clear h52 hrung hLP
    generalize m * 2 ^ n = R at *
    generalize min ((L + 1074).toNat * 4503599627370496 + R) 9218868437227405312 = RR at *
    clear hlog hlog2 hblp h1 h2 c h0
    generalize bl m = k at *
    go_enter Tryz.func54, Tryz.ntmps54
    go_wp2_with (go_at_call 73; refine (cB _).mono ?_; rintro e w' ⟨rfl, rfl⟩)
    refine (cP _).mono ?_
    rintro e w1 ⟨rfl, rfl⟩
    go_wp2
    go_ret
    exact ⟨rfl, 0, rfl⟩
  · have cz : decide (L - e ≤ 0) = false := decide_eq_false c
    obtain ⟨n, hn⟩ : ∃ n : Nat, L - e = (n : Int) := ⟨(L - e).toNat, by omega⟩
    have hn1 : 1 ≤ n := by omega
    have cz2 : decide ((n : Int) ≤ 0) = false := decide_eq_false (by omega)
    have cz3 : ¬ n = 0 := by omega
    clear cz
    rw [show (e - L).toNat = 0 from by omega, show (L - e).toNat = n from by omega, Nat.pow_zero, Nat.mul_one]
    by_cases h64 : 64 < n
    · have h64z : decide ((64 : Int) < (n : Int)) = true := decide_eq_true (by omega)
      have h64y : decide (64 < n) = true := decide_eq_true h64
      have hLe : L = -1074 := by omega
      have hmin : min ((L + 1074).toNat * 4503599627370496 + 0) 9218868437227405312 = 0 := by rw [hLe]; rfl
      rw [rhe_far m n hm h64, hmin]
      exact rd_far m (bl m) n e L h0z (by rw [beq_eq_false_iff_ne]; exact h0) h1z h2z (by omega) (by omega) hbl hL hn (by omega) cz2 (decide_eq_false cz3) h64z h64y cB w
    · have h64z : decide ((64 : Int) < (n : Int)) = false := decide_eq_false (by omega)
      have hR : rhe m n ≤ 2 ^ 53 := rhe_le (Nat.lt_of_lt_of_le hlog (Nat.pow_le_pow_right (by decide) (by omega)))
      have h52 : rhe m n < 4503599627370496 → L = -1074 := fun h => by
        rcases Int.lt_or_le (-1074) L with hlt | hle
        · exfalso
          have h3 : m.log2 = 52 + n := by omega
          have h4 : 2 ^ 52 ≤ m / 2 ^ n := by
            rw [Nat.le_div_iff_mul_le (Nat.two_pow_pos n), ← Nat.pow_add, ← h3]
            exact hlog2
          have h5 : m / 2 ^ n ≤ rhe m n := by unfold rhe; exact Nat.le_add_right _ _
          omega
        · omega
      have cP := fun w => qPacked (rhe m n) L (by omega) (by omega) (by omega) h52 w
      obtain ⟨hf, hhf⟩ : ∃ hf, 2 ^ (n - 1) = hf := ⟨_, rfl⟩
      have hp2 : 2 ^ n = 2 * hf := by rw [← hhf, ← Nat.pow_succ', show (n - 1).succ = n from by omega]
      have hhl : hf ≤ 9223372036854775808 := by rw [← hhf]; exact Nat.pow_le_pow_right (by decide) (show n - 1 ≤ 63 by omega)
      have hrh : rhe m n = m / 2 ^ n + if hf < m % 2 ^ n ∨ hf = m % 2 ^ n ∧ m / 2 ^ n % 2 = 1 then 1 else 0 := by
        have e1 : (2 ^ n < 2 * (m % 2 ^ n)) ↔ hf < m % 2 ^ n := by omega
        have e2 : (2 ^ n = 2 * (m % 2 ^ n)) ↔ hf = m % 2 ^ n := by omega
        unfold rhe
        simp only [e1, e2]
      have hnm : (n : Int) - 1 = ((n - 1 : Nat) : Int) := by omega
      have hhz : IntKind.u64.wrap (2 ^ (n - 1) : Int) = (hf : Int) := by
        rw [wrapU, show ((2 : Int) ^ (n - 1)) = ((2 ^ (n - 1) : Nat) : Int) from by rw [Int.natCast_pow]; rfl, hhf]
        omega
      clear hrung hLP hlog hlog2 hblp h52 hR
      have hV63 : m / 2 ^ n ≤ 9223372036854775808 := by
        have h2 : 2 ^ 1 ≤ 2 ^ n := Nat.pow_le_pow_right (by decide) hn1
        have h3 : m / 2 ^ n ≤ m / 2 ^ 1 := Nat.div_le_div_left h2 (by decide)
        omega
      rw [hrh] at cP ⊢
      have hdv : (m : Int) / 2 ^ n = ((m / 2 ^ n : Nat) : Int) := by rw [Int.natCast_ediv, Int.natCast_pow]; rfl
      clear hrh
      have h0y : (m == 0) = false := by rw [beq_eq_false_iff_ne]; exact h0
      have z1 : decide ((n : Int) ≤ 0) = false := decide_eq_false (by omega)
      have z2 : decide (n = 0) = false := decide_eq_false (by omega)
      have z5 : decide (64 < n) = false := decide_eq_false h64
      by_cases hn64 : n < 64
      · have hnz : decide ((n : Int) < 64) = true := decide_eq_true (by omega)
        have hp64 : 2 ^ n < 18446744073709551616 := Nat.pow_lt_pow_right (by decide) (show n < 64 from hn64)
        have hnd : bits .and .u64 (m : Int) (IntKind.u64.wrap (IntKind.u64.wrap (2 ^ n) - 1)) = ((m % 2 ^ n : Nat) : Int) := by
          have e1 : IntKind.u64.wrap (IntKind.u64.wrap (2 ^ n) - 1) = ((2 ^ n - 1 : Nat) : Int) := by
            have hpp := Nat.two_pow_pos n
            rw [show ((2 : Int) ^ n) = ((2 ^ n : Nat) : Int) from by rw [Int.natCast_pow]; rfl]
            clear hhf hp2 hdv hV63 cP
            generalize 2 ^ n = P at *
            rw [wrapU, wrapU]
            omega
          rw [e1, u64_and_nat m (2 ^ n - 1) hm (by omega), Nat.and_two_pow_sub_one_eq_mod]
        have hny := decide_eq_true hn64
        clear hp2 hp64
        generalize m % 2 ^ n = r at *
        generalize m / 2 ^ n = V at *
        by_cases d1 : hf < r
        · rw [if_pos (.inl d1)] at cP ⊢
          exact rd_lo_more m (bl m) n V r hf _ _ e L h0z h0y h1z h2z (by omega) (by omega) hbl hL hn hn1 (by omega) hnm z1 z2 h64z z5 hhl hhz cB cP w hnz hny hdv hnd hV63 (decide_eq_true (by omega)) (decide_eq_true d1) rfl
        have d1z : decide ((hf : Int) < (r : Int)) = false := decide_eq_false (by omega)
        by_cases d2 : hf = r
        · have d2z : ((r : Int) == (hf : Int)) = true := by rw [beq_iff_eq]; omega
          have d2y : (r == hf) = true := by rw [beq_iff_eq]; omega
          by_cases d3 : V % 2 = 1
          · have d3y : ((V : Int) % 2 == 1) = true := by rw [beq_iff_eq]; omega
            have d3z : ((V : Int).tmod 2 == 1) = true := by rw [Int.tmod_eq_emod_of_nonneg (by omega)]; exact d3y
            rw [if_pos (.inr ⟨d2, d3⟩)] at cP ⊢
            exact rd_lo_tie1 m (bl m) n V r hf _ _ e L h0z h0y h1z h2z (by omega) (by omega) hbl hL hn hn1 (by omega) hnm z1 z2 h64z z5 hhl hhz cB cP w hnz hny hdv hnd hV63 d1z (decide_eq_false d1) d2z d2y d3z d3y (by rw [beq_iff_eq]; exact d3) rfl
          · have d3y : ((V : Int) % 2 == 1) = false := by rw [beq_eq_false_iff_ne]; omega
            have d3z : ((V : Int).tmod 2 == 1) = false := by rw [Int.tmod_eq_emod_of_nonneg (by omega)]; exact d3y
            rw [if_neg (by omega), Nat.add_zero] at cP ⊢
            exact rd_lo_tie0 m (bl m) n V r hf _ _ e L h0z h0y h1z h2z (by omega) (by omega) hbl hL hn hn1 (by omega) hnm z1 z2 h64z z5 hhl hhz cB cP w hnz hny hdv hnd hV63 d1z (decide_eq_false d1) d2z d2y d3z d3y (by rw [beq_eq_false_iff_ne]; exact d3) rfl
        · rw [if_neg (by omega), Nat.add_zero] at cP ⊢
          exact rd_lo_less m (bl m) n V r hf _ _ e L h0z h0y h1z h2z (by omega) (by omega) hbl hL hn hn1 (by omega) hnm z1 z2 h64z z5 hhl hhz cB cP w hnz hny hdv hnd hV63 d1z (decide_eq_false d1) (by rw [beq_eq_false_iff_ne]; omega) (by rw [beq_eq_false_iff_ne]; omega) rfl
      · have hnz : decide ((n : Int) < 64) = false := decide_eq_false (by omega)
        have hny := decide_eq_false hn64
        have e64 : n = 64 := by omega
        have hr : m % 2 ^ n = m := Nat.mod_eq_of_lt (by rw [e64]; exact hm)
        have hV : m / 2 ^ n = 0 := Nat.div_eq_of_lt (by rw [e64]; exact hm)
        rw [hr, hV] at cP ⊢
        clear hdv hr hV hp2
        by_cases d1 : hf < m
        · rw [if_pos (.inl d1)] at cP ⊢
          exact rd_hi_more m (bl m) n 0 m hf _ _ e L h0z h0y h1z h2z (by omega) (by omega) hbl hL hn hn1 (by omega) hnm z1 z2 h64z z5 hhl hhz cB cP w hnz hny rfl rfl (decide_eq_true (by omega)) (decide_eq_true d1) rfl
        have d1z : decide ((hf : Int) < (m : Int)) = false := decide_eq_false (by omega)
        rw [if_neg (by omega)] at cP ⊢
        by_cases d2 : hf = m
        · exact rd_hi_tie m (bl m) n 0 m hf (0 + 0) _ e L h0z h0y h1z h2z (by omega) (by omega) hbl hL hn hn1 (by omega) hnm z1 z2 h64z z5 hhl hhz cB cP w hnz hny rfl rfl d1z (decide_eq_false d1) (by rw [beq_iff_eq]; omega) (by rw [beq_iff_eq]; omega) rfl
        · exact rd_hi_less m (bl m) n 0 m hf (0 + 0) _ e L h0z h0y h1z h2z (by omega) (by omega) hbl hL hn hn1 (by omega) hnm z1 z2 h64z z5 hhl hhz cB cP w hnz hny rfl rfl d1z (decide_eq_false d1) (by rw [beq_eq_false_iff_ne]; omega) (by rw [beq_eq_false_iff_ne]; omega) rfl
end Go.Proofs.YtnpdfkcjjedamaaGreatDoor.Sca
