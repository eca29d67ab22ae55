/- The document's exact sum: a float put in; its first bits; rounded. -/
import Derived.Test.YtnpdfkcjjedamaaGreatDoorZc2
import Derived.Test.YtnpdfkcjjedamaaGreatDoorQe
import Derived.Test.YtnpdfkcjjedamaaGreatDoorYa
namespace Go.Proofs.YtnpdfkcjjedamaaGreatDoor.Sca
open Go.RowKit Go.Lib Go.Shelf

theorem u64_mask (x : Nat) (h : x < 18446744073709551616) : bits .and .u64 (x : Int) 4294967295 = ((x % 4294967296 : Nat) : Int) := by
  rw [show (4294967295 : Int) = ((4294967295 : Nat) : Int) from rfl, u64_and_nat x 4294967295 h (by decide)]
  congr 1
  exact Nat.and_two_pow_sub_one_eq_mod x 32
theorem div_shift (m s n : Nat) (h : s ≤ n) : m / 2 ^ (n - s) = m * 2 ^ s / 2 ^ n := by
  have e : 2 ^ n = 2 ^ (n - s) * 2 ^ s := by rw [← Nat.pow_add]; congr 1; omega
  rw [e, Nat.mul_div_mul_right _ _ (Nat.two_pow_pos s)]
theorem pvn_parts (M : Nat) : pvn [M % 4294967296, M / 4294967296 % 4294967296, M / 18446744073709551616] = M := by
  simp only [pvn]
  omega
theorem qAdd (g c m : Nat) (e : Int) (mi : Bool) (a : List Int) (w : World) (hm : m < 9007199254740992) (he1 : -1074 ≤ e) (he2 : e ≤ 971) (hb : ∀ (i : Nat) x, a[i]? = some x → -1125899906842624 < x ∧ x < 1125899906842624) (h : Qw w g a) :
    Calls Tryz.prog 31 #[.slice (some ⟨g, 0, none⟩) 72 c, .int .u64 (m : Int), .int .i64 e, .bool mi] w fun e' w' => e' = .returned (.tuple #[]) ∧ ∃ a', Qw w' g a' ∧ w.grownBy w' (some g) ∧ valq a' = valq a + (if mi then -((m * 2 ^ (e + 1074).toNat : Nat) : Int) else ((m * 2 ^ (e + 1074).toNat : Nat) : Int)) ∧ (∀ (i : Nat) x x0, a'[i]? = some x → a[i]? = some x0 → x0 - 4294967296 < x ∧ x < x0 + 4294967296) := by
  obtain ⟨pl, hpl⟩ : ∃ pl : Nat, e + 1074 = (pl : Int) := ⟨(e + 1074).toNat, by omega⟩
  have hpn : (e + 1074).toNat = pl := by omega
  obtain ⟨s, hs⟩ : ∃ s, pl % 32 = s := ⟨_, rfl⟩
  obtain ⟨k, hk⟩ : ∃ k, pl / 32 = k := ⟨_, rfl⟩
  obtain ⟨M, hM⟩ : ∃ M, m * 2 ^ s = M := ⟨_, rfl⟩
  have hMl : M < 9007199254740992 * 4294967296 := by
    rw [← hM]
    have h1 : 2 ^ s ≤ 2 ^ 32 := Nat.pow_le_pow_right (by decide) (by omega)
    have h2 : m * 2 ^ s ≤ m * 2 ^ 32 := Nat.mul_le_mul_left _ h1
    omega
  have hMM : M * 4294967296 ^ k = m * 2 ^ (e + 1074).toNat := by
    rw [hpn, ← hM, show (4294967296 : Nat) = 2 ^ 32 from rfl, ← Nat.pow_mul, Nat.mul_assoc, ← Nat.pow_add]
    congr 2
    omega
  have h0 : bits .and .u64 (IntKind.u64.wrap ((m : Int) * 2 ^ s)) 4294967295 = ((M % 4294967296 : Nat) : Int) := by
    have e1 : IntKind.u64.wrap ((m : Int) * 2 ^ s) = ((M % 18446744073709551616 : Nat) : Int) := by
      rw [wrapU, show ((m : Int) * 2 ^ s) = ((M : Nat) : Int) from by rw [← hM, Int.natCast_mul, Int.natCast_pow]; rfl]
      omega
    rw [e1, u64_mask _ (by omega)]
    congr 1
    omega
  have h1 : bits .and .u64 ((m : Int) / 2 ^ (32 - s)) 4294967295 = ((M / 4294967296 % 4294967296 : Nat) : Int) := by
    have e1 : (m : Int) / 2 ^ (32 - s) = ((M / 4294967296 : Nat) : Int) := by
      rw [← hM, show (4294967296 : Nat) = 2 ^ 32 from rfl, ← div_shift m s 32 (by omega), Int.natCast_ediv, Int.natCast_pow]; rfl
    rw [e1, u64_mask _ (by omega)]
  have h2 : (m : Int) / 2 ^ (64 - s) = ((M / 18446744073709551616 : Nat) : Int) := by
    rw [← hM, show (18446744073709551616 : Nat) = 2 ^ 64 from rfl, ← div_shift m s 64 (by omega), Int.natCast_ediv, Int.natCast_pow]; rfl
  have h3 : s = 0 → M / 18446744073709551616 = 0 := fun h => by
    rw [h, Nat.pow_zero, Nat.mul_one] at hM
    omega
  cases mi
  · refine (qAdd_plus g c m k s pl _ _ _ e a w (by omega) (by omega) (by omega) hpl (by omega) (by omega) h0 h1 (fun _ => h2) h3 (by omega) (by omega) (by omega) hb h).mono ?_
    rintro e' w' ⟨rfl, a', hQ, hG, hV, hD⟩
    rw [pvn_parts, hMM] at hV
    exact ⟨rfl, a', hQ, hG, hV, hD⟩
  · refine (qAdd_minus g c m k s pl _ _ _ e a w (by omega) (by omega) (by omega) hpl (by omega) (by omega) h0 h1 (fun _ => h2) h3 (by omega) (by omega) (by omega) hb h).mono ?_
    rintro e' w' ⟨rfl, a', hQ, hG, hV, hD⟩
    rw [pvn_parts, hMM] at hV
    exact ⟨rfl, a', hQ, hG, by rw [hV, if_pos rfl]; omega, hD⟩
/-- Rounded, where something lies behind 64 bits. -/
theorem rung_behind (m : Nat) (e : Int) (h1 : 9223372036854775808 ≤ m) (h2 : m < 18446744073709551616) (he : -1085 ≤ e) :
    rung (m ||| 1) e = min ((e + 11 + 1074).toNat * 4503599627370496 + (m / 2048 + if 1024 ≤ m % 2048 then 1 else 0)) 9218868437227405312 := by
  have hl : (m ||| 1).log2 = 63 := by
    rw [or_one]
    exact (Nat.log2_eq_iff (by omega)).2 ⟨by omega, by omega⟩
  have h0 : m ||| 1 ≠ 0 := by rw [or_one]; omega
  have hL : lastP (m ||| 1) e = e + 11 := by unfold lastP; rw [hl]; omega
  unfold rung
  rw [if_neg h0, hL, show (e - (e + 11)).toNat = 0 from by omega, show (e + 11 - e).toNat = 11 from by omega, Nat.pow_zero, Nat.mul_one]
  congr 2
  unfold rhe
  rw [or_one, show (2 : Nat) ^ 11 = 2048 from rfl]
  split <;> split <;> omega
set_option maxRecDepth 100000 in
theorem rs_lo_more (m k n V r hf R RR : Nat) (e L : Int) (h0z : ((m : Int) == 0) = false) (h0y : (m == 0) = false) (h1z : decide (e < -3000) = false) (h2z : decide (3000 < e) = false) (he1 : -3000 ≤ e) (he2 : e ≤ 3000) (hk : k ≤ 64) (hL : max (e + (k : Int) - 1 - 52) (-1074) = L) (hn : L - e = (n : Int)) (hn1 : 1 ≤ n) (hn2 : n ≤ 64) (hnm : (n : Int) - 1 = ((n - 1 : Nat) : Int))
    (cz1 : decide ((n : Int) ≤ 0) = false) (cz2 : decide (n = 0) = false) (cz4 : decide ((64 : Int) < (n : Int)) = false) (cz5 : decide (64 < n) = false) (hhl : hf ≤ 9223372036854775808) (hhz : IntKind.u64.wrap (2 ^ (n - 1) : Int) = (hf : Int))
    (cB : ∀ w, Calls Tryz.prog 73 #[.int .u64 (m : Int)] w fun e w' => e = .returned (.int .i64 (k : Int)) ∧ w' = w) (cP : ∀ w, Calls Tryz.prog 74 #[.int .u64 (R : Int), .int .i64 L] w fun e w' => e = .returned (.float .f64 RR) ∧ w' = w) (w : World)
    (hnz : decide ((n : Int) < 64) = true) (hny : decide (n < 64) = true) (hdv : (m : Int) / 2 ^ n = (V : Int)) (hnd : bits .and .u64 (m : Int) (IntKind.u64.wrap (IntKind.u64.wrap (2 ^ n) - 1)) = (r : Int)) (hV : V ≤ 9223372036854775808)
    (d1z : decide ((hf : Int) < (r : Int)) = true) (d1y : decide (hf < r) = true) (hR : R = V + 1) :
    Calls Tryz.prog 54 #[.int .u64 (m : Int), .int .i64 e, .bool true] w fun e' w' => e' = .returned (.float .f64 RR) ∧ ∃ q, w' = w.drewN q := by
  have hu : True := by
    have := h0z
    have := h0y
    have := h1z
    have := h2z
    have := he1
    have := he2
    have := hk
    have := hL
    have := hn
    have := hn1
    have := hn2
    have := hnm
    have := cz1
    have := cz2
    have := cz4
    have := cz5
    have := hhl
    have := hhz
    have := hnz
    have := hny
    have := hdv
    have := hnd
    have := hV
    have := d1z
    have := d1y
    trivial
  clear hu
  have mixed := mixed_ok
  subst hR
  go_enter Tryz.func54, Tryz.ntmps54
  go_wp2_with (first | (go_at_call 73; refine (cB _).mono ?_; rintro e w' ⟨rfl, hw⟩; obtain rfl := hw.symm) | (go_at_call 74; refine (cP _).mono ?_; rintro e w' ⟨rfl, hw⟩; obtain rfl := hw.symm))
  go_ret
  exact ⟨rfl, 0, rfl⟩
set_option maxRecDepth 100000 in
theorem rs_lo_tie1 (m k n V r hf R RR : Nat) (e L : Int) (h0z : ((m : Int) == 0) = false) (h0y : (m == 0) = false) (h1z : decide (e < -3000) = false) (h2z : decide (3000 < e) = false) (he1 : -3000 ≤ e) (he2 : e ≤ 3000) (hk : k ≤ 64) (hL : max (e + (k : Int) - 1 - 52) (-1074) = L) (hn : L - e = (n : Int)) (hn1 : 1 ≤ n) (hn2 : n ≤ 64) (hnm : (n : Int) - 1 = ((n - 1 : Nat) : Int))
    (cz1 : decide ((n : Int) ≤ 0) = false) (cz2 : decide (n = 0) = false) (cz4 : decide ((64 : Int) < (n : Int)) = false) (cz5 : decide (64 < n) = false) (hhl : hf ≤ 9223372036854775808) (hhz : IntKind.u64.wrap (2 ^ (n - 1) : Int) = (hf : Int))
    (cB : ∀ w, Calls Tryz.prog 73 #[.int .u64 (m : Int)] w fun e w' => e = .returned (.int .i64 (k : Int)) ∧ w' = w) (cP : ∀ w, Calls Tryz.prog 74 #[.int .u64 (R : Int), .int .i64 L] w fun e w' => e = .returned (.float .f64 RR) ∧ w' = w) (w : World)
    (hnz : decide ((n : Int) < 64) = true) (hny : decide (n < 64) = true) (hdv : (m : Int) / 2 ^ n = (V : Int)) (hnd : bits .and .u64 (m : Int) (IntKind.u64.wrap (IntKind.u64.wrap (2 ^ n) - 1)) = (r : Int)) (hV : V ≤ 9223372036854775808)
    (d1z : decide ((hf : Int) < (r : Int)) = false) (d1y : decide (hf < r) = false) (d2z : ((r : Int) == (hf : Int)) = true) (d2y : (r == hf) = true) (hR : R = V + 1) :
    Calls Tryz.prog 54 #[.int .u64 (m : Int), .int .i64 e, .bool true] w fun e' w' => e' = .returned (.float .f64 RR) ∧ ∃ q, w' = w.drewN q := by
  have hu : True := by
    have := h0z
    have := h0y
    have := h1z
    have := h2z
    have := he1
    have := he2
    have := hk
    have := hL
    have := hn
    have := hn1
    have := hn2
    have := hnm
    have := cz1
    have := cz2
    have := cz4
    have := cz5
    have := hhl
    have := hhz
    have := hnz
    have := hny
    have := hdv
    have := hnd
    have := hV
    have := d1z
    have := d1y
    have := d2z
    have := d2y
    trivial
  clear hu
  have mixed := mixed_ok
  subst hR
  go_enter Tryz.func54, Tryz.ntmps54
  go_wp2_with (first | (go_at_call 73; refine (cB _).mono ?_; rintro e w' ⟨rfl, hw⟩; obtain rfl := hw.symm) | (go_at_call 74; refine (cP _).mono ?_; rintro e w' ⟨rfl, hw⟩; obtain rfl := hw.symm))
  go_ret
  exact ⟨rfl, 0, rfl⟩
set_option maxRecDepth 100000 in
theorem rs_lo_less (m k n V r hf R RR : Nat) (e L : Int) (h0z : ((m : Int) == 0) = false) (h0y : (m == 0) = false) (h1z : decide (e < -3000) = false) (h2z : decide (3000 < e) = false) (he1 : -3000 ≤ e) (he2 : e ≤ 3000) (hk : k ≤ 64) (hL : max (e + (k : Int) - 1 - 52) (-1074) = L) (hn : L - e = (n : Int)) (hn1 : 1 ≤ n) (hn2 : n ≤ 64) (hnm : (n : Int) - 1 = ((n - 1 : Nat) : Int))
    (cz1 : decide ((n : Int) ≤ 0) = false) (cz2 : decide (n = 0) = false) (cz4 : decide ((64 : Int) < (n : Int)) = false) (cz5 : decide (64 < n) = false) (hhl : hf ≤ 9223372036854775808) (hhz : IntKind.u64.wrap (2 ^ (n - 1) : Int) = (hf : Int))
    (cB : ∀ w, Calls Tryz.prog 73 #[.int .u64 (m : Int)] w fun e w' => e = .returned (.int .i64 (k : Int)) ∧ w' = w) (cP : ∀ w, Calls Tryz.prog 74 #[.int .u64 (R : Int), .int .i64 L] w fun e w' => e = .returned (.float .f64 RR) ∧ w' = w) (w : World)
    (hnz : decide ((n : Int) < 64) = true) (hny : decide (n < 64) = true) (hdv : (m : Int) / 2 ^ n = (V : Int)) (hnd : bits .and .u64 (m : Int) (IntKind.u64.wrap (IntKind.u64.wrap (2 ^ n) - 1)) = (r : Int)) (hV : V ≤ 9223372036854775808)
    (d1z : decide ((hf : Int) < (r : Int)) = false) (d1y : decide (hf < r) = false) (d2z : ((r : Int) == (hf : Int)) = false) (d2y : (r == hf) = false) (hR : R = V) :
    Calls Tryz.prog 54 #[.int .u64 (m : Int), .int .i64 e, .bool true] w fun e' w' => e' = .returned (.float .f64 RR) ∧ ∃ q, w' = w.drewN q := by
  have hu : True := by
    have := h0z
    have := h0y
    have := h1z
    have := h2z
    have := he1
    have := he2
    have := hk
    have := hL
    have := hn
    have := hn1
    have := hn2
    have := hnm
    have := cz1
    have := cz2
    have := cz4
    have := cz5
    have := hhl
    have := hhz
    have := hnz
    have := hny
    have := hdv
    have := hnd
    have := hV
    have := d1z
    have := d1y
    have := d2z
    have := d2y
    trivial
  clear hu
  have mixed := mixed_ok
  subst hR
  go_enter Tryz.func54, Tryz.ntmps54
  go_wp2_with (first | (go_at_call 73; refine (cB _).mono ?_; rintro e w' ⟨rfl, hw⟩; obtain rfl := hw.symm) | (go_at_call 74; refine (cP _).mono ?_; rintro e w' ⟨rfl, hw⟩; obtain rfl := hw.symm))
  go_ret
  exact ⟨rfl, 0, rfl⟩
theorem qRoundedS (m : Nat) (e : Int) (h1 : 9223372036854775808 ≤ m) (hm : m < 18446744073709551616) (he1 : -1073 ≤ e) (he2 : e ≤ 2000) (w : World) :
    Calls Tryz.prog 54 #[.int .u64 (m : Int), .int .i64 e, .bool true] w fun e' w' => e' = .returned (.float .f64 (rung (m ||| 1) e)) ∧ ∃ q, w' = w.drewN q := by
  have hbl : bl m = 64 := by
    unfold bl
    rw [if_neg (by omega), show m.log2 = 63 from (Nat.log2_eq_iff (by omega)).2 ⟨by omega, by omega⟩]
  have cB := fun w => qBitsN m hm w
  rw [hbl] at cB
  rw [rung_behind m e h1 hm (by omega)]
  obtain ⟨V, hV⟩ : ∃ V, m / 2048 = V := ⟨_, rfl⟩
  obtain ⟨r, hr⟩ : ∃ r, m % 2048 = r := ⟨_, rfl⟩
  have hdv : (m : Int) / 2 ^ 11 = (V : Int) := by rw [show (2 : Int) ^ 11 = 2048 from rfl]; omega
  have hnd : bits .and .u64 (m : Int) (IntKind.u64.wrap (IntKind.u64.wrap (2 ^ 11) - 1)) = (r : Int) := by
    rw [show IntKind.u64.wrap (IntKind.u64.wrap (2 ^ 11) - 1) = ((2047 : Nat) : Int) from by decide +kernel, u64_and_nat m 2047 hm (by decide), ← hr]
    congr 1
    exact Nat.and_two_pow_sub_one_eq_mod m 11
  rw [hV, hr]
  have h0z : ((m : Int) == 0) = false := by rw [beq_eq_false_iff_ne]; omega
  have h0y : (m == 0) = false := by rw [beq_eq_false_iff_ne]; omega
  have h1z : decide (e < -3000) = false := decide_eq_false (by omega)
  have h2z : decide (3000 < e) = false := decide_eq_false (by omega)
  have hhz : IntKind.u64.wrap (2 ^ (11 - 1) : Int) = ((1024 : Nat) : Int) := by decide +kernel
  have hmx : max (e + ((64 : Nat) : Int) - 1 - 52) (-1074) = e + 11 := by omega
  by_cases hc : 1024 ≤ r
  · rw [if_pos hc]
    have cP := fun w => qPacked (V + 1) (e + 11) (by omega) (by omega) (by omega) (by omega) w
    by_cases hc2 : r = 1024
    · refine rs_lo_tie1 m 64 11 V r 1024 (V + 1) _ e (e + 11) h0z h0y h1z h2z (by omega) (by omega) (by omega) hmx (by omega) (by omega) (by omega) (by omega) (by decide) (by decide) (by decide) (by decide) (by decide) hhz cB cP w (by decide) (by decide) hdv hnd (by omega) (decide_eq_false (by omega)) (decide_eq_false (by omega)) (by rw [beq_iff_eq]; omega) (by rw [beq_iff_eq]; exact hc2) rfl
    · refine rs_lo_more m 64 11 V r 1024 (V + 1) _ e (e + 11) h0z h0y h1z h2z (by omega) (by omega) (by omega) hmx (by omega) (by omega) (by omega) (by omega) (by decide) (by decide) (by decide) (by decide) (by decide) hhz cB cP w (by decide) (by decide) hdv hnd (by omega) (decide_eq_true (by omega)) (decide_eq_true (by omega)) rfl
  · rw [if_neg hc, Nat.add_zero]
    have cP := fun w => qPacked V (e + 11) (by omega) (by omega) (by omega) (by omega) w
    refine rs_lo_less m 64 11 V r 1024 V _ e (e + 11) h0z h0y h1z h2z (by omega) (by omega) (by omega) hmx (by omega) (by omega) (by omega) (by omega) (by decide) (by decide) (by decide) (by decide) (by decide) hhz cB cP w (by decide) (by decide) hdv hnd (by omega) (decide_eq_false (by omega)) (decide_eq_false (by omega)) (by rw [beq_eq_false_iff_ne]; omega) (by rw [beq_eq_false_iff_ne]; omega) rfl
end Go.Proofs.YtnpdfkcjjedamaaGreatDoor.Sca
