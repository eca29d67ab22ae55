/- The document's own rounding, as it is walked. -/
import Derived.Test.YtnpdfkcjjedamaaGreatDoorSk
namespace Go.Proofs.YtnpdfkcjjedamaaGreatDoor.Sca
open Go.RowKit Go.Lib Go.Shelf

theorem qBitsN (m : Nat) (hm : m < 18446744073709551616) (w : World) : Calls Tryz.prog 73 #[.int .u64 (m : Int)] w fun e w' => e = .returned (.int .i64 (bl m : Int)) ∧ w' = w := by
  have hbm : bl m ≤ 64 := bl_lt hm
  go_enter Tryz.func73, Tryz.ntmps73
  go_wp2
  go_loop [0, 3] (fun vm vn => ∃ x n : Nat, vm = .int .u64 (x : Int) ∧ vn = .int .i64 (n : Int) ∧ x ≤ m ∧ n + bl x = bl m) (fun vm _ => (Go.RowKit.intOf vm).toNat)
  case atStart => exact ⟨m, 0, rfl, rfl, Nat.le_refl _, by omega⟩
  case round =>
    obtain ⟨x, n, rfl, rfl, hx, hn⟩ := hrel
    by_cases h0 : x = 0
    · subst h0
      have hn' : n = bl m := by rw [← hn]; rfl
      subst hn'
      clear hn
      go_wp2
      go_ret
      exact ⟨rfl, rfl⟩
    · have hz : decide ((0 : Int) < (x : Int)) = true := decide_eq_true (by omega)
      have hz2 : decide (0 < x) = true := decide_eq_true (by omega)
      have hh := bl_half h0
      have hd : (x : Int) / 2 = ((x / 2 : Nat) : Int) := by omega
      have hx64 : bl x ≤ 64 := by omega
      have hn64 : n ≤ 64 := by omega
      have HE : Hid (n + 1 + bl (x / 2) = bl m ∧ x / 2 ≤ m ∧ x / 2 < x) := ⟨by omega, by omega, by omega⟩
      generalize x / 2 = x2 at *
      clear hh hn
      go_wp2
      exact ⟨⟨x2, n + 1, by first | rfl | go_num, by go_num, HE.out.2.1, HE.out.1⟩, by have := HE.out.2.2; simp [Go.RowKit.intOf]; omega⟩
theorem or52 (e r : Nat) (h : r < 4503599627370496) : e * 4503599627370496 ||| r = e * 4503599627370496 + r := by
  have := Nat.two_pow_add_eq_or_of_lt (i := 52) (b := r) h e
  rw [Nat.mul_comm] at this
  exact this.symm
set_option maxRecDepth 100000 in
/-- A whole number of at most 2^53, put together. -/
theorem qPacked (m : Nat) (q : Int) (hm : m ≤ 9007199254740992) (hq : -1074 ≤ q) (hq2 : q ≤ 3100) (h52 : m < 4503599627370496 → q = -1074) (w : World) :
    Calls Tryz.prog 74 #[.int .u64 (m : Int), .int .i64 q] w fun e w' => e = .returned (.float .f64 (min ((q + 1074).toNat * 4503599627370496 + m) 9218868437227405312)) ∧ w' = w := by
  by_cases hA : m = 9007199254740992
  · subst hA
    have h1 : Go.RowKit.wrap64 (q + 1) = q + 1 := by unfold Go.RowKit.wrap64; omega
    obtain ⟨e, he⟩ : ∃ e : Nat, q + 1 + 1075 = (e : Int) := ⟨(q + 1 + 1075).toNat, by omega⟩
    have hand : bits .and .u64 4503599627370496 4503599627370495 = 0 := by decide +kernel
    by_cases hC : 2047 ≤ e
    · have hz : decide ((2047 : Int) ≤ (e : Int)) = true := decide_eq_true (by omega)
      rw [show min ((q + 1074).toNat * 4503599627370496 + 9007199254740992) 9218868437227405312 = 9218868437227405312 from by omega]
      clear hC hm h52
      go_enter Tryz.func74, Tryz.ntmps74
      go_wp2_with (go_at_call 14; refine (qOf 9218868437227405312 _).mono ?_; rintro e w' ⟨rfl, rfl⟩)
      go_ret
      exact ⟨rfl, rfl⟩
    · have hz : decide ((2047 : Int) ≤ (e : Int)) = false := decide_eq_false (by omega)
      obtain ⟨v, hv⟩ : ∃ v, e * 4503599627370496 = v := ⟨_, rfl⟩
      have hvz : (e : Int) * 4503599627370496 = (v : Int) := by omega
      have hor : bits .or .u64 (v : Int) 0 = (v : Int) := by
        have := u64_or_nat v 0 (by omega) (by decide)
        rw [Nat.or_zero] at this
        exact this
      rw [show min ((q + 1074).toNat * 4503599627370496 + 9007199254740992) 9218868437227405312 = v from by omega]
      have he2 : e < 2047 := by omega
      clear hC hm h52 hv
      go_enter Tryz.func74, Tryz.ntmps74
      go_wp2_with fail
      refine (qOf v _).mono ?_
      rintro e w' ⟨rfl, rfl⟩
      go_wp2
      go_ret
      exact ⟨rfl, rfl⟩
  · have hAz : ((m : Int) == 9007199254740992) = false := by rw [beq_eq_false_iff_ne]; omega
    by_cases hB : m < 4503599627370496
    · have hBz : decide ((m : Int) < 4503599627370496) = true := decide_eq_true (by omega)
      have hq' := h52 hB
      rw [show min ((q + 1074).toNat * 4503599627370496 + m) 9218868437227405312 = m from by omega]
      clear hB h52 hA hm hq'
      go_enter Tryz.func74, Tryz.ntmps74
      go_wp2_with fail
      refine (qOf m _).mono ?_
      rintro e w' ⟨rfl, rfl⟩
      go_wp2
      go_ret
      exact ⟨rfl, rfl⟩
    · have hBz : decide ((m : Int) < 4503599627370496) = false := decide_eq_false (by omega)
      obtain ⟨e, he⟩ : ∃ e : Nat, q + 1075 = (e : Int) := ⟨(q + 1075).toNat, by omega⟩
      have hand := and_frac m (by omega)
      rw [show m % 4503599627370496 = m - 4503599627370496 from by omega] at hand
      by_cases hC : 2047 ≤ e
      · have hz : decide ((2047 : Int) ≤ (e : Int)) = true := decide_eq_true (by omega)
        rw [show min ((q + 1074).toNat * 4503599627370496 + m) 9218868437227405312 = 9218868437227405312 from by omega]
        clear hC hm h52 hA hB hand
        go_enter Tryz.func74, Tryz.ntmps74
        go_wp2_with (go_at_call 14; refine (qOf 9218868437227405312 _).mono ?_; rintro e w' ⟨rfl, rfl⟩)
        go_ret
        exact ⟨rfl, rfl⟩
      · have hz : decide ((2047 : Int) ≤ (e : Int)) = false := decide_eq_false (by omega)
        obtain ⟨v, hv⟩ : ∃ v, e * 4503599627370496 = v := ⟨_, rfl⟩
        have hvz : (e : Int) * 4503599627370496 = (v : Int) := by omega
        obtain ⟨r, hr⟩ : ∃ r, m - 4503599627370496 = r := ⟨_, rfl⟩
        rw [hr] at hand
        have hor : bits .or .u64 (v : Int) (r : Int) = ((v + r : Nat) : Int) := by
          rw [u64_or_nat v r (by omega) (by omega), ← hv, or52 e r (by omega)]
        rw [show min ((q + 1074).toNat * 4503599627370496 + m) 9218868437227405312 = v + r from by omega]
        have he2 : e < 2047 := by omega
        clear hC hm h52 hA hB hv hr
        generalize v + r = u at *
        go_enter Tryz.func74, Tryz.ntmps74
        go_wp2_with fail
        refine (qOf u _).mono ?_
        rintro e w' ⟨rfl, rfl⟩
        go_wp2
        go_ret
        exact ⟨rfl, rfl⟩
theorem rhe_far (m n : Nat) (hm : m < 18446744073709551616) (hn : 64 < n) : rhe m n = 0 := by
  have h65 : 2 ^ 65 ≤ 2 ^ n := Nat.pow_le_pow_right (by decide) (by omega)
  exact rhe_small (by omega)
end Go.Proofs.YtnpdfkcjjedamaaGreatDoor.Sca
