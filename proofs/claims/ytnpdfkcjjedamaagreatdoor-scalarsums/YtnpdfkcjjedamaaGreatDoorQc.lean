/- The document's Split, Exact, as they are walked. -/
import Derived.Test.YtnpdfkcjjedamaaGreatDoorSk
namespace Go.Proofs.YtnpdfkcjjedamaaGreatDoor.Sca
open Go.RowKit Go.Lib Go.Shelf

theorem qFinite (b : Nat) (hb : b < 18446744073709551616) (w : World) : Calls Tryz.prog 29 #[.float .f64 b] w fun e w' => e = .returned (.bool (decide (mg b < 9218868437227405312))) ∧ w' = w := by
  have cB := fun w => qBits b hb w
  have hs := andNot_sign (can b) (can_lt hb)
  by_cases h : mg b < 9218868437227405312
  · rw [can_fin b h] at hs cB
    have hz : decide ((mg b : Int) < 9218868437227405312) = true := decide_eq_true (by omega)
    rw [decide_eq_true h]
    clear h
    generalize mg b = m at *
    go_enter Tryz.func29, Tryz.ntmps29
    go_wp2_with (go_at_call 28; refine (cB _).mono ?_; rintro e w' ⟨rfl, rfl⟩)
    go_ret
    exact ⟨rfl, rfl⟩
  · have hz : decide ((mg (can b) : Int) < 9218868437227405312) = false := by
      refine decide_eq_false ?_
      by_cases h1 : 9218868437227405312 < mg b
      · rw [mg_can b h1]; decide
      · rw [can_num b h1]; omega
    rw [decide_eq_false h]
    clear h
    generalize mg (can b) = m at *
    generalize can b = c at *
    go_enter Tryz.func29, Tryz.ntmps29
    go_wp2_with (go_at_call 28; refine (cB _).mono ?_; rintro e w' ⟨rfl, rfl⟩)
    go_ret
    exact ⟨rfl, rfl⟩
theorem u64_hidden (d : Nat) (h : d < 4503599627370496) : bits .or .u64 (d : Int) 4503599627370496 = ((4503599627370496 + d : Nat) : Int) := by
  rw [show (4503599627370496 : Int) = ((4503599627370496 : Nat) : Int) from rfl, u64_or_nat d 4503599627370496 (by omega) (by decide)]
  congr 1
  have e := Nat.two_pow_add_eq_or_of_lt (i := 52) (b := d) h 1
  rw [Nat.mul_one] at e
  rw [Nat.or_comm, show (4503599627370496 : Nat) = 2 ^ 52 from rfl, ← e]
theorem qParts (b : Nat) (hb : b < 18446744073709551616) (h : mg b < 9218868437227405312) (w : World) : Calls Tryz.prog 30 #[.float .f64 b] w fun e w' => e = .returned (.tuple #[.int .u64 (mOf b : Int), .int .i64 (pOf b)]) ∧ w' = w := by
  have cB := fun w => qBits b hb w
  rw [can_fin b h] at cB
  have hs := andNot_sign b hb
  have hd : (mg b : Int) / 4503599627370496 = ((mg b / 4503599627370496 : Nat) : Int) := by omega
  have hA := and_frac (mg b) (by unfold mg; omega)
  have hq : mg b / 4503599627370496 < 2047 := by omega
  have hr : mg b % 4503599627370496 < 4503599627370496 := Nat.mod_lt _ (by decide)
  have hO := u64_hidden _ hr
  unfold mOf pOf
  by_cases h0 : mg b < 4503599627370496
  · have e1 : mg b / 4503599627370496 = 0 := by omega
    have e2 : mg b % 4503599627370496 = mg b := Nat.mod_eq_of_lt h0
    rw [if_pos h0]
    rw [e1] at hd
    rw [e2] at hA
    rw [e1]
    clear h hq hr hO e1 e2 h0
    generalize mg b = m at *
    go_enter Tryz.func30, Tryz.ntmps30
    go_wp2_with (go_at_call 28; refine (cB _).mono ?_; rintro e w' ⟨rfl, rfl⟩)
    go_ret2
    exact ⟨rfl, rfl⟩
  · have e1 : ((mg b / 4503599627370496 : Nat) : Int) - 1075 = -1074 + ((mg b / 4503599627370496 - 1 : Nat) : Int) := by omega
    have h1 : (((mg b / 4503599627370496 : Nat) : Int) == 0) = false := by rw [beq_eq_false_iff_ne]; omega
    rw [if_neg h0, ← e1]
    clear h h0 e1
    generalize 4503599627370496 + mg b % 4503599627370496 = o at *
    generalize mg b % 4503599627370496 = r at *
    generalize mg b / 4503599627370496 = q at *
    generalize mg b = m at *
    go_enter Tryz.func30, Tryz.ntmps30
    go_wp2_with (go_at_call 28; refine (cB _).mono ?_; rintro e w' ⟨rfl, rfl⟩)
    go_ret2
    exact ⟨rfl, rfl⟩
/-- What the halving leaves. -/
theorem tz_odd (m : Nat) (h0 : m ≠ 0) (h : m < 18446744073709551616) (x k : Nat) (hx : x * 2 ^ k = m) (ho : x % 2 = 1) : x = odd m ∧ k = tz m := by
  obtain ⟨h1, h2⟩ := odd_mul m h0 h
  have key : k = tz m := by
    rcases Nat.lt_trichotomy k (tz m) with c | c | c
    · exfalso
      obtain ⟨d, hd⟩ : ∃ d, tz m = k + 1 + d := ⟨tz m - k - 1, by omega⟩
      rw [hd, Nat.pow_add, Nat.pow_succ] at h1
      have : x * 2 ^ k = (odd m * 2 ^ d * 2) * 2 ^ k := by
        refine hx.trans (h1.symm.trans ?_)
        ac_rfl
      have e := Nat.eq_of_mul_eq_mul_right (Nat.two_pow_pos k) this
      omega
    · exact c
    · exfalso
      obtain ⟨d, hd⟩ : ∃ d, k = tz m + 1 + d := ⟨k - tz m - 1, by omega⟩
      rw [hd, Nat.pow_add, Nat.pow_succ] at hx
      have : odd m * 2 ^ tz m = (x * 2 ^ d * 2) * 2 ^ tz m := by
        refine h1.trans (hx.symm.trans ?_)
        ac_rfl
      have e := Nat.eq_of_mul_eq_mul_right (Nat.two_pow_pos (tz m)) this
      omega
  subst key
  exact ⟨Nat.eq_of_mul_eq_mul_right (Nat.two_pow_pos _) (hx.trans h1.symm), rfl⟩
end Go.Proofs.YtnpdfkcjjedamaaGreatDoor.Sca
