/- The document's Split, Exact, as they are walked. -/
import Derived.Test.YtbnclgndgjmmkaaGreatDoorSk
namespace Go.Proofs.YtbnclgndgjmmkaaGreatDoor.Sca
open Go.RowKit Go.Lib Go.Shelf

theorem qFinite (b : Nat) (hb : b < 18446744073709551616) (w : World) : Calls Tryz.prog 39 #[.float .f64 b] w fun e w' => e = .returned (.bool (decide (mg b < 9218868437227405312))) ∧ w' = w := by
  have cB := fun w => qBits b hb w
  have hs := andNot_sign (can b) (can_lt hb)
  by_cases h : mg b < 9218868437227405312
  · rw [can_fin b h] at hs cB
    have hz : decide ((mg b : Int) < 9218868437227405312) = true := decide_eq_true (by omega)
    rw [decide_eq_true h]
    clear h
    generalize mg b = m at *
    go_enter Tryz.func39, Tryz.ntmps39
    go_wp2_with (go_at_call 17; refine (cB _).mono ?_; rintro e w' ⟨rfl, rfl⟩)
    go_ret
    exact ⟨rfl, rfl⟩
  · have hz : decide ((mg (can b) : Int) < 9218868437227405312) = false := by
      refine decide_eq_false ?_
      by_cases h1 : 9218868437227405312 < mg b
      · rw [mg_can b h1]; decide
      · rw [can_num b h1]; omega
    rw [decide_eq_false h]
    clear h
    generalize mg (can b) = m at *
    generalize can b = c at *
    go_enter Tryz.func39, Tryz.ntmps39
    go_wp2_with (go_at_call 17; refine (cB _).mono ?_; rintro e w' ⟨rfl, rfl⟩)
    go_ret
    exact ⟨rfl, rfl⟩
theorem u64_hidden (d : Nat) (h : d < 4503599627370496) : bits .or .u64 (d : Int) 4503599627370496 = ((4503599627370496 + d : Nat) : Int) := by
  rw [show (4503599627370496 : Int) = ((4503599627370496 : Nat) : Int) from rfl, u64_or_nat d 4503599627370496 (by omega) (by decide)]
  congr 1
  have e := Nat.two_pow_add_eq_or_of_lt (i := 52) (b := d) h 1
  rw [Nat.mul_one] at e
  rw [Nat.or_comm, show (4503599627370496 : Nat) = 2 ^ 52 from rfl, ← e]
theorem qParts (b : Nat) (hb : b < 18446744073709551616) (h : mg b < 9218868437227405312) (w : World) : Calls Tryz.prog 40 #[.float .f64 b] w fun e w' => e = .returned (.tuple #[.int .u64 (mOf b : Int), .int .i64 (pOf b)]) ∧ w' = w := by
  have cB := fun w => qBits b hb w
  rw [can_fin b h] at cB
  have hs := andNot_sign b hb
  have hd : (mg b : Int) / 4503599627370496 = ((mg b / 4503599627370496 : Nat) : Int) := by omega
  have hA := and_frac (mg b) (by unfold mg; omega)
  have hq : mg b / 4503599627370496 < 2047 := by omega
  have hr : mg b % 4503599627370496 < 4503599627370496 := Nat.mod_lt _ (by decide)
  have hO := u64_hidden _ hr
  unfold mOf pOf
  by_cases h0 : mg b < 4503599627370496
  · have e1 : mg b / 4503599627370496 = 0 := by omega
    have e2 : mg b % 4503599627370496 = mg b := Nat.mod_eq_of_lt h0
    rw [if_pos h0]
    rw [e1] at hd
    rw [e2] at hA
    rw [e1]
    clear h hq hr hO e1 e2 h0
    generalize mg b = m at *
    go_enter Tryz.func40, Tryz.ntmps40
    go_wp2_with (go_at_call 17; refine (cB _).mono ?_; rintro e w' ⟨rfl, rfl⟩)
    go_ret2
    exact ⟨rfl, rfl⟩
  · have e1 : ((mg b / 4503599627370496 : Nat) : Int) - 1075 = -1074 + ((mg b / 4503599627370496 - 1 : Nat) : Int) := by omega
    have h1 : (((mg b / 4503599627370496 : Nat) : Int) == 0) = false := by rw [beq_eq_false_iff_ne]; omega
    rw [if_neg h0, ← e1]
    clear h h0 e1
    generalize 4503599627370496 + mg b % 4503599627370496 = o at *
    generalize mg b % 4503599627370496 = r at *
    generalize mg b / 4503599627370496 = q at *
    generalize mg b = m at *
    go_enter Tryz.func40, Tryz.ntmps40
    go_wp2_with (go_at_call 17; refine (cB _).mono ?_; rintro e w' ⟨rfl, rfl⟩)
    go_ret2
    exact ⟨rfl, rfl⟩
/-- What the halving leaves. -/
theorem tz_odd (m : Nat) (h0 : m ≠ 0) (h : m < 18446744073709551616) (x k : Nat) (hx : x * 2 ^ k = m) (ho : x % 2 = 1) : x = odd m ∧ k = tz m := by
  obtain ⟨h1, h2⟩ := odd_mul m h0 h
  have key : k = tz m := by
    rcases Nat.lt_trichotomy k (tz m) with c | c | c
    · exfalso
      obtain ⟨d, hd⟩ : ∃ d, tz m = k + 1 + d := ⟨tz m - k - 1, by omega⟩
      rw [hd, Nat.pow_add, Nat.pow_succ] at h1
      have : x * 2 ^ k = (odd m * 2 ^ d * 2) * 2 ^ k := by
        refine hx.trans (h1.symm.trans ?_)
        ac_rfl
      have e := Nat.eq_of_mul_eq_mul_right (Nat.two_pow_pos k) this
      omega
    · exact c
    · exfalso
      obtain ⟨d, hd⟩ : ∃ d, k = tz m + 1 + d := ⟨k - tz m - 1, by omega⟩
      rw [hd, Nat.pow_add, Nat.pow_succ] at hx
      have : odd m * 2 ^ tz m = (x * 2 ^ d * 2) * 2 ^ tz m := by
        refine h1.trans (hx.symm.trans ?_)
        ac_rfl
      have e := Nat.eq_of_mul_eq_mul_right (Nat.two_pow_pos (tz m)) this
      omega
  subst key
  exact ⟨Nat.eq_of_mul_eq_mul_right (Nat.two_pow_pos _) (hx.trans h1.symm), rfl⟩
theorem qSplit_num (b : Nat) (hb : b < 18446744073709551616) (h : mg b < 9218868437227405312) (h0 : mg b ≠ 0) (w : World) :
    Calls Tryz.prog 30 #[.float .f64 b] w fun e w' => e = .returned (.tuple #[.int .i64 (spM b), .int .i64 (spE b), .int .i64 0]) ∧ w' = w := by
  have cF := fun w => qFinite b hb w
  rw [decide_eq_true h] at cF
  have cP := fun w => qParts b hb h w
  have cS := fun w => qSigned b hb w
  rw [can_fin b h] at cS
  have hm53 := mOf_lt b
  have hm0 : mOf b ≠ 0 := fun e => h0 ((mOf_zero b).1 e)
  have hm0z : ((mOf b : Int) == 0) = false := by rw [beq_eq_false_iff_ne]; omega
  have hz64 := (tz_spec (mOf b) hm0 (by omega)).2
  have hod : spM b = if decide (sb b ≠ 0) then -(odd (mOf b) : Int) else (odd (mOf b) : Int) := by
    unfold spM
    rw [if_neg h0]
    by_cases c : sb b = 0
    · rw [if_pos c, decide_eq_false (by simp [c])]; rfl
    · rw [if_neg c, decide_eq_true c]; rfl
  have hE : spE b = pOf b + (tz (mOf b) : Int) := by unfold spE; rw [if_neg h0]
  have hov := odd_le (mOf b)
  have hpr : -1074 ≤ pOf b ∧ pOf b ≤ 971 := ⟨pOf_ge b, by unfold pOf; omega⟩
  rw [hod, hE]
  have key := tz_odd (mOf b) hm0 (by omega)
  clear hod hE h h0
  have hodd : Hid (odd (mOf b) ≤ mOf b) := hov
  clear hov
  generalize odd (mOf b) = o at *
  generalize tz (mOf b) = t at *
  generalize mOf b = m at *
  generalize pOf b = p at *
  generalize decide (sb b ≠ 0) = sg at *
  obtain ⟨hp1, hp2⟩ := hpr
  have Hk : Hid (∀ x k : Nat, x * 2 ^ k = m → x % 2 = 1 → x = o ∧ k = t) := key
  have Hm : Hid (m ≠ 0) := hm0
  clear key hm0
  go_enter Tryz.func30, Tryz.ntmps30
  go_wp2_with (first | (go_at_call 39; refine (cF _).mono ?_; rintro e w' ⟨rfl, rfl⟩) | (go_at_call 40; refine (cP _).mono ?_; rintro e w' ⟨rfl, rfl⟩))
  go_loop [5, 6] (fun vm ve => ∃ x k : Nat, vm = .int .u64 (x : Int) ∧ ve = .int .i64 (p + (k : Int)) ∧ k ≤ 64 ∧ x ≤ m ∧ Hid (x * 2 ^ k = m)) (fun vm _ => (Go.RowKit.intOf vm).toNat)
  case atStart => exact ⟨m, 0, rfl, by simp, by omega, Nat.le_refl _, by show m * 2 ^ 0 = m; omega⟩
  case round =>
    obtain ⟨x, k, rfl, rfl, hk, hx, hxm⟩ := hrel
    by_cases h2 : x % 2 = 0
    · have hz : (x : Int) % 2 = 0 := by omega
      have hd : (x : Int) / 2 = ((x / 2 : Nat) : Int) := by omega
      have hx0 : x ≠ 0 := fun e => by have := hxm.out; rw [e, Nat.zero_mul] at this; exact Hm.out this.symm
      have HN : Hid ((x / 2) * 2 ^ (k + 1) = m ∧ k + 1 ≤ 64 ∧ x / 2 ≤ m ∧ x / 2 < x) := by
        have e2 : (x / 2) * 2 ^ (k + 1) = m := by
          rw [Nat.pow_succ, Nat.mul_comm (2 ^ k) 2, ← Nat.mul_assoc, show x / 2 * 2 = x from by omega]
          exact hxm.out
        refine ⟨e2, ?_, by omega, by omega⟩
        have : 2 ^ (k + 1) ≤ m := by
          rw [← e2]
          exact Nat.le_mul_of_pos_left _ (by omega)
        have := (Nat.pow_lt_pow_iff_right (a := 2) (by decide)).1 (show 2 ^ (k + 1) < 2 ^ 64 by omega)
        omega
      clear h2 hx0 hxm
      generalize x / 2 = x2 at *
      go_wp2
      exact ⟨⟨x2, k + 1, by first | rfl | go_num, by go_num, HN.out.2.1, HN.out.2.2.1, HN.out.1⟩, by have := HN.out.2.2.2; simp [Go.RowKit.intOf]; omega⟩
    · have hz : ((x : Int) % 2 == 0) = false := by rw [beq_eq_false_iff_ne]; omega
      obtain ⟨rfl, rfl⟩ := Hk.out x k hxm.out (by omega)
      clear h2 hxm Hk
      cases sg
      · go_wp2_with (go_at_call 15; refine (cS _).mono ?_; rintro e w' ⟨rfl, rfl⟩)
        go_ret3
        exact ⟨rfl, rfl⟩
      · go_wp2_with (go_at_call 15; refine (cS _).mono ?_; rintro e w' ⟨rfl, rfl⟩)
        go_ret3
        exact ⟨rfl, rfl⟩
theorem qSplit_zero (b : Nat) (hb : b < 18446744073709551616) (h : mg b = 0) (w : World) :
    Calls Tryz.prog 30 #[.float .f64 b] w fun e w' => e = .returned (.tuple #[.int .i64 0, .int .i64 0, .int .i64 0]) ∧ w' = w := by
  have cF := fun w => qFinite b hb w
  rw [decide_eq_true (show mg b < 9218868437227405312 by omega)] at cF
  have cP := fun w => qParts b hb (by omega) w
  rw [(mOf_zero b).2 h] at cP
  have hpr : -1074 ≤ pOf b ∧ pOf b ≤ 971 := ⟨pOf_ge b, by unfold pOf; omega⟩
  generalize pOf b = p at *
  clear h
  go_enter Tryz.func30, Tryz.ntmps30
  go_wp2_with (first | (go_at_call 39; refine (cF _).mono ?_; rintro e w' ⟨rfl, rfl⟩) | (go_at_call 40; refine (cP _).mono ?_; rintro e w' ⟨rfl, rfl⟩))
  go_ret3
  exact ⟨rfl, rfl⟩
theorem qSplit_bad (b : Nat) (hb : b < 18446744073709551616) (h : ¬ mg b < 9218868437227405312) (w : World) :
    Calls Tryz.prog 30 #[.float .f64 b] w fun e w' => e = .returned (.tuple #[.int .i64 0, .int .i64 0, .int .i64 20]) ∧ w' = w := by
  have cF := fun w => qFinite b hb w
  rw [decide_eq_false h] at cF
  clear h
  go_enter Tryz.func30, Tryz.ntmps30
  go_wp2_with (go_at_call 39; refine (cF _).mono ?_; rintro e w' ⟨rfl, rfl⟩)
  go_ret3
  exact ⟨rfl, rfl⟩
theorem qSplit (b : Nat) (hb : b < 18446744073709551616) (w : World) :
    Calls Tryz.prog 30 #[.float .f64 b] w fun e w' => e = .returned (.tuple #[.int .i64 (slM b), .int .i64 (slE b), .int .i64 (spF b)]) ∧ w' = w := by
  unfold slM slE spF
  by_cases c1 : mg b < 9218868437227405312
  · rw [if_pos c1, if_pos c1, if_pos c1]
    by_cases c2 : mg b = 0
    · have e1 : spM b = 0 := by unfold spM; rw [if_pos c2]
      have e2 : spE b = 0 := by unfold spE; rw [if_pos c2]
      rw [e1, e2]
      exact qSplit_zero b hb c2 w
    · exact qSplit_num b hb c1 c2 w
  · rw [if_neg c1, if_neg c1, if_neg c1]
    exact qSplit_bad b hb c1 w
theorem qExact (b : Nat) (hb : b < 18446744073709551616) (k : Int) (w : World) :
    Calls Tryz.prog 37 #[.float .f64 b, .int .i64 k] w fun e w' => e = .returned (.bool (exB b k)) ∧ w' = w := by
  have cS := qSplit b hb w
  obtain ⟨hE1, hE2⟩ := slE_bd b
  unfold exB
  generalize slM b = m at *
  generalize slE b = x at *
  generalize spF b = f at *
  by_cases h1 : f = 0
  · have h1z : (f == 0) = true := by rw [beq_iff_eq]; exact h1
    rw [decide_eq_true h1, Bool.true_and]
    clear h1
    by_cases h2 : m = 0
    · have h2z : (m == 0) = true := by rw [beq_iff_eq]; exact h2
      rw [decide_eq_true h2, Bool.true_or]
      clear h2
      go_enter Tryz.func37, Tryz.ntmps37
      go_wp2_with fail
      refine cS.mono ?_
      rintro e w' ⟨rfl, rfl⟩
      go_wp2
      go_ret
      exact ⟨rfl, rfl⟩
    · have h2z : (m == 0) = false := by rw [beq_eq_false_iff_ne]; exact h2
      rw [decide_eq_false h2, Bool.false_or]
      clear h2
      go_enter Tryz.func37, Tryz.ntmps37
      go_wp2_with fail
      refine cS.mono ?_
      rintro e w' ⟨rfl, rfl⟩
      go_wp2
      go_ret
      exact ⟨rfl, rfl⟩
  · have h1z : (f == 0) = false := by rw [beq_eq_false_iff_ne]; exact h1
    rw [decide_eq_false h1, Bool.false_and]
    clear h1
    go_enter Tryz.func37, Tryz.ntmps37
    go_wp2_with fail
    refine cS.mono ?_
    rintro e w' ⟨rfl, rfl⟩
    go_wp2
    go_ret
    exact ⟨rfl, rfl⟩
end Go.Proofs.YtbnclgndgjmmkaaGreatDoor.Sca
