/- The document's Join, Half, Plus, as they are walked. -/
import Derived.Test.YtbnclgndgjmmkaaGreatDoorQe
import Derived.Test.YtbnclgndgjmmkaaGreatDoorQc
namespace Go.Proofs.YtbnclgndgjmmkaaGreatDoor.Sca
open Go.RowKit Go.Lib Go.Shelf

theorem rung_can (m : Nat) (e : Int) : can (rung m e) = rung m e := by
  have := rung_le m e
  exact can_num _ (by unfold mg; omega)
set_option maxRecDepth 100000 in
theorem qJoin (m e : Int) (h1 : -9223372036854775808 ≤ m) (h2 : m ≤ 9223372036854775807) (he1 : -9223372036854775808 ≤ e) (he2 : e ≤ 9223372036854775807) (w : World) :
    Calls Tryz.prog 33 #[.int .i64 m, .int .i64 e] w fun e' w' => e' = .returned (.float .f64 (joinB m e)) ∧ ∃ q, w' = w.drewN q := by
  unfold joinB
  by_cases c : m < 0
  · have cz : decide (0 ≤ m) = false := decide_eq_false (by omega)
    rw [if_pos c]
    obtain ⟨k, hk⟩ : ∃ k : Nat, m.natAbs = k := ⟨_, rfl⟩
    have cP := fun w => qRounded k e (by omega) he1 he2 w
    have hr := rung_le k e
    have cB := fun w => qBits (rung k e) (by omega) w
    rw [rung_can] at cB
    have ho := or_sign (rung k e) (by omega)
    rw [Nat.add_comm] at ho
    rw [hk]
    have hw : IntKind.u64.wrap (Go.RowKit.wrap64 (-(Go.RowKit.wrap64 (m + 1)))) = ((k - 1 : Nat) : Int) := by
      rw [wrapU]
      unfold Go.RowKit.wrap64
      omega
    have hw2 : ((k - 1 : Nat) : Int) + 1 = (k : Int) := by omega
    generalize rung k e = R at *
    have cO := fun w => qOf (9223372036854775808 + R) w
    clear c
    go_enter Tryz.func33, Tryz.ntmps33
    go_wp2_with fail
    refine (cP _).mono ?_
    rintro e1 w1 ⟨rfl, q, rfl⟩
    go_wp2_with (first | (go_at_call 17; refine (cB _).mono ?_; rintro e w' ⟨rfl, rfl⟩) | (go_at_call 9; refine (cO _).mono ?_; rintro e w' ⟨rfl, rfl⟩))
    go_ret
    exact ⟨rfl, q, rfl⟩
  · have cz : decide (0 ≤ m) = true := decide_eq_true (by omega)
    rw [if_neg c]
    obtain ⟨k, rfl⟩ : ∃ k : Nat, m = (k : Int) := ⟨m.toNat, by omega⟩
    rw [Int.natAbs_natCast, Nat.zero_add]
    have cP := fun w => qRounded k e (by omega) he1 he2 w
    go_enter Tryz.func33, Tryz.ntmps33
    go_wp2_with fail
    refine (cP _).mono ?_
    rintro e1 w1 ⟨rfl, q, rfl⟩
    go_wp2
    go_ret
    exact ⟨rfl, q, rfl⟩
theorem plus_can (b : Nat) (hb : b < 18446744073709551616) : (can b == 9223372036854775808) = decide (b = 9223372036854775808) := by
  by_cases c : b = 9223372036854775808
  · subst c; decide +kernel
  · rw [decide_eq_false c, beq_eq_false_iff_ne]
    unfold can
    split
    · decide
    · exact c
theorem qPlus (b : Nat) (hb : b < 18446744073709551616) (w : World) :
    Calls Tryz.prog 21 #[.float .f64 b] w fun e w' => e = .returned (.float .f64 (plusB b)) ∧ w' = w := by
  have cB := fun w => qBits b hb w
  have hp := plus_can b hb
  by_cases c : b = 9223372036854775808
  · subst c
    rw [show plusB 9223372036854775808 = 0 from by decide +kernel]
    rw [show can 9223372036854775808 = 9223372036854775808 from by decide +kernel] at cB
    clear hp
    go_enter Tryz.func21, Tryz.ntmps21
    go_wp2_with (go_at_call 17; refine (cB _).mono ?_; rintro e w' ⟨rfl, rfl⟩)
    go_ret
    exact ⟨rfl, rfl⟩
  · rw [decide_eq_false c] at hp
    rw [show plusB b = b from by unfold plusB mg; split <;> omega]
    have hpz : ((can b : Int) == 9223372036854775808) = false := by
      rw [beq_eq_false_iff_ne] at hp ⊢
      omega
    generalize can b = x at *
    clear hp
    go_enter Tryz.func21, Tryz.ntmps21
    go_wp2_with (go_at_call 17; refine (cB _).mono ?_; rintro e w' ⟨rfl, rfl⟩)
    go_ret
    exact ⟨rfl, rfl⟩
/-- The document's half. -/
def qh (b : Nat) : Nat := if mg b < 9218868437227405312 then half b else b
theorem half_zero (b : Nat) (h : mg b = 0) : half b = b := by
  unfold half
  rw [(mOf_zero b).2 h, show rung 0 (pOf b - 1) = 0 from rfl]
  have := mg_sb b
  omega
theorem qHalf (b : Nat) (hb : b < 18446744073709551616) (w : World) :
    Calls Tryz.prog 11 #[.float .f64 b] w fun e w' => e = .returned (.tuple #[.float .f64 (qh b), .bool (hEx b)]) ∧ ∃ q, w' = w.drewN q := by
  have cF := fun w => qFinite b hb w
  have cC := fun w => qClass b hb w
  by_cases h : mg b < 9218868437227405312
  · rw [decide_eq_true h] at cF
    rw [show qh b = half b from if_pos h]
    by_cases h0 : mg b = 0
    · rw [half_zero b h0, show hEx b = true from by unfold hEx; exact decide_eq_true (.inr (.inl (by rw [(mOf_zero b).2 h0])))]
      rw [show clsOf b = 3 from by unfold clsOf; rw [if_neg (by omega), if_neg (by omega), if_pos h0]] at cC
      clear h h0
      go_enter Tryz.func11, Tryz.ntmps11
      go_wp2_with (first | (go_at_call 39; refine (cF _).mono ?_; rintro e w' ⟨rfl, rfl⟩) | (go_at_call 13; refine (cC _).mono ?_; rintro e w' ⟨rfl, rfl⟩))
      go_ret2
      exact ⟨rfl, 0, rfl⟩
    · have hk : ((clsOf b : Int) == 3) = false := by
        rw [beq_eq_false_iff_ne]
        unfold clsOf
        rw [if_neg (by omega), if_neg (by omega), if_neg h0]
        split <;> decide
      have cP := fun w => qParts b hb h w
      have cS := fun w => qSigned b hb w
      rw [can_fin b h] at cS
      have hm := mOf_lt b
      have hpr : -1074 ≤ pOf b ∧ pOf b ≤ 971 := ⟨pOf_ge b, by unfold pOf; omega⟩
      have cR := fun w => qRounded (mOf b) (pOf b - 1) (by omega) (by omega) (by omega) w
      have hr := rung_le (mOf b) (pOf b - 1)
      have cB := fun w => qBits (rung (mOf b) (pOf b - 1)) (by omega) w
      rw [rung_can] at cB
      have ho := or_sign (rung (mOf b) (pOf b - 1)) (by omega)
      rw [Nat.add_comm] at ho
      have hx : hEx b = (((mOf b : Int) % 2 == 0) || decide (-1074 < pOf b)) := by
        unfold hEx
        by_cases c1 : mOf b % 2 = 0
        · rw [decide_eq_true (.inr (.inl c1)), show ((mOf b : Int) % 2 == 0) = true from by rw [beq_iff_eq]; omega]; rfl
        · rw [show ((mOf b : Int) % 2 == 0) = false from by rw [beq_eq_false_iff_ne]; omega, Bool.false_or]
          congr 1
          have hn : ¬ 9218868437227405312 ≤ mg b := by omega
          simp only [hn, c1, false_or]
      have hh : half b = sb b + rung (mOf b) (pOf b - 1) := rfl
      have hsb := sb_eq b hb
      rw [hx, hh]
      clear hx hh h h0
      generalize rung (mOf b) (pOf b - 1) = R at *
      have cO := fun w => qOf (9223372036854775808 + R) w
      generalize clsOf b = cl at *
      generalize mOf b = m at *
      generalize pOf b = p at *
      obtain ⟨hp1, hp2⟩ := hpr
      cases hev : ((m : Int) % 2 == 0)
      · rcases hsb with hs | hs
        · rw [hs] at cS ⊢
          rw [Nat.zero_add]
          clear hs
          go_enter Tryz.func11, Tryz.ntmps11
          go_wp2_with (first | (go_at_call 39; refine (cF _).mono ?_; rintro e w' ⟨rfl, rfl⟩) | (go_at_call 13; refine (cC _).mono ?_; rintro e w' ⟨rfl, rfl⟩) | (go_at_call 40; refine (cP _).mono ?_; rintro e w' ⟨rfl, rfl⟩))
          refine (cR _).mono ?_
          rintro e1 w1 ⟨rfl, q, rfl⟩
          go_wp2_with (first | (go_at_call 15; refine (cS _).mono ?_; rintro e w' ⟨rfl, rfl⟩) | (go_at_call 17; refine (cB _).mono ?_; rintro e w' ⟨rfl, rfl⟩) | (go_at_call 9; refine (cO _).mono ?_; rintro e w' ⟨rfl, rfl⟩))
          go_ret2
          exact ⟨rfl, q, rfl⟩
        · rw [hs] at cS ⊢
          clear hs
          go_enter Tryz.func11, Tryz.ntmps11
          go_wp2_with (first | (go_at_call 39; refine (cF _).mono ?_; rintro e w' ⟨rfl, rfl⟩) | (go_at_call 13; refine (cC _).mono ?_; rintro e w' ⟨rfl, rfl⟩) | (go_at_call 40; refine (cP _).mono ?_; rintro e w' ⟨rfl, rfl⟩))
          refine (cR _).mono ?_
          rintro e1 w1 ⟨rfl, q, rfl⟩
          go_wp2_with (first | (go_at_call 15; refine (cS _).mono ?_; rintro e w' ⟨rfl, rfl⟩) | (go_at_call 17; refine (cB _).mono ?_; rintro e w' ⟨rfl, rfl⟩) | (go_at_call 9; refine (cO _).mono ?_; rintro e w' ⟨rfl, rfl⟩))
          go_ret2
          exact ⟨rfl, q, rfl⟩
      · rcases hsb with hs | hs
        · rw [hs] at cS ⊢
          rw [Nat.zero_add]
          clear hs
          go_enter Tryz.func11, Tryz.ntmps11
          go_wp2_with (first | (go_at_call 39; refine (cF _).mono ?_; rintro e w' ⟨rfl, rfl⟩) | (go_at_call 13; refine (cC _).mono ?_; rintro e w' ⟨rfl, rfl⟩) | (go_at_call 40; refine (cP _).mono ?_; rintro e w' ⟨rfl, rfl⟩))
          refine (cR _).mono ?_
          rintro e1 w1 ⟨rfl, q, rfl⟩
          go_wp2_with (first | (go_at_call 15; refine (cS _).mono ?_; rintro e w' ⟨rfl, rfl⟩) | (go_at_call 17; refine (cB _).mono ?_; rintro e w' ⟨rfl, rfl⟩) | (go_at_call 9; refine (cO _).mono ?_; rintro e w' ⟨rfl, rfl⟩))
          go_ret2
          exact ⟨rfl, q, rfl⟩
        · rw [hs] at cS ⊢
          clear hs
          go_enter Tryz.func11, Tryz.ntmps11
          go_wp2_with (first | (go_at_call 39; refine (cF _).mono ?_; rintro e w' ⟨rfl, rfl⟩) | (go_at_call 13; refine (cC _).mono ?_; rintro e w' ⟨rfl, rfl⟩) | (go_at_call 40; refine (cP _).mono ?_; rintro e w' ⟨rfl, rfl⟩))
          refine (cR _).mono ?_
          rintro e1 w1 ⟨rfl, q, rfl⟩
          go_wp2_with (first | (go_at_call 15; refine (cS _).mono ?_; rintro e w' ⟨rfl, rfl⟩) | (go_at_call 17; refine (cB _).mono ?_; rintro e w' ⟨rfl, rfl⟩) | (go_at_call 9; refine (cO _).mono ?_; rintro e w' ⟨rfl, rfl⟩))
          go_ret2
          exact ⟨rfl, q, rfl⟩
  · rw [decide_eq_false h] at cF
    rw [show qh b = b from if_neg h, show hEx b = true from by unfold hEx; exact decide_eq_true (.inl (by omega))]
    clear h
    go_enter Tryz.func11, Tryz.ntmps11
    go_wp2_with (go_at_call 39; refine (cF _).mono ?_; rintro e w' ⟨rfl, rfl⟩)
    go_ret2
    exact ⟨rfl, 0, rfl⟩
end Go.Proofs.YtbnclgndgjmmkaaGreatDoor.Sca
