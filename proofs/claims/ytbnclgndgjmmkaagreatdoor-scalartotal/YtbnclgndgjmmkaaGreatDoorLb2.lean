/- ScalarTotal, whole. -/
import Derived.Test.YtbnclgndgjmmkaaGreatDoorLb
namespace Go.Proofs.YtbnclgndgjmmkaaGreatDoor.Sca
open Go.RowKit Go.Lib Go.Shelf

theorem cmp3_neg (x y : Nat) : (cmp3 y x != -(cmp3 x y)) = false := by
  unfold cmp3
  split <;> split <;> first | rfl | omega | skip
  all_goals (split <;> first | rfl | omega)
theorem cmp3_bd (x y : Nat) : -1 ≤ cmp3 x y ∧ cmp3 x y ≤ 1 := by
  unfold cmp3
  split
  · decide
  · split <;> decide
theorem cmp3_zero (x y : Nat) : (cmp3 x y == 0) = decide (x = y) := by
  unfold cmp3
  split
  · rw [decide_eq_false (by omega)]; rfl
  · split
    · rw [decide_eq_false (by omega)]; rfl
    · rw [decide_eq_true (by omega)]; rfl
theorem cmp3_le (x y : Nat) : cmp3 x y ≤ 0 ↔ x ≤ y := by
  unfold cmp3
  split
  · omega
  · split <;> omega
theorem cmp3_ge (x y : Nat) : 0 ≤ cmp3 x y ↔ y ≤ x := by
  unfold cmp3
  split
  · omega
  · split <;> omega
theorem total_law (b c d : Nat) (hb : b < 18446744073709551616) (hc : c < 18446744073709551616) (hd : d < 18446744073709551616) (w : World) (hT : Tb w) :
    Calls Tryz.prog 5 #[.int .u64 (b : Int), .int .u64 (c : Int), .int .u64 (d : Int)] w fun e w' => e = .returned (.bool true) ∧ Below w.heap.size w w' := by
  have hbd := cmp3_bd (rk (can b)) (rk (can c))
  have hsm : (cmp3 (rk (can b)) (rk (can c)) == 0) = (can b == can c) := by
    rw [cmp3_zero]
    by_cases h : can b = can c
    · rw [h]; simp
    · rw [decide_eq_false (fun e => h ((rk_inj (can_lt hb) (can_lt hc)).1 e)), beq_eq_false_iff_ne.2 h]
  have hg : decide (cmp3 (rk (can b)) (rk (can c)) ≤ 0) = false ∨ (decide (cmp3 (rk (can b)) (rk (can c)) ≤ 0) = true ∧ decide (cmp3 (rk (can c)) (rk (can d)) ≤ 0) = false) ∨ (decide (cmp3 (rk (can b)) (rk (can c)) ≤ 0) = true ∧ decide (cmp3 (rk (can c)) (rk (can d)) ≤ 0) = true ∧ decide (0 < cmp3 (rk (can b)) (rk (can d))) = false) := by
    by_cases h1 : cmp3 (rk (can b)) (rk (can c)) ≤ 0
    · by_cases h2 : cmp3 (rk (can c)) (rk (can d)) ≤ 0
      · have h3 : cmp3 (rk (can b)) (rk (can d)) ≤ 0 := (cmp3_le _ _).2 (Nat.le_trans ((cmp3_le _ _).1 h1) ((cmp3_le _ _).1 h2))
        exact .inr (.inr ⟨decide_eq_true h1, decide_eq_true h2, decide_eq_false (by omega)⟩)
      · exact .inr (.inl ⟨decide_eq_true h1, decide_eq_false h2⟩)
    · exact .inl (decide_eq_false h1)
  have cN := fun w => sNextU b hb w
  have cK := fun w => sClass b hb w
  by_cases h1 : 9218868437227405312 < mg b
  · rw [show clsOf b = 1 from by unfold clsOf; rw [if_pos h1]] at cK
    exact total_A b c d _ _ _ _ _ w hT (sOf b) (sOf c) (sOf d) (sCompare b c hb hc) (sCompare c d hc hd) (sCompare b d hb hd) (sCompare c b hc hb) (sSame b c) (decide_eq_false (by omega)) (decide_eq_false (by omega)) (cmp3_neg _ _) hbd hsm hg _ cN cK
  have hk : ((clsOf b : Int) == 1) = false := by
    rw [beq_eq_false_iff_ne]
    unfold clsOf
    rw [if_neg h1]
    split
    · decide
    · split
      · decide
      · split <;> decide
  by_cases h2 : b = 9218868437227405312
  · have hn : nxU b = b := by unfold nxU; rw [if_pos (.inr h2)]
    rw [hn] at cN
    have cS := fun w => sSame b b w
    rw [beq_self_eq_true] at cS
    exact total_B b c d _ _ _ _ _ w hT (sOf b) (sOf c) (sOf d) (sCompare b c hb hc) (sCompare c d hc hd) (sCompare b d hb hd) (sCompare c b hc hb) (sSame b c) (decide_eq_false (by omega)) (decide_eq_false (by omega)) (cmp3_neg _ _) hbd hsm hg _ _ hk cN cK cS
  · obtain ⟨e1, e2, e3, e4⟩ := nx_step b hb h1 h2
    have hl := nxU_lt b hb
    have cS := fun w => sSame (nxU b) b w
    rw [e1, e2, beq_eq_false_iff_ne.2 (fun e => by rw [e] at e3; omega)] at cS
    have cC := fun w => sCompare b (nxU b) hb hl w
    rw [e1, e2, e3, show cmp3 (rk b) (rk b + 1) = -1 from by unfold cmp3; rw [if_pos (by omega)]] at cC
    have cY := fun w => sCompare c (nxU b) hc hl w
    have cD := fun w => sNextD (nxU b) hl w
    rw [e4] at cD
    have cE := fun w => sSame b b w
    rw [beq_self_eq_true] at cE
    by_cases h3 : cmp3 (rk (can c)) (rk (can b)) ≤ 0
    · exact total_C1 b c d _ _ _ _ _ w hT (sOf b) (sOf c) (sOf d) (sCompare b c hb hc) (sCompare c d hc hd) (sCompare b d hb hd) (sCompare c b hc hb) (sSame b c) (decide_eq_false (by omega)) (decide_eq_false (by omega)) (cmp3_neg _ _) hbd hsm hg _ _ _ hk cN cK cS cC cY cD cE (decide_eq_true h3)
    · have h4 : 0 ≤ cmp3 (rk (can c)) (rk (can (nxU b))) := by
        rw [cmp3_ge, e2, e3]
        rw [cmp3_le, e1] at h3
        omega
      exact total_C2 b c d _ _ _ _ _ w hT (sOf b) (sOf c) (sOf d) (sCompare b c hb hc) (sCompare c d hc hd) (sCompare b d hb hd) (sCompare c b hc hb) (sSame b c) (decide_eq_false (by omega)) (decide_eq_false (by omega)) (cmp3_neg _ _) hbd hsm hg _ _ _ hk cN cK cS cC cY cD cE (decide_eq_false h3) (decide_eq_true h4)
end Go.Proofs.YtbnclgndgjmmkaaGreatDoor.Sca
