/- The document's kinds: Is, names, Name, Of, Arity, Controls, Halving, Clifford, Diagonal, Monomial, Inverse. -/
import Derived.Test.YtkbodljmkhnebaaGreatDoorMd893b126
/- The document's kinds: Is, names, Name, Of, Arity, Controls, Halving, Clifford, Diagonal, Monomial, Inverse. -/
namespace Go.Proofs.YtkbodljmkhnebaaGreatDoor.Gt
open Go.RowKit Go.Proofs.YtkbodljmkhnebaaGreatDoor.Oct

theorem k_cases (k : Int) : (1 ≤ k ∧ k ≤ 20) ∨ (rw' k = r0 ∧ (k < 1 ∨ 20 < k)) := by
  by_cases h : 1 ≤ k ∧ k ≤ 20
  · exact .inl h
  · refine .inr ⟨?_, by omega⟩
    unfold rw'
    by_cases c : 0 ≤ k ∧ k < 21
    · obtain rfl : k = 0 := by omega
      rfl
    · rw [if_neg c]
theorem k_twenty {k : Int} (h : 1 ≤ k ∧ k ≤ 20) : k = 1 ∨ k = 2 ∨ k = 3 ∨ k = 4 ∨ k = 5 ∨ k = 6 ∨ k = 7 ∨ k = 8 ∨ k = 9 ∨ k = 10 ∨ k = 11 ∨ k = 12 ∨ k = 13 ∨ k = 14 ∨ k = 15 ∨ k = 16 ∨ k = 17 ∨ k = 18 ∨ k = 19 ∨ k = 20 := by omega

set_option maxRecDepth 100000 in
set_option maxHeartbeats 1000000 in
theorem hIs (k : Int) (w : World) : Calls Tryz.prog 36 #[.int .i64 k] w fun e w' => e = .returned (.bool (knB (rw' k))) ∧ w' = w := by
  rcases k_cases k with h | ⟨h, hk⟩
  · rcases k_twenty h with rfl | rfl | rfl | rfl | rfl | rfl | rfl | rfl | rfl | rfl | rfl | rfl | rfl | rfl | rfl | rfl | rfl | rfl | rfl | rfl
    · rw [show knB (rw' 1) = true from by decide +kernel]
      go_enter Tryz.func36, Tryz.ntmps36
      go_wp2_with (fail)
      go_ret
      exact ⟨rfl, rfl⟩
    · rw [show knB (rw' 2) = true from by decide +kernel]
      go_enter Tryz.func36, Tryz.ntmps36
      go_wp2_with (fail)
      go_ret
      exact ⟨rfl, rfl⟩
    · rw [show knB (rw' 3) = true from by decide +kernel]
      go_enter Tryz.func36, Tryz.ntmps36
      go_wp2_with (fail)
      go_ret
      exact ⟨rfl, rfl⟩
    · rw [show knB (rw' 4) = true from by decide +kernel]
      go_enter Tryz.func36, Tryz.ntmps36
      go_wp2_with (fail)
      go_ret
      exact ⟨rfl, rfl⟩
    · rw [show knB (rw' 5) = true from by decide +kernel]
      go_enter Tryz.func36, Tryz.ntmps36
      go_wp2_with (fail)
      go_ret
      exact ⟨rfl, rfl⟩
    · rw [show knB (rw' 6) = true from by decide +kernel]
      go_enter Tryz.func36, Tryz.ntmps36
      go_wp2_with (fail)
      go_ret
      exact ⟨rfl, rfl⟩
    · rw [show knB (rw' 7) = true from by decide +kernel]
      go_enter Tryz.func36, Tryz.ntmps36
      go_wp2_with (fail)
      go_ret
      exact ⟨rfl, rfl⟩
    · rw [show knB (rw' 8) = true from by decide +kernel]
      go_enter Tryz.func36, Tryz.ntmps36
      go_wp2_with (fail)
      go_ret
      exact ⟨rfl, rfl⟩
    · rw [show knB (rw' 9) = true from by decide +kernel]
      go_enter Tryz.func36, Tryz.ntmps36
      go_wp2_with (fail)
      go_ret
      exact ⟨rfl, rfl⟩
    · rw [show knB (rw' 10) = true from by decide +kernel]
      go_enter Tryz.func36, Tryz.ntmps36
      go_wp2_with (fail)
      go_ret
      exact ⟨rfl, rfl⟩
    · rw [show knB (rw' 11) = true from by decide +kernel]
      go_enter Tryz.func36, Tryz.ntmps36
      go_wp2_with (fail)
      go_ret
      exact ⟨rfl, rfl⟩
    · rw [show knB (rw' 12) = true from by decide +kernel]
      go_enter Tryz.func36, Tryz.ntmps36
      go_wp2_with (fail)
      go_ret
      exact ⟨rfl, rfl⟩
    · rw [show knB (rw' 13) = true from by decide +kernel]
      go_enter Tryz.func36, Tryz.ntmps36
      go_wp2_with (fail)
      go_ret
      exact ⟨rfl, rfl⟩
    · rw [show knB (rw' 14) = true from by decide +kernel]
      go_enter Tryz.func36, Tryz.ntmps36
      go_wp2_with (fail)
      go_ret
      exact ⟨rfl, rfl⟩
    · rw [show knB (rw' 15) = true from by decide +kernel]
      go_enter Tryz.func36, Tryz.ntmps36
      go_wp2_with (fail)
      go_ret
      exact ⟨rfl, rfl⟩
    · rw [show knB (rw' 16) = true from by decide +kernel]
      go_enter Tryz.func36, Tryz.ntmps36
      go_wp2_with (fail)
      go_ret
      exact ⟨rfl, rfl⟩
    · rw [show knB (rw' 17) = true from by decide +kernel]
      go_enter Tryz.func36, Tryz.ntmps36
      go_wp2_with (fail)
      go_ret
      exact ⟨rfl, rfl⟩
    · rw [show knB (rw' 18) = true from by decide +kernel]
      go_enter Tryz.func36, Tryz.ntmps36
      go_wp2_with (fail)
      go_ret
      exact ⟨rfl, rfl⟩
    · rw [show knB (rw' 19) = true from by decide +kernel]
      go_enter Tryz.func36, Tryz.ntmps36
      go_wp2_with (fail)
      go_ret
      exact ⟨rfl, rfl⟩
    · rw [show knB (rw' 20) = true from by decide +kernel]
      go_enter Tryz.func36, Tryz.ntmps36
      go_wp2_with (fail)
      go_ret
      exact ⟨rfl, rfl⟩
  · rw [h, show knB (r0) = false from by decide]
    rcases hk with hk | hk
    · have dum := True.intro
      have a1 : decide (1 ≤ k) = false := decide_eq_false (by omega)
      have a7 : decide (7 ≤ k) = false := decide_eq_false (by omega)
      have b10 : decide (k ≤ 10) = true := decide_eq_true (by omega)
      have b17 : decide (k ≤ 17) = true := decide_eq_true (by omega)
      have b20 : decide (k ≤ 20) = true := decide_eq_true (by omega)
      go_enter Tryz.func36, Tryz.ntmps36
      go_wp2_with (fail)
      go_ret
      exact ⟨rfl, rfl⟩
    · have dum := True.intro
      have a1 : decide (1 ≤ k) = true := decide_eq_true (by omega)
      have a7 : decide (7 ≤ k) = true := decide_eq_true (by omega)
      have b10 : decide (k ≤ 10) = false := decide_eq_false (by omega)
      have b17 : decide (k ≤ 17) = false := decide_eq_false (by omega)
      have b20 : decide (k ≤ 20) = false := decide_eq_false (by omega)
      go_enter Tryz.func36, Tryz.ntmps36
      go_wp2_with (fail)
      go_ret
      exact ⟨rfl, rfl⟩
set_option maxRecDepth 100000 in
set_option maxHeartbeats 1000000 in
theorem hHalving (k : Int) (w : World) : Calls Tryz.prog 38 #[.int .i64 k] w fun e w' => e = .returned (.bool (hvB (rw' k))) ∧ w' = w := by
  rcases k_cases k with h | ⟨h, hk⟩
  · rcases k_twenty h with rfl | rfl | rfl | rfl | rfl | rfl | rfl | rfl | rfl | rfl | rfl | rfl | rfl | rfl | rfl | rfl | rfl | rfl | rfl | rfl
    · rw [show hvB (rw' 1) = false from by decide +kernel]
      go_enter Tryz.func38, Tryz.ntmps38
      go_wp2_with (fail)
      go_ret
      exact ⟨rfl, rfl⟩
    · rw [show hvB (rw' 2) = false from by decide +kernel]
      go_enter Tryz.func38, Tryz.ntmps38
      go_wp2_with (fail)
      go_ret
      exact ⟨rfl, rfl⟩
    · rw [show hvB (rw' 3) = false from by decide +kernel]
      go_enter Tryz.func38, Tryz.ntmps38
      go_wp2_with (fail)
      go_ret
      exact ⟨rfl, rfl⟩
    · rw [show hvB (rw' 4) = false from by decide +kernel]
      go_enter Tryz.func38, Tryz.ntmps38
      go_wp2_with (fail)
      go_ret
      exact ⟨rfl, rfl⟩
    · rw [show hvB (rw' 5) = false from by decide +kernel]
      go_enter Tryz.func38, Tryz.ntmps38
      go_wp2_with (fail)
      go_ret
      exact ⟨rfl, rfl⟩
    · rw [show hvB (rw' 6) = false from by decide +kernel]
      go_enter Tryz.func38, Tryz.ntmps38
      go_wp2_with (fail)
      go_ret
      exact ⟨rfl, rfl⟩
    · rw [show hvB (rw' 7) = true from by decide +kernel]
      go_enter Tryz.func38, Tryz.ntmps38
      go_wp2_with (fail)
      go_ret
      exact ⟨rfl, rfl⟩
    · rw [show hvB (rw' 8) = true from by decide +kernel]
      go_enter Tryz.func38, Tryz.ntmps38
      go_wp2_with (fail)
      go_ret
      exact ⟨rfl, rfl⟩
    · rw [show hvB (rw' 9) = true from by decide +kernel]
      go_enter Tryz.func38, Tryz.ntmps38
      go_wp2_with (fail)
      go_ret
      exact ⟨rfl, rfl⟩
    · rw [show hvB (rw' 10) = true from by decide +kernel]
      go_enter Tryz.func38, Tryz.ntmps38
      go_wp2_with (fail)
      go_ret
      exact ⟨rfl, rfl⟩
    · rw [show hvB (rw' 11) = false from by decide +kernel]
      go_enter Tryz.func38, Tryz.ntmps38
      go_wp2_with (fail)
      go_ret
      exact ⟨rfl, rfl⟩
    · rw [show hvB (rw' 12) = false from by decide +kernel]
      go_enter Tryz.func38, Tryz.ntmps38
      go_wp2_with (fail)
      go_ret
      exact ⟨rfl, rfl⟩
    · rw [show hvB (rw' 13) = false from by decide +kernel]
      go_enter Tryz.func38, Tryz.ntmps38
      go_wp2_with (fail)
      go_ret
      exact ⟨rfl, rfl⟩
    · rw [show hvB (rw' 14) = false from by decide +kernel]
      go_enter Tryz.func38, Tryz.ntmps38
      go_wp2_with (fail)
      go_ret
      exact ⟨rfl, rfl⟩
    · rw [show hvB (rw' 15) = false from by decide +kernel]
      go_enter Tryz.func38, Tryz.ntmps38
      go_wp2_with (fail)
      go_ret
      exact ⟨rfl, rfl⟩
    · rw [show hvB (rw' 16) = false from by decide +kernel]
      go_enter Tryz.func38, Tryz.ntmps38
      go_wp2_with (fail)
      go_ret
      exact ⟨rfl, rfl⟩
    · rw [show hvB (rw' 17) = true from by decide +kernel]
      go_enter Tryz.func38, Tryz.ntmps38
      go_wp2_with (fail)
      go_ret
      exact ⟨rfl, rfl⟩
    · rw [show hvB (rw' 18) = false from by decide +kernel]
      go_enter Tryz.func38, Tryz.ntmps38
      go_wp2_with (fail)
      go_ret
      exact ⟨rfl, rfl⟩
    · rw [show hvB (rw' 19) = false from by decide +kernel]
      go_enter Tryz.func38, Tryz.ntmps38
      go_wp2_with (fail)
      go_ret
      exact ⟨rfl, rfl⟩
    · rw [show hvB (rw' 20) = false from by decide +kernel]
      go_enter Tryz.func38, Tryz.ntmps38
      go_wp2_with (fail)
      go_ret
      exact ⟨rfl, rfl⟩
  · rw [h, show hvB (r0) = false from by decide]
    rcases hk with hk | hk
    · have dum := True.intro
      have a1 : decide (1 ≤ k) = false := decide_eq_false (by omega)
      have a7 : decide (7 ≤ k) = false := decide_eq_false (by omega)
      have b10 : decide (k ≤ 10) = true := decide_eq_true (by omega)
      have b17 : decide (k ≤ 17) = true := decide_eq_true (by omega)
      have b20 : decide (k ≤ 20) = true := decide_eq_true (by omega)
      have n1 : (k == 1) = false := by rw [beq_eq_false_iff_ne]; omega
      have n2 : (k == 2) = false := by rw [beq_eq_false_iff_ne]; omega
      have n3 : (k == 3) = false := by rw [beq_eq_false_iff_ne]; omega
      have n4 : (k == 4) = false := by rw [beq_eq_false_iff_ne]; omega
      have n5 : (k == 5) = false := by rw [beq_eq_false_iff_ne]; omega
      have n6 : (k == 6) = false := by rw [beq_eq_false_iff_ne]; omega
      have n7 : (k == 7) = false := by rw [beq_eq_false_iff_ne]; omega
      have n8 : (k == 8) = false := by rw [beq_eq_false_iff_ne]; omega
      have n9 : (k == 9) = false := by rw [beq_eq_false_iff_ne]; omega
      have n10 : (k == 10) = false := by rw [beq_eq_false_iff_ne]; omega
      have n11 : (k == 11) = false := by rw [beq_eq_false_iff_ne]; omega
      have n12 : (k == 12) = false := by rw [beq_eq_false_iff_ne]; omega
      have n13 : (k == 13) = false := by rw [beq_eq_false_iff_ne]; omega
      have n14 : (k == 14) = false := by rw [beq_eq_false_iff_ne]; omega
      have n15 : (k == 15) = false := by rw [beq_eq_false_iff_ne]; omega
      have n16 : (k == 16) = false := by rw [beq_eq_false_iff_ne]; omega
      have n17 : (k == 17) = false := by rw [beq_eq_false_iff_ne]; omega
      have n18 : (k == 18) = false := by rw [beq_eq_false_iff_ne]; omega
      have n19 : (k == 19) = false := by rw [beq_eq_false_iff_ne]; omega
      have n20 : (k == 20) = false := by rw [beq_eq_false_iff_ne]; omega
      go_enter Tryz.func38, Tryz.ntmps38
      go_wp2_with (fail)
      go_ret
      exact ⟨rfl, rfl⟩
    · have dum := True.intro
      have a1 : decide (1 ≤ k) = true := decide_eq_true (by omega)
      have a7 : decide (7 ≤ k) = true := decide_eq_true (by omega)
      have b10 : decide (k ≤ 10) = false := decide_eq_false (by omega)
      have b17 : decide (k ≤ 17) = false := decide_eq_false (by omega)
      have b20 : decide (k ≤ 20) = false := decide_eq_false (by omega)
      have n1 : (k == 1) = false := by rw [beq_eq_false_iff_ne]; omega
      have n2 : (k == 2) = false := by rw [beq_eq_false_iff_ne]; omega
      have n3 : (k == 3) = false := by rw [beq_eq_false_iff_ne]; omega
      have n4 : (k == 4) = false := by rw [beq_eq_false_iff_ne]; omega
      have n5 : (k == 5) = false := by rw [beq_eq_false_iff_ne]; omega
      have n6 : (k == 6) = false := by rw [beq_eq_false_iff_ne]; omega
      have n7 : (k == 7) = false := by rw [beq_eq_false_iff_ne]; omega
      have n8 : (k == 8) = false := by rw [beq_eq_false_iff_ne]; omega
      have n9 : (k == 9) = false := by rw [beq_eq_false_iff_ne]; omega
      have n10 : (k == 10) = false := by rw [beq_eq_false_iff_ne]; omega
      have n11 : (k == 11) = false := by rw [beq_eq_false_iff_ne]; omega
      have n12 : (k == 12) = false := by rw [beq_eq_false_iff_ne]; omega
      have n13 : (k == 13) = false := by rw [beq_eq_false_iff_ne]; omega
      have n14 : (k == 14) = false := by rw [beq_eq_false_iff_ne]; omega
      have n15 : (k == 15) = false := by rw [beq_eq_false_iff_ne]; omega
      have n16 : (k == 16) = false := by rw [beq_eq_false_iff_ne]; omega
      have n17 : (k == 17) = false := by rw [beq_eq_false_iff_ne]; omega
      have n18 : (k == 18) = false := by rw [beq_eq_false_iff_ne]; omega
      have n19 : (k == 19) = false := by rw [beq_eq_false_iff_ne]; omega
      have n20 : (k == 20) = false := by rw [beq_eq_false_iff_ne]; omega
      go_enter Tryz.func38, Tryz.ntmps38
      go_wp2_with (fail)
      go_ret
      exact ⟨rfl, rfl⟩
set_option maxRecDepth 100000 in
set_option maxHeartbeats 1000000 in
theorem hClifford (k : Int) (w : World) : Calls Tryz.prog 43 #[.int .i64 k] w fun e w' => e = .returned (.bool (clB (rw' k))) ∧ w' = w := by
  rcases k_cases k with h | ⟨h, hk⟩
  · rcases k_twenty h with rfl | rfl | rfl | rfl | rfl | rfl | rfl | rfl | rfl | rfl | rfl | rfl | rfl | rfl | rfl | rfl | rfl | rfl | rfl | rfl
    · rw [show clB (rw' 1) = true from by decide +kernel]
      go_enter Tryz.func43, Tryz.ntmps43
      go_wp2_with (fail)
      go_ret
      exact ⟨rfl, rfl⟩
    · rw [show clB (rw' 2) = true from by decide +kernel]
      go_enter Tryz.func43, Tryz.ntmps43
      go_wp2_with (fail)
      go_ret
      exact ⟨rfl, rfl⟩
    · rw [show clB (rw' 3) = true from by decide +kernel]
      go_enter Tryz.func43, Tryz.ntmps43
      go_wp2_with (fail)
      go_ret
      exact ⟨rfl, rfl⟩
    · rw [show clB (rw' 4) = true from by decide +kernel]
      go_enter Tryz.func43, Tryz.ntmps43
      go_wp2_with (fail)
      go_ret
      exact ⟨rfl, rfl⟩
    · rw [show clB (rw' 5) = true from by decide +kernel]
      go_enter Tryz.func43, Tryz.ntmps43
      go_wp2_with (fail)
      go_ret
      exact ⟨rfl, rfl⟩
    · rw [show clB (rw' 6) = true from by decide +kernel]
      go_enter Tryz.func43, Tryz.ntmps43
      go_wp2_with (fail)
      go_ret
      exact ⟨rfl, rfl⟩
    · rw [show clB (rw' 7) = true from by decide +kernel]
      go_enter Tryz.func43, Tryz.ntmps43
      go_wp2_with (fail)
      go_ret
      exact ⟨rfl, rfl⟩
    · rw [show clB (rw' 8) = true from by decide +kernel]
      go_enter Tryz.func43, Tryz.ntmps43
      go_wp2_with (fail)
      go_ret
      exact ⟨rfl, rfl⟩
    · rw [show clB (rw' 9) = true from by decide +kernel]
      go_enter Tryz.func43, Tryz.ntmps43
      go_wp2_with (fail)
      go_ret
      exact ⟨rfl, rfl⟩
    · rw [show clB (rw' 10) = true from by decide +kernel]
      go_enter Tryz.func43, Tryz.ntmps43
      go_wp2_with (fail)
      go_ret
      exact ⟨rfl, rfl⟩
    · rw [show clB (rw' 11) = true from by decide +kernel]
      go_enter Tryz.func43, Tryz.ntmps43
      go_wp2_with (fail)
      go_ret
      exact ⟨rfl, rfl⟩
    · rw [show clB (rw' 12) = true from by decide +kernel]
      go_enter Tryz.func43, Tryz.ntmps43
      go_wp2_with (fail)
      go_ret
      exact ⟨rfl, rfl⟩
    · rw [show clB (rw' 13) = true from by decide +kernel]
      go_enter Tryz.func43, Tryz.ntmps43
      go_wp2_with (fail)
      go_ret
      exact ⟨rfl, rfl⟩
    · rw [show clB (rw' 14) = true from by decide +kernel]
      go_enter Tryz.func43, Tryz.ntmps43
      go_wp2_with (fail)
      go_ret
      exact ⟨rfl, rfl⟩
    · rw [show clB (rw' 15) = true from by decide +kernel]
      go_enter Tryz.func43, Tryz.ntmps43
      go_wp2_with (fail)
      go_ret
      exact ⟨rfl, rfl⟩
    · rw [show clB (rw' 16) = true from by decide +kernel]
      go_enter Tryz.func43, Tryz.ntmps43
      go_wp2_with (fail)
      go_ret
      exact ⟨rfl, rfl⟩
    · rw [show clB (rw' 17) = true from by decide +kernel]
      go_enter Tryz.func43, Tryz.ntmps43
      go_wp2_with (fail)
      go_ret
      exact ⟨rfl, rfl⟩
    · rw [show clB (rw' 18) = false from by decide +kernel]
      go_enter Tryz.func43, Tryz.ntmps43
      go_wp2_with (fail)
      go_ret
      exact ⟨rfl, rfl⟩
    · rw [show clB (rw' 19) = false from by decide +kernel]
      go_enter Tryz.func43, Tryz.ntmps43
      go_wp2_with (fail)
      go_ret
      exact ⟨rfl, rfl⟩
    · rw [show clB (rw' 20) = false from by decide +kernel]
      go_enter Tryz.func43, Tryz.ntmps43
      go_wp2_with (fail)
      go_ret
      exact ⟨rfl, rfl⟩
  · rw [h, show clB (r0) = false from by decide]
    rcases hk with hk | hk
    · have dum := True.intro
      have a1 : decide (1 ≤ k) = false := decide_eq_false (by omega)
      have a7 : decide (7 ≤ k) = false := decide_eq_false (by omega)
      have b10 : decide (k ≤ 10) = true := decide_eq_true (by omega)
      have b17 : decide (k ≤ 17) = true := decide_eq_true (by omega)
      have b20 : decide (k ≤ 20) = true := decide_eq_true (by omega)
      go_enter Tryz.func43, Tryz.ntmps43
      go_wp2_with (fail)
      go_ret
      exact ⟨rfl, rfl⟩
    · have dum := True.intro
      have a1 : decide (1 ≤ k) = true := decide_eq_true (by omega)
      have a7 : decide (7 ≤ k) = true := decide_eq_true (by omega)
      have b10 : decide (k ≤ 10) = false := decide_eq_false (by omega)
      have b17 : decide (k ≤ 17) = false := decide_eq_false (by omega)
      have b20 : decide (k ≤ 20) = false := decide_eq_false (by omega)
      go_enter Tryz.func43, Tryz.ntmps43
      go_wp2_with (fail)
      go_ret
      exact ⟨rfl, rfl⟩
set_option maxRecDepth 100000 in
set_option maxHeartbeats 1000000 in
theorem hArity (k : Int) (w : World) : Calls Tryz.prog 126 #[.int .i64 k] w fun e w' => e = .returned (.int .i64 ((rw' k).q)) ∧ w' = w := by
  have cI := fun w => hIs k w
  have cH := fun w => hHalving k w
  rcases k_cases k with h | ⟨h, hk⟩
  · rcases k_twenty h with rfl | rfl | rfl | rfl | rfl | rfl | rfl | rfl | rfl | rfl | rfl | rfl | rfl | rfl | rfl | rfl | rfl | rfl | rfl | rfl
    · rw [show (rw' 1).q = 1 from by decide +kernel]
      rw [show knB (rw' 1) = true from by decide +kernel] at cI
      rw [show hvB (rw' 1) = false from by decide +kernel] at cH
      go_enter Tryz.func126, Tryz.ntmps126
      go_wp2_with (first | (go_at_call 36; refine (cI _).mono ?_; rintro e' w' ⟨rfl, hw⟩; obtain rfl := hw.symm) | (go_at_call 38; refine (cH _).mono ?_; rintro e' w' ⟨rfl, hw⟩; obtain rfl := hw.symm))
      go_ret
      exact ⟨rfl, rfl⟩
    · rw [show (rw' 2).q = 1 from by decide +kernel]
      rw [show knB (rw' 2) = true from by decide +kernel] at cI
      rw [show hvB (rw' 2) = false from by decide +kernel] at cH
      go_enter Tryz.func126, Tryz.ntmps126
      go_wp2_with (first | (go_at_call 36; refine (cI _).mono ?_; rintro e' w' ⟨rfl, hw⟩; obtain rfl := hw.symm) | (go_at_call 38; refine (cH _).mono ?_; rintro e' w' ⟨rfl, hw⟩; obtain rfl := hw.symm))
      go_ret
      exact ⟨rfl, rfl⟩
    · rw [show (rw' 3).q = 1 from by decide +kernel]
      rw [show knB (rw' 3) = true from by decide +kernel] at cI
      rw [show hvB (rw' 3) = false from by decide +kernel] at cH
      go_enter Tryz.func126, Tryz.ntmps126
      go_wp2_with (first | (go_at_call 36; refine (cI _).mono ?_; rintro e' w' ⟨rfl, hw⟩; obtain rfl := hw.symm) | (go_at_call 38; refine (cH _).mono ?_; rintro e' w' ⟨rfl, hw⟩; obtain rfl := hw.symm))
      go_ret
      exact ⟨rfl, rfl⟩
    · rw [show (rw' 4).q = 1 from by decide +kernel]
      rw [show knB (rw' 4) = true from by decide +kernel] at cI
      rw [show hvB (rw' 4) = false from by decide +kernel] at cH
      go_enter Tryz.func126, Tryz.ntmps126
      go_wp2_with (first | (go_at_call 36; refine (cI _).mono ?_; rintro e' w' ⟨rfl, hw⟩; obtain rfl := hw.symm) | (go_at_call 38; refine (cH _).mono ?_; rintro e' w' ⟨rfl, hw⟩; obtain rfl := hw.symm))
      go_ret
      exact ⟨rfl, rfl⟩
    · rw [show (rw' 5).q = 1 from by decide +kernel]
      rw [show knB (rw' 5) = true from by decide +kernel] at cI
      rw [show hvB (rw' 5) = false from by decide +kernel] at cH
      go_enter Tryz.func126, Tryz.ntmps126
      go_wp2_with (first | (go_at_call 36; refine (cI _).mono ?_; rintro e' w' ⟨rfl, hw⟩; obtain rfl := hw.symm) | (go_at_call 38; refine (cH _).mono ?_; rintro e' w' ⟨rfl, hw⟩; obtain rfl := hw.symm))
      go_ret
      exact ⟨rfl, rfl⟩
    · rw [show (rw' 6).q = 1 from by decide +kernel]
      rw [show knB (rw' 6) = true from by decide +kernel] at cI
      rw [show hvB (rw' 6) = false from by decide +kernel] at cH
      go_enter Tryz.func126, Tryz.ntmps126
      go_wp2_with (first | (go_at_call 36; refine (cI _).mono ?_; rintro e' w' ⟨rfl, hw⟩; obtain rfl := hw.symm) | (go_at_call 38; refine (cH _).mono ?_; rintro e' w' ⟨rfl, hw⟩; obtain rfl := hw.symm))
      go_ret
      exact ⟨rfl, rfl⟩
    · rw [show (rw' 7).q = 1 from by decide +kernel]
      rw [show knB (rw' 7) = true from by decide +kernel] at cI
      rw [show hvB (rw' 7) = true from by decide +kernel] at cH
      go_enter Tryz.func126, Tryz.ntmps126
      go_wp2_with (first | (go_at_call 36; refine (cI _).mono ?_; rintro e' w' ⟨rfl, hw⟩; obtain rfl := hw.symm) | (go_at_call 38; refine (cH _).mono ?_; rintro e' w' ⟨rfl, hw⟩; obtain rfl := hw.symm))
      go_ret
      exact ⟨rfl, rfl⟩
    · rw [show (rw' 8).q = 1 from by decide +kernel]
      rw [show knB (rw' 8) = true from by decide +kernel] at cI
      rw [show hvB (rw' 8) = true from by decide +kernel] at cH
      go_enter Tryz.func126, Tryz.ntmps126
      go_wp2_with (first | (go_at_call 36; refine (cI _).mono ?_; rintro e' w' ⟨rfl, hw⟩; obtain rfl := hw.symm) | (go_at_call 38; refine (cH _).mono ?_; rintro e' w' ⟨rfl, hw⟩; obtain rfl := hw.symm))
      go_ret
      exact ⟨rfl, rfl⟩
    · rw [show (rw' 9).q = 1 from by decide +kernel]
      rw [show knB (rw' 9) = true from by decide +kernel] at cI
      rw [show hvB (rw' 9) = true from by decide +kernel] at cH
      go_enter Tryz.func126, Tryz.ntmps126
      go_wp2_with (first | (go_at_call 36; refine (cI _).mono ?_; rintro e' w' ⟨rfl, hw⟩; obtain rfl := hw.symm) | (go_at_call 38; refine (cH _).mono ?_; rintro e' w' ⟨rfl, hw⟩; obtain rfl := hw.symm))
      go_ret
      exact ⟨rfl, rfl⟩
    · rw [show (rw' 10).q = 1 from by decide +kernel]
      rw [show knB (rw' 10) = true from by decide +kernel] at cI
      rw [show hvB (rw' 10) = true from by decide +kernel] at cH
      go_enter Tryz.func126, Tryz.ntmps126
      go_wp2_with (first | (go_at_call 36; refine (cI _).mono ?_; rintro e' w' ⟨rfl, hw⟩; obtain rfl := hw.symm) | (go_at_call 38; refine (cH _).mono ?_; rintro e' w' ⟨rfl, hw⟩; obtain rfl := hw.symm))
      go_ret
      exact ⟨rfl, rfl⟩
    · rw [show (rw' 11).q = 2 from by decide +kernel]
      rw [show knB (rw' 11) = true from by decide +kernel] at cI
      rw [show hvB (rw' 11) = false from by decide +kernel] at cH
      go_enter Tryz.func126, Tryz.ntmps126
      go_wp2_with (first | (go_at_call 36; refine (cI _).mono ?_; rintro e' w' ⟨rfl, hw⟩; obtain rfl := hw.symm) | (go_at_call 38; refine (cH _).mono ?_; rintro e' w' ⟨rfl, hw⟩; obtain rfl := hw.symm))
      go_ret
      exact ⟨rfl, rfl⟩
    · rw [show (rw' 12).q = 2 from by decide +kernel]
      rw [show knB (rw' 12) = true from by decide +kernel] at cI
      rw [show hvB (rw' 12) = false from by decide +kernel] at cH
      go_enter Tryz.func126, Tryz.ntmps126
      go_wp2_with (first | (go_at_call 36; refine (cI _).mono ?_; rintro e' w' ⟨rfl, hw⟩; obtain rfl := hw.symm) | (go_at_call 38; refine (cH _).mono ?_; rintro e' w' ⟨rfl, hw⟩; obtain rfl := hw.symm))
      go_ret
      exact ⟨rfl, rfl⟩
    · rw [show (rw' 13).q = 2 from by decide +kernel]
      rw [show knB (rw' 13) = true from by decide +kernel] at cI
      rw [show hvB (rw' 13) = false from by decide +kernel] at cH
      go_enter Tryz.func126, Tryz.ntmps126
      go_wp2_with (first | (go_at_call 36; refine (cI _).mono ?_; rintro e' w' ⟨rfl, hw⟩; obtain rfl := hw.symm) | (go_at_call 38; refine (cH _).mono ?_; rintro e' w' ⟨rfl, hw⟩; obtain rfl := hw.symm))
      go_ret
      exact ⟨rfl, rfl⟩
    · rw [show (rw' 14).q = 2 from by decide +kernel]
      rw [show knB (rw' 14) = true from by decide +kernel] at cI
      rw [show hvB (rw' 14) = false from by decide +kernel] at cH
      go_enter Tryz.func126, Tryz.ntmps126
      go_wp2_with (first | (go_at_call 36; refine (cI _).mono ?_; rintro e' w' ⟨rfl, hw⟩; obtain rfl := hw.symm) | (go_at_call 38; refine (cH _).mono ?_; rintro e' w' ⟨rfl, hw⟩; obtain rfl := hw.symm))
      go_ret
      exact ⟨rfl, rfl⟩
    · rw [show (rw' 15).q = 2 from by decide +kernel]
      rw [show knB (rw' 15) = true from by decide +kernel] at cI
      rw [show hvB (rw' 15) = false from by decide +kernel] at cH
      go_enter Tryz.func126, Tryz.ntmps126
      go_wp2_with (first | (go_at_call 36; refine (cI _).mono ?_; rintro e' w' ⟨rfl, hw⟩; obtain rfl := hw.symm) | (go_at_call 38; refine (cH _).mono ?_; rintro e' w' ⟨rfl, hw⟩; obtain rfl := hw.symm))
      go_ret
      exact ⟨rfl, rfl⟩
    · rw [show (rw' 16).q = 2 from by decide +kernel]
      rw [show knB (rw' 16) = true from by decide +kernel] at cI
      rw [show hvB (rw' 16) = false from by decide +kernel] at cH
      go_enter Tryz.func126, Tryz.ntmps126
      go_wp2_with (first | (go_at_call 36; refine (cI _).mono ?_; rintro e' w' ⟨rfl, hw⟩; obtain rfl := hw.symm) | (go_at_call 38; refine (cH _).mono ?_; rintro e' w' ⟨rfl, hw⟩; obtain rfl := hw.symm))
      go_ret
      exact ⟨rfl, rfl⟩
    · rw [show (rw' 17).q = 2 from by decide +kernel]
      rw [show knB (rw' 17) = true from by decide +kernel] at cI
      rw [show hvB (rw' 17) = true from by decide +kernel] at cH
      go_enter Tryz.func126, Tryz.ntmps126
      go_wp2_with (first | (go_at_call 36; refine (cI _).mono ?_; rintro e' w' ⟨rfl, hw⟩; obtain rfl := hw.symm) | (go_at_call 38; refine (cH _).mono ?_; rintro e' w' ⟨rfl, hw⟩; obtain rfl := hw.symm))
      go_ret
      exact ⟨rfl, rfl⟩
    · rw [show (rw' 18).q = 3 from by decide +kernel]
      rw [show knB (rw' 18) = true from by decide +kernel] at cI
      rw [show hvB (rw' 18) = false from by decide +kernel] at cH
      go_enter Tryz.func126, Tryz.ntmps126
      go_wp2_with (first | (go_at_call 36; refine (cI _).mono ?_; rintro e' w' ⟨rfl, hw⟩; obtain rfl := hw.symm) | (go_at_call 38; refine (cH _).mono ?_; rintro e' w' ⟨rfl, hw⟩; obtain rfl := hw.symm))
      go_ret
      exact ⟨rfl, rfl⟩
    · rw [show (rw' 19).q = 3 from by decide +kernel]
      rw [show knB (rw' 19) = true from by decide +kernel] at cI
      rw [show hvB (rw' 19) = false from by decide +kernel] at cH
      go_enter Tryz.func126, Tryz.ntmps126
      go_wp2_with (first | (go_at_call 36; refine (cI _).mono ?_; rintro e' w' ⟨rfl, hw⟩; obtain rfl := hw.symm) | (go_at_call 38; refine (cH _).mono ?_; rintro e' w' ⟨rfl, hw⟩; obtain rfl := hw.symm))
      go_ret
      exact ⟨rfl, rfl⟩
    · rw [show (rw' 20).q = 3 from by decide +kernel]
      rw [show knB (rw' 20) = true from by decide +kernel] at cI
      rw [show hvB (rw' 20) = false from by decide +kernel] at cH
      go_enter Tryz.func126, Tryz.ntmps126
      go_wp2_with (first | (go_at_call 36; refine (cI _).mono ?_; rintro e' w' ⟨rfl, hw⟩; obtain rfl := hw.symm) | (go_at_call 38; refine (cH _).mono ?_; rintro e' w' ⟨rfl, hw⟩; obtain rfl := hw.symm))
      go_ret
      exact ⟨rfl, rfl⟩
  · rw [h, show (r0).q = 0 from by decide]
    rw [h, show knB r0 = false from by decide] at cI
    rw [h, show hvB r0 = false from by decide] at cH
    rcases hk with hk | hk
    · have dum := True.intro
      have a1 : decide (1 ≤ k) = false := decide_eq_false (by omega)
      have a7 : decide (7 ≤ k) = false := decide_eq_false (by omega)
      have b10 : decide (k ≤ 10) = true := decide_eq_true (by omega)
      have b17 : decide (k ≤ 17) = true := decide_eq_true (by omega)
      have b20 : decide (k ≤ 20) = true := decide_eq_true (by omega)
      go_enter Tryz.func126, Tryz.ntmps126
      go_wp2_with (first | (go_at_call 36; refine (cI _).mono ?_; rintro e' w' ⟨rfl, hw⟩; obtain rfl := hw.symm) | (go_at_call 38; refine (cH _).mono ?_; rintro e' w' ⟨rfl, hw⟩; obtain rfl := hw.symm))
      go_ret
      exact ⟨rfl, rfl⟩
    · have dum := True.intro
      have a1 : decide (1 ≤ k) = true := decide_eq_true (by omega)
      have a7 : decide (7 ≤ k) = true := decide_eq_true (by omega)
      have b10 : decide (k ≤ 10) = false := decide_eq_false (by omega)
      have b17 : decide (k ≤ 17) = false := decide_eq_false (by omega)
      have b20 : decide (k ≤ 20) = false := decide_eq_false (by omega)
      go_enter Tryz.func126, Tryz.ntmps126
      go_wp2_with (first | (go_at_call 36; refine (cI _).mono ?_; rintro e' w' ⟨rfl, hw⟩; obtain rfl := hw.symm) | (go_at_call 38; refine (cH _).mono ?_; rintro e' w' ⟨rfl, hw⟩; obtain rfl := hw.symm))
      go_ret
      exact ⟨rfl, rfl⟩
end Go.Proofs.YtkbodljmkhnebaaGreatDoor.Gt
