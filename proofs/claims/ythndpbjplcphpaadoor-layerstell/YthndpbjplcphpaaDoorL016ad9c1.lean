import Derived.Test.YthndpbjplcphpaaDoorLc6356b76
set_option maxRecDepth 100000
set_option maxHeartbeats 1000000
namespace Go.Proofs.YthndpbjplcphpaaDoor.Gt
open Go.RowKit Go.Proofs.YthndpbjplcphpaaDoor.Oct
theorem k_cases (k : Int) : (1 <= k /\ k <= 20) ∨ (rw' k = r0 /\ (k < 1 ∨ 20 < k)) := by
  by_cases h : 1 <= k /\ k <= 20
  . exact .inl h
  . refine .inr ⟨?_, by omega⟩
    unfold rw'
    by_cases c : 0 <= k /\ k < 21
    . obtain rfl : k = 0 := by omega
      rfl
    . rw [if_neg c]
theorem k_twenty {k : Int} (h : 1 <= k /\ k <= 20) : k = 1 ∨ k = 2 ∨ k = 3 ∨ k = 4 ∨ k = 5 ∨ k = 6 ∨ k = 7 ∨ k = 8 ∨ k = 9 ∨ k = 10 ∨ k = 11 ∨ k = 12 ∨ k = 13 ∨ k = 14 ∨ k = 15 ∨ k = 16 ∨ k = 17 ∨ k = 18 ∨ k = 19 ∨ k = 20 := by omega
theorem hIs (k : Int) (w : World) : Calls Tryd.prog 84 #[.int .i64 k] w fun e w' => e = .returned (.bool (knB (rw' k))) /\ w' = w := by
  rcases k_cases k with h | ⟨h, hk⟩
  . rcases k_twenty h with rfl | rfl | rfl | rfl | rfl | rfl | rfl | rfl | rfl | rfl | rfl | rfl | rfl | rfl | rfl | rfl | rfl | rfl | rfl | rfl
    . rw [show knB (rw' 1) = true from by decide +kernel]
      go_enter Tryd.func84, Tryd.ntmps84
      go_wp2_with (fail)
      go_ret
      exact ⟨rfl, rfl⟩
    . rw [show knB (rw' 2) = true from by decide +kernel]
      go_enter Tryd.func84, Tryd.ntmps84
      go_wp2_with (fail)
      go_ret
      exact ⟨rfl, rfl⟩
    . rw [show knB (rw' 3) = true from by decide +kernel]
      go_enter Tryd.func84, Tryd.ntmps84
      go_wp2_with (fail)
      go_ret
      exact ⟨rfl, rfl⟩
    . rw [show knB (rw' 4) = true from by decide +kernel]
      go_enter Tryd.func84, Tryd.ntmps84
      go_wp2_with (fail)
      go_ret
      exact ⟨rfl, rfl⟩
    . rw [show knB (rw' 5) = true from by decide +kernel]
      go_enter Tryd.func84, Tryd.ntmps84
      go_wp2_with (fail)
      go_ret
      exact ⟨rfl, rfl⟩
    . rw [show knB (rw' 6) = true from by decide +kernel]
      go_enter Tryd.func84, Tryd.ntmps84
      go_wp2_with (fail)
      go_ret
      exact ⟨rfl, rfl⟩
    . rw [show knB (rw' 7) = true from by decide +kernel]
      go_enter Tryd.func84, Tryd.ntmps84
      go_wp2_with (fail)
      go_ret
      exact ⟨rfl, rfl⟩
    . rw [show knB (rw' 8) = true from by decide +kernel]
      go_enter Tryd.func84, Tryd.ntmps84
      go_wp2_with (fail)
      go_ret
      exact ⟨rfl, rfl⟩
    . rw [show knB (rw' 9) = true from by decide +kernel]
      go_enter Tryd.func84, Tryd.ntmps84
      go_wp2_with (fail)
      go_ret
      exact ⟨rfl, rfl⟩
    . rw [show knB (rw' 10) = true from by decide +kernel]
      go_enter Tryd.func84, Tryd.ntmps84
      go_wp2_with (fail)
      go_ret
      exact ⟨rfl, rfl⟩
    . rw [show knB (rw' 11) = true from by decide +kernel]
      go_enter Tryd.func84, Tryd.ntmps84
      go_wp2_with (fail)
      go_ret
      exact ⟨rfl, rfl⟩
    . rw [show knB (rw' 12) = true from by decide +kernel]
      go_enter Tryd.func84, Tryd.ntmps84
      go_wp2_with (fail)
      go_ret
      exact ⟨rfl, rfl⟩
    . rw [show knB (rw' 13) = true from by decide +kernel]
      go_enter Tryd.func84, Tryd.ntmps84
      go_wp2_with (fail)
      go_ret
      exact ⟨rfl, rfl⟩
    . rw [show knB (rw' 14) = true from by decide +kernel]
      go_enter Tryd.func84, Tryd.ntmps84
      go_wp2_with (fail)
      go_ret
      exact ⟨rfl, rfl⟩
    . rw [show knB (rw' 15) = true from by decide +kernel]
      go_enter Tryd.func84, Tryd.ntmps84
      go_wp2_with (fail)
      go_ret
      exact ⟨rfl, rfl⟩
    . rw [show knB (rw' 16) = true from by decide +kernel]
      go_enter Tryd.func84, Tryd.ntmps84
      go_wp2_with (fail)
      go_ret
      exact ⟨rfl, rfl⟩
    . rw [show knB (rw' 17) = true from by decide +kernel]
      go_enter Tryd.func84, Tryd.ntmps84
      go_wp2_with (fail)
      go_ret
      exact ⟨rfl, rfl⟩
    . rw [show knB (rw' 18) = true from by decide +kernel]
      go_enter Tryd.func84, Tryd.ntmps84
      go_wp2_with (fail)
      go_ret
      exact ⟨rfl, rfl⟩
    . rw [show knB (rw' 19) = true from by decide +kernel]
      go_enter Tryd.func84, Tryd.ntmps84
      go_wp2_with (fail)
      go_ret
      exact ⟨rfl, rfl⟩
    . rw [show knB (rw' 20) = true from by decide +kernel]
      go_enter Tryd.func84, Tryd.ntmps84
      go_wp2_with (fail)
      go_ret
      exact ⟨rfl, rfl⟩
  . rw [h, show knB (r0) = false from by decide]
    rcases hk with hk | hk
    . have dum := True.intro
      have a1 : decide (1 <= k) = false := decide_eq_false (by omega)
      have a7 : decide (7 <= k) = false := decide_eq_false (by omega)
      have b10 : decide (k <= 10) = true := decide_eq_true (by omega)
      have b17 : decide (k <= 17) = true := decide_eq_true (by omega)
      have b20 : decide (k <= 20) = true := decide_eq_true (by omega)
      go_enter Tryd.func84, Tryd.ntmps84
      go_wp2_with (fail)
      go_ret
      exact ⟨rfl, rfl⟩
    . have dum := True.intro
      have a1 : decide (1 <= k) = true := decide_eq_true (by omega)
      have a7 : decide (7 <= k) = true := decide_eq_true (by omega)
      have b10 : decide (k <= 10) = false := decide_eq_false (by omega)
      have b17 : decide (k <= 17) = false := decide_eq_false (by omega)
      have b20 : decide (k <= 20) = false := decide_eq_false (by omega)
      go_enter Tryd.func84, Tryd.ntmps84
      go_wp2_with (fail)
      go_ret
      exact ⟨rfl, rfl⟩
theorem hArity (k : Int) (w : World) : Calls Tryd.prog 85 #[.int .i64 k] w fun e w' => e = .returned (.int .i64 ((rw' k).q)) /\ w' = w := by
  have cI := fun w => hIs k w
  rcases k_cases k with h | ⟨h, hk⟩
  . rcases k_twenty h with rfl | rfl | rfl | rfl | rfl | rfl | rfl | rfl | rfl | rfl | rfl | rfl | rfl | rfl | rfl | rfl | rfl | rfl | rfl | rfl
    . rw [show (rw' 1).q = 1 from by decide +kernel]
      rw [show knB (rw' 1) = true from by decide +kernel] at cI
      go_enter Tryd.func85, Tryd.ntmps85
      go_wp2_with (first | (go_at_call 84; refine (cI _).mono ?_; rintro e' w' ⟨rfl, hw⟩; obtain rfl := hw.symm))
      go_ret
      exact ⟨rfl, rfl⟩
    . rw [show (rw' 2).q = 1 from by decide +kernel]
      rw [show knB (rw' 2) = true from by decide +kernel] at cI
      go_enter Tryd.func85, Tryd.ntmps85
      go_wp2_with (first | (go_at_call 84; refine (cI _).mono ?_; rintro e' w' ⟨rfl, hw⟩; obtain rfl := hw.symm))
      go_ret
      exact ⟨rfl, rfl⟩
    . rw [show (rw' 3).q = 1 from by decide +kernel]
      rw [show knB (rw' 3) = true from by decide +kernel] at cI
      go_enter Tryd.func85, Tryd.ntmps85
      go_wp2_with (first | (go_at_call 84; refine (cI _).mono ?_; rintro e' w' ⟨rfl, hw⟩; obtain rfl := hw.symm))
      go_ret
      exact ⟨rfl, rfl⟩
    . rw [show (rw' 4).q = 1 from by decide +kernel]
      rw [show knB (rw' 4) = true from by decide +kernel] at cI
      go_enter Tryd.func85, Tryd.ntmps85
      go_wp2_with (first | (go_at_call 84; refine (cI _).mono ?_; rintro e' w' ⟨rfl, hw⟩; obtain rfl := hw.symm))
      go_ret
      exact ⟨rfl, rfl⟩
    . rw [show (rw' 5).q = 1 from by decide +kernel]
      rw [show knB (rw' 5) = true from by decide +kernel] at cI
      go_enter Tryd.func85, Tryd.ntmps85
      go_wp2_with (first | (go_at_call 84; refine (cI _).mono ?_; rintro e' w' ⟨rfl, hw⟩; obtain rfl := hw.symm))
      go_ret
      exact ⟨rfl, rfl⟩
    . rw [show (rw' 6).q = 1 from by decide +kernel]
      rw [show knB (rw' 6) = true from by decide +kernel] at cI
      go_enter Tryd.func85, Tryd.ntmps85
      go_wp2_with (first | (go_at_call 84; refine (cI _).mono ?_; rintro e' w' ⟨rfl, hw⟩; obtain rfl := hw.symm))
      go_ret
      exact ⟨rfl, rfl⟩
    . rw [show (rw' 7).q = 1 from by decide +kernel]
      rw [show knB (rw' 7) = true from by decide +kernel] at cI
      go_enter Tryd.func85, Tryd.ntmps85
      go_wp2_with (first | (go_at_call 84; refine (cI _).mono ?_; rintro e' w' ⟨rfl, hw⟩; obtain rfl := hw.symm))
      go_ret
      exact ⟨rfl, rfl⟩
    . rw [show (rw' 8).q = 1 from by decide +kernel]
      rw [show knB (rw' 8) = true from by decide +kernel] at cI
      go_enter Tryd.func85, Tryd.ntmps85
      go_wp2_with (first | (go_at_call 84; refine (cI _).mono ?_; rintro e' w' ⟨rfl, hw⟩; obtain rfl := hw.symm))
      go_ret
      exact ⟨rfl, rfl⟩
    . rw [show (rw' 9).q = 1 from by decide +kernel]
      rw [show knB (rw' 9) = true from by decide +kernel] at cI
      go_enter Tryd.func85, Tryd.ntmps85
      go_wp2_with (first | (go_at_call 84; refine (cI _).mono ?_; rintro e' w' ⟨rfl, hw⟩; obtain rfl := hw.symm))
      go_ret
      exact ⟨rfl, rfl⟩
    . rw [show (rw' 10).q = 1 from by decide +kernel]
      rw [show knB (rw' 10) = true from by decide +kernel] at cI
      go_enter Tryd.func85, Tryd.ntmps85
      go_wp2_with (first | (go_at_call 84; refine (cI _).mono ?_; rintro e' w' ⟨rfl, hw⟩; obtain rfl := hw.symm))
      go_ret
      exact ⟨rfl, rfl⟩
    . rw [show (rw' 11).q = 2 from by decide +kernel]
      rw [show knB (rw' 11) = true from by decide +kernel] at cI
      go_enter Tryd.func85, Tryd.ntmps85
      go_wp2_with (first | (go_at_call 84; refine (cI _).mono ?_; rintro e' w' ⟨rfl, hw⟩; obtain rfl := hw.symm))
      go_ret
      exact ⟨rfl, rfl⟩
    . rw [show (rw' 12).q = 2 from by decide +kernel]
      rw [show knB (rw' 12) = true from by decide +kernel] at cI
      go_enter Tryd.func85, Tryd.ntmps85
      go_wp2_with (first | (go_at_call 84; refine (cI _).mono ?_; rintro e' w' ⟨rfl, hw⟩; obtain rfl := hw.symm))
      go_ret
      exact ⟨rfl, rfl⟩
    . rw [show (rw' 13).q = 2 from by decide +kernel]
      rw [show knB (rw' 13) = true from by decide +kernel] at cI
      go_enter Tryd.func85, Tryd.ntmps85
      go_wp2_with (first | (go_at_call 84; refine (cI _).mono ?_; rintro e' w' ⟨rfl, hw⟩; obtain rfl := hw.symm))
      go_ret
      exact ⟨rfl, rfl⟩
    . rw [show (rw' 14).q = 2 from by decide +kernel]
      rw [show knB (rw' 14) = true from by decide +kernel] at cI
      go_enter Tryd.func85, Tryd.ntmps85
      go_wp2_with (first | (go_at_call 84; refine (cI _).mono ?_; rintro e' w' ⟨rfl, hw⟩; obtain rfl := hw.symm))
      go_ret
      exact ⟨rfl, rfl⟩
    . rw [show (rw' 15).q = 2 from by decide +kernel]
      rw [show knB (rw' 15) = true from by decide +kernel] at cI
      go_enter Tryd.func85, Tryd.ntmps85
      go_wp2_with (first | (go_at_call 84; refine (cI _).mono ?_; rintro e' w' ⟨rfl, hw⟩; obtain rfl := hw.symm))
      go_ret
      exact ⟨rfl, rfl⟩
    . rw [show (rw' 16).q = 2 from by decide +kernel]
      rw [show knB (rw' 16) = true from by decide +kernel] at cI
      go_enter Tryd.func85, Tryd.ntmps85
      go_wp2_with (first | (go_at_call 84; refine (cI _).mono ?_; rintro e' w' ⟨rfl, hw⟩; obtain rfl := hw.symm))
      go_ret
      exact ⟨rfl, rfl⟩
    . rw [show (rw' 17).q = 2 from by decide +kernel]
      rw [show knB (rw' 17) = true from by decide +kernel] at cI
      go_enter Tryd.func85, Tryd.ntmps85
      go_wp2_with (first | (go_at_call 84; refine (cI _).mono ?_; rintro e' w' ⟨rfl, hw⟩; obtain rfl := hw.symm))
      go_ret
      exact ⟨rfl, rfl⟩
    . rw [show (rw' 18).q = 3 from by decide +kernel]
      rw [show knB (rw' 18) = true from by decide +kernel] at cI
      go_enter Tryd.func85, Tryd.ntmps85
      go_wp2_with (first | (go_at_call 84; refine (cI _).mono ?_; rintro e' w' ⟨rfl, hw⟩; obtain rfl := hw.symm))
      go_ret
      exact ⟨rfl, rfl⟩
    . rw [show (rw' 19).q = 3 from by decide +kernel]
      rw [show knB (rw' 19) = true from by decide +kernel] at cI
      go_enter Tryd.func85, Tryd.ntmps85
      go_wp2_with (first | (go_at_call 84; refine (cI _).mono ?_; rintro e' w' ⟨rfl, hw⟩; obtain rfl := hw.symm))
      go_ret
      exact ⟨rfl, rfl⟩
    . rw [show (rw' 20).q = 3 from by decide +kernel]
      rw [show knB (rw' 20) = true from by decide +kernel] at cI
      go_enter Tryd.func85, Tryd.ntmps85
      go_wp2_with (first | (go_at_call 84; refine (cI _).mono ?_; rintro e' w' ⟨rfl, hw⟩; obtain rfl := hw.symm))
      go_ret
      exact ⟨rfl, rfl⟩
  . rw [h, show (r0).q = 0 from by decide]
    rw [h, show knB r0 = false from by decide] at cI
    rcases hk with hk | hk
    . have dum := True.intro
      have a1 : decide (1 <= k) = false := decide_eq_false (by omega)
      have a7 : decide (7 <= k) = false := decide_eq_false (by omega)
      have b10 : decide (k <= 10) = true := decide_eq_true (by omega)
      have b17 : decide (k <= 17) = true := decide_eq_true (by omega)
      have b20 : decide (k <= 20) = true := decide_eq_true (by omega)
      go_enter Tryd.func85, Tryd.ntmps85
      go_wp2_with (first | (go_at_call 84; refine (cI _).mono ?_; rintro e' w' ⟨rfl, hw⟩; obtain rfl := hw.symm))
      go_ret
      exact ⟨rfl, rfl⟩
    . have dum := True.intro
      have a1 : decide (1 <= k) = true := decide_eq_true (by omega)
      have a7 : decide (7 <= k) = true := decide_eq_true (by omega)
      have b10 : decide (k <= 10) = false := decide_eq_false (by omega)
      have b17 : decide (k <= 17) = false := decide_eq_false (by omega)
      have b20 : decide (k <= 20) = false := decide_eq_false (by omega)
      go_enter Tryd.func85, Tryd.ntmps85
      go_wp2_with (first | (go_at_call 84; refine (cI _).mono ?_; rintro e' w' ⟨rfl, hw⟩; obtain rfl := hw.symm))
      go_ret
      exact ⟨rfl, rfl⟩
end Go.Proofs.YthndpbjplcphpaaDoor.Gt
