import Derived.Test.YtmkalhaegbnknaaDoorQ155fb1c6
set_option maxRecDepth 100000
set_option maxHeartbeats 1000000
namespace Go.Proofs.YtmkalhaegbnknaaDoor.Gt
open Go.RowKit Go.Proofs.YtmkalhaegbnknaaDoor.Oct
theorem hInverse (k : Int) (w : World) : Calls Tryd.prog 26 #[.int .i64 k] w fun e w' => e = .returned (.int .i64 ((rw' k).v)) /\ w' = w := by
  have cI := fun w => hIs k w
  rcases k_cases k with h | ⟨h, hk⟩
  . rcases k_twenty h with rfl | rfl | rfl | rfl | rfl | rfl | rfl | rfl | rfl | rfl | rfl | rfl | rfl | rfl | rfl | rfl | rfl | rfl | rfl | rfl
    . rw [show (rw' 1).v = 1 from by decide +kernel]
      rw [show knB (rw' 1) = true from by decide +kernel] at cI
      go_enter Tryd.func26, Tryd.ntmps26
      go_wp2_with (first | (go_at_call 45; refine (cI _).mono ?_; rintro e' w' ⟨rfl, hw⟩; obtain rfl := hw.symm))
      go_ret
      exact ⟨rfl, rfl⟩
    . rw [show (rw' 2).v = 2 from by decide +kernel]
      rw [show knB (rw' 2) = true from by decide +kernel] at cI
      go_enter Tryd.func26, Tryd.ntmps26
      go_wp2_with (first | (go_at_call 45; refine (cI _).mono ?_; rintro e' w' ⟨rfl, hw⟩; obtain rfl := hw.symm))
      go_ret
      exact ⟨rfl, rfl⟩
    . rw [show (rw' 3).v = 3 from by decide +kernel]
      rw [show knB (rw' 3) = true from by decide +kernel] at cI
      go_enter Tryd.func26, Tryd.ntmps26
      go_wp2_with (first | (go_at_call 45; refine (cI _).mono ?_; rintro e' w' ⟨rfl, hw⟩; obtain rfl := hw.symm))
      go_ret
      exact ⟨rfl, rfl⟩
    . rw [show (rw' 4).v = 4 from by decide +kernel]
      rw [show knB (rw' 4) = true from by decide +kernel] at cI
      go_enter Tryd.func26, Tryd.ntmps26
      go_wp2_with (first | (go_at_call 45; refine (cI _).mono ?_; rintro e' w' ⟨rfl, hw⟩; obtain rfl := hw.symm))
      go_ret
      exact ⟨rfl, rfl⟩
    . rw [show (rw' 5).v = 6 from by decide +kernel]
      rw [show knB (rw' 5) = true from by decide +kernel] at cI
      go_enter Tryd.func26, Tryd.ntmps26
      go_wp2_with (first | (go_at_call 45; refine (cI _).mono ?_; rintro e' w' ⟨rfl, hw⟩; obtain rfl := hw.symm))
      go_ret
      exact ⟨rfl, rfl⟩
    . rw [show (rw' 6).v = 5 from by decide +kernel]
      rw [show knB (rw' 6) = true from by decide +kernel] at cI
      go_enter Tryd.func26, Tryd.ntmps26
      go_wp2_with (first | (go_at_call 45; refine (cI _).mono ?_; rintro e' w' ⟨rfl, hw⟩; obtain rfl := hw.symm))
      go_ret
      exact ⟨rfl, rfl⟩
    . rw [show (rw' 7).v = 8 from by decide +kernel]
      rw [show knB (rw' 7) = true from by decide +kernel] at cI
      go_enter Tryd.func26, Tryd.ntmps26
      go_wp2_with (first | (go_at_call 45; refine (cI _).mono ?_; rintro e' w' ⟨rfl, hw⟩; obtain rfl := hw.symm))
      go_ret
      exact ⟨rfl, rfl⟩
    . rw [show (rw' 8).v = 7 from by decide +kernel]
      rw [show knB (rw' 8) = true from by decide +kernel] at cI
      go_enter Tryd.func26, Tryd.ntmps26
      go_wp2_with (first | (go_at_call 45; refine (cI _).mono ?_; rintro e' w' ⟨rfl, hw⟩; obtain rfl := hw.symm))
      go_ret
      exact ⟨rfl, rfl⟩
    . rw [show (rw' 9).v = 10 from by decide +kernel]
      rw [show knB (rw' 9) = true from by decide +kernel] at cI
      go_enter Tryd.func26, Tryd.ntmps26
      go_wp2_with (first | (go_at_call 45; refine (cI _).mono ?_; rintro e' w' ⟨rfl, hw⟩; obtain rfl := hw.symm))
      go_ret
      exact ⟨rfl, rfl⟩
    . rw [show (rw' 10).v = 9 from by decide +kernel]
      rw [show knB (rw' 10) = true from by decide +kernel] at cI
      go_enter Tryd.func26, Tryd.ntmps26
      go_wp2_with (first | (go_at_call 45; refine (cI _).mono ?_; rintro e' w' ⟨rfl, hw⟩; obtain rfl := hw.symm))
      go_ret
      exact ⟨rfl, rfl⟩
    . rw [show (rw' 11).v = 11 from by decide +kernel]
      rw [show knB (rw' 11) = true from by decide +kernel] at cI
      go_enter Tryd.func26, Tryd.ntmps26
      go_wp2_with (first | (go_at_call 45; refine (cI _).mono ?_; rintro e' w' ⟨rfl, hw⟩; obtain rfl := hw.symm))
      go_ret
      exact ⟨rfl, rfl⟩
    . rw [show (rw' 12).v = 12 from by decide +kernel]
      rw [show knB (rw' 12) = true from by decide +kernel] at cI
      go_enter Tryd.func26, Tryd.ntmps26
      go_wp2_with (first | (go_at_call 45; refine (cI _).mono ?_; rintro e' w' ⟨rfl, hw⟩; obtain rfl := hw.symm))
      go_ret
      exact ⟨rfl, rfl⟩
    . rw [show (rw' 13).v = 13 from by decide +kernel]
      rw [show knB (rw' 13) = true from by decide +kernel] at cI
      go_enter Tryd.func26, Tryd.ntmps26
      go_wp2_with (first | (go_at_call 45; refine (cI _).mono ?_; rintro e' w' ⟨rfl, hw⟩; obtain rfl := hw.symm))
      go_ret
      exact ⟨rfl, rfl⟩
    . rw [show (rw' 14).v = 14 from by decide +kernel]
      rw [show knB (rw' 14) = true from by decide +kernel] at cI
      go_enter Tryd.func26, Tryd.ntmps26
      go_wp2_with (first | (go_at_call 45; refine (cI _).mono ?_; rintro e' w' ⟨rfl, hw⟩; obtain rfl := hw.symm))
      go_ret
      exact ⟨rfl, rfl⟩
    . rw [show (rw' 15).v = 16 from by decide +kernel]
      rw [show knB (rw' 15) = true from by decide +kernel] at cI
      go_enter Tryd.func26, Tryd.ntmps26
      go_wp2_with (first | (go_at_call 45; refine (cI _).mono ?_; rintro e' w' ⟨rfl, hw⟩; obtain rfl := hw.symm))
      go_ret
      exact ⟨rfl, rfl⟩
    . rw [show (rw' 16).v = 15 from by decide +kernel]
      rw [show knB (rw' 16) = true from by decide +kernel] at cI
      go_enter Tryd.func26, Tryd.ntmps26
      go_wp2_with (first | (go_at_call 45; refine (cI _).mono ?_; rintro e' w' ⟨rfl, hw⟩; obtain rfl := hw.symm))
      go_ret
      exact ⟨rfl, rfl⟩
    . rw [show (rw' 17).v = 17 from by decide +kernel]
      rw [show knB (rw' 17) = true from by decide +kernel] at cI
      go_enter Tryd.func26, Tryd.ntmps26
      go_wp2_with (first | (go_at_call 45; refine (cI _).mono ?_; rintro e' w' ⟨rfl, hw⟩; obtain rfl := hw.symm))
      go_ret
      exact ⟨rfl, rfl⟩
    . rw [show (rw' 18).v = 18 from by decide +kernel]
      rw [show knB (rw' 18) = true from by decide +kernel] at cI
      go_enter Tryd.func26, Tryd.ntmps26
      go_wp2_with (first | (go_at_call 45; refine (cI _).mono ?_; rintro e' w' ⟨rfl, hw⟩; obtain rfl := hw.symm))
      go_ret
      exact ⟨rfl, rfl⟩
    . rw [show (rw' 19).v = 19 from by decide +kernel]
      rw [show knB (rw' 19) = true from by decide +kernel] at cI
      go_enter Tryd.func26, Tryd.ntmps26
      go_wp2_with (first | (go_at_call 45; refine (cI _).mono ?_; rintro e' w' ⟨rfl, hw⟩; obtain rfl := hw.symm))
      go_ret
      exact ⟨rfl, rfl⟩
    . rw [show (rw' 20).v = 20 from by decide +kernel]
      rw [show knB (rw' 20) = true from by decide +kernel] at cI
      go_enter Tryd.func26, Tryd.ntmps26
      go_wp2_with (first | (go_at_call 45; refine (cI _).mono ?_; rintro e' w' ⟨rfl, hw⟩; obtain rfl := hw.symm))
      go_ret
      exact ⟨rfl, rfl⟩
  . rw [h, show (r0).v = 0 from by decide]
    rw [h, show knB r0 = false from by decide] at cI
    rcases hk with hk | hk
    . have dum := True.intro
      have a1 : decide (1 <= k) = false := decide_eq_false (by omega)
      have a7 : decide (7 <= k) = false := decide_eq_false (by omega)
      have b10 : decide (k <= 10) = true := decide_eq_true (by omega)
      have b17 : decide (k <= 17) = true := decide_eq_true (by omega)
      have b20 : decide (k <= 20) = true := decide_eq_true (by omega)
      have n1 : (k == 1) = false := by rw [beq_eq_false_iff_ne]; omega
      have n2 : (k == 2) = false := by rw [beq_eq_false_iff_ne]; omega
      have n3 : (k == 3) = false := by rw [beq_eq_false_iff_ne]; omega
      have n4 : (k == 4) = false := by rw [beq_eq_false_iff_ne]; omega
      have n5 : (k == 5) = false := by rw [beq_eq_false_iff_ne]; omega
      have n6 : (k == 6) = false := by rw [beq_eq_false_iff_ne]; omega
      have n7 : (k == 7) = false := by rw [beq_eq_false_iff_ne]; omega
      have n8 : (k == 8) = false := by rw [beq_eq_false_iff_ne]; omega
      have n9 : (k == 9) = false := by rw [beq_eq_false_iff_ne]; omega
      have n10 : (k == 10) = false := by rw [beq_eq_false_iff_ne]; omega
      have n11 : (k == 11) = false := by rw [beq_eq_false_iff_ne]; omega
      have n12 : (k == 12) = false := by rw [beq_eq_false_iff_ne]; omega
      have n13 : (k == 13) = false := by rw [beq_eq_false_iff_ne]; omega
      have n14 : (k == 14) = false := by rw [beq_eq_false_iff_ne]; omega
      have n15 : (k == 15) = false := by rw [beq_eq_false_iff_ne]; omega
      have n16 : (k == 16) = false := by rw [beq_eq_false_iff_ne]; omega
      have n17 : (k == 17) = false := by rw [beq_eq_false_iff_ne]; omega
      have n18 : (k == 18) = false := by rw [beq_eq_false_iff_ne]; omega
      have n19 : (k == 19) = false := by rw [beq_eq_false_iff_ne]; omega
      have n20 : (k == 20) = false := by rw [beq_eq_false_iff_ne]; omega
      go_enter Tryd.func26, Tryd.ntmps26
      go_wp2_with (first | (go_at_call 45; refine (cI _).mono ?_; rintro e' w' ⟨rfl, hw⟩; obtain rfl := hw.symm))
      go_ret
      exact ⟨rfl, rfl⟩
    . have dum := True.intro
      have a1 : decide (1 <= k) = true := decide_eq_true (by omega)
      have a7 : decide (7 <= k) = true := decide_eq_true (by omega)
      have b10 : decide (k <= 10) = false := decide_eq_false (by omega)
      have b17 : decide (k <= 17) = false := decide_eq_false (by omega)
      have b20 : decide (k <= 20) = false := decide_eq_false (by omega)
      have n1 : (k == 1) = false := by rw [beq_eq_false_iff_ne]; omega
      have n2 : (k == 2) = false := by rw [beq_eq_false_iff_ne]; omega
      have n3 : (k == 3) = false := by rw [beq_eq_false_iff_ne]; omega
      have n4 : (k == 4) = false := by rw [beq_eq_false_iff_ne]; omega
      have n5 : (k == 5) = false := by rw [beq_eq_false_iff_ne]; omega
      have n6 : (k == 6) = false := by rw [beq_eq_false_iff_ne]; omega
      have n7 : (k == 7) = false := by rw [beq_eq_false_iff_ne]; omega
      have n8 : (k == 8) = false := by rw [beq_eq_false_iff_ne]; omega
      have n9 : (k == 9) = false := by rw [beq_eq_false_iff_ne]; omega
      have n10 : (k == 10) = false := by rw [beq_eq_false_iff_ne]; omega
      have n11 : (k == 11) = false := by rw [beq_eq_false_iff_ne]; omega
      have n12 : (k == 12) = false := by rw [beq_eq_false_iff_ne]; omega
      have n13 : (k == 13) = false := by rw [beq_eq_false_iff_ne]; omega
      have n14 : (k == 14) = false := by rw [beq_eq_false_iff_ne]; omega
      have n15 : (k == 15) = false := by rw [beq_eq_false_iff_ne]; omega
      have n16 : (k == 16) = false := by rw [beq_eq_false_iff_ne]; omega
      have n17 : (k == 17) = false := by rw [beq_eq_false_iff_ne]; omega
      have n18 : (k == 18) = false := by rw [beq_eq_false_iff_ne]; omega
      have n19 : (k == 19) = false := by rw [beq_eq_false_iff_ne]; omega
      have n20 : (k == 20) = false := by rw [beq_eq_false_iff_ne]; omega
      go_enter Tryd.func26, Tryd.ntmps26
      go_wp2_with (first | (go_at_call 45; refine (cI _).mono ?_; rintro e' w' ⟨rfl, hw⟩; obtain rfl := hw.symm))
      go_ret
      exact ⟨rfl, rfl⟩
end Go.Proofs.YtmkalhaegbnknaaDoor.Gt
