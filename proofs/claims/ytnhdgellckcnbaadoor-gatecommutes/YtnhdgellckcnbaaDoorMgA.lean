/- The document's Moves, kind by kind and index by index (0). -/
import Derived.Test.YtnhdgellckcnbaaDoorXa
import Derived.Test.YtnhdgellckcnbaaDoorXd
/- The document's Moves, kind by kind and index by index (0). -/
namespace Go.Proofs.YtnhdgellckcnbaaDoor.Gt
open Go.RowKit Go.Proofs.YtnhdgellckcnbaaDoor.Oct

set_option maxRecDepth 100000 in
theorem hMv_1_0 (w : World) : Calls Tryd.prog 13 #[.int .i64 1, .int .i64 0] w fun e w' => e = .returned (.tuple #[.int .i64 0, .int .i64 0, .bool true]) ∧ w' = w := by
  have cM := fun w => hMonomial 1 w
  have cA := fun w => hArity 1 w
  rw [show mnB (rw' 1) = true from by decide +kernel] at cM
  rw [show (rw' 1).q = 1 from by decide +kernel] at cA
  have b0 : bits .and .i64 0 1 = 0 := by kernel_rfl
  go_enter Tryd.func13, Tryd.ntmps13
  go_wp2_with (first
    | (go_at_call 39; refine (cM _).mono ?_; rintro e' w' ⟨rfl, hw⟩; obtain rfl := hw.symm)
    | (go_at_call 32; refine (cA _).mono ?_; rintro e' w' ⟨rfl, hw⟩; obtain rfl := hw.symm))
  go_ret3
  exact ⟨by kernel_rfl, rfl⟩
set_option maxRecDepth 100000 in
theorem hMv_1_1 (w : World) : Calls Tryd.prog 13 #[.int .i64 1, .int .i64 1] w fun e w' => e = .returned (.tuple #[.int .i64 1, .int .i64 0, .bool true]) ∧ w' = w := by
  have cM := fun w => hMonomial 1 w
  have cA := fun w => hArity 1 w
  rw [show mnB (rw' 1) = true from by decide +kernel] at cM
  rw [show (rw' 1).q = 1 from by decide +kernel] at cA
  have b0 : bits .and .i64 0 1 = 0 := by kernel_rfl
  have b1 : bits .and .i64 1 1 = 1 := by kernel_rfl
  go_enter Tryd.func13, Tryd.ntmps13
  go_wp2_with (first
    | (go_at_call 39; refine (cM _).mono ?_; rintro e' w' ⟨rfl, hw⟩; obtain rfl := hw.symm)
    | (go_at_call 32; refine (cA _).mono ?_; rintro e' w' ⟨rfl, hw⟩; obtain rfl := hw.symm))
  go_ret3
  exact ⟨by kernel_rfl, rfl⟩
set_option maxRecDepth 100000 in
theorem hMv_2_0 (w : World) : Calls Tryd.prog 13 #[.int .i64 2, .int .i64 0] w fun e w' => e = .returned (.tuple #[.int .i64 1, .int .i64 0, .bool true]) ∧ w' = w := by
  have cM := fun w => hMonomial 2 w
  have cA := fun w => hArity 2 w
  rw [show mnB (rw' 2) = true from by decide +kernel] at cM
  rw [show (rw' 2).q = 1 from by decide +kernel] at cA
  have b0 : bits .and .i64 0 1 = 0 := by kernel_rfl
  go_enter Tryd.func13, Tryd.ntmps13
  go_wp2_with (first
    | (go_at_call 39; refine (cM _).mono ?_; rintro e' w' ⟨rfl, hw⟩; obtain rfl := hw.symm)
    | (go_at_call 32; refine (cA _).mono ?_; rintro e' w' ⟨rfl, hw⟩; obtain rfl := hw.symm))
  go_ret3
  exact ⟨by kernel_rfl, rfl⟩
set_option maxRecDepth 100000 in
theorem hMv_2_1 (w : World) : Calls Tryd.prog 13 #[.int .i64 2, .int .i64 1] w fun e w' => e = .returned (.tuple #[.int .i64 0, .int .i64 0, .bool true]) ∧ w' = w := by
  have cM := fun w => hMonomial 2 w
  have cA := fun w => hArity 2 w
  rw [show mnB (rw' 2) = true from by decide +kernel] at cM
  rw [show (rw' 2).q = 1 from by decide +kernel] at cA
  have b0 : bits .and .i64 0 1 = 0 := by kernel_rfl
  have b1 : bits .and .i64 1 1 = 1 := by kernel_rfl
  go_enter Tryd.func13, Tryd.ntmps13
  go_wp2_with (first
    | (go_at_call 39; refine (cM _).mono ?_; rintro e' w' ⟨rfl, hw⟩; obtain rfl := hw.symm)
    | (go_at_call 32; refine (cA _).mono ?_; rintro e' w' ⟨rfl, hw⟩; obtain rfl := hw.symm))
  go_ret3
  exact ⟨by kernel_rfl, rfl⟩
set_option maxRecDepth 100000 in
theorem hMv_3_0 (w : World) : Calls Tryd.prog 13 #[.int .i64 3, .int .i64 0] w fun e w' => e = .returned (.tuple #[.int .i64 1, .int .i64 1, .bool true]) ∧ w' = w := by
  have cM := fun w => hMonomial 3 w
  have cA := fun w => hArity 3 w
  rw [show mnB (rw' 3) = true from by decide +kernel] at cM
  rw [show (rw' 3).q = 1 from by decide +kernel] at cA
  have b0 : bits .and .i64 0 1 = 0 := by kernel_rfl
  go_enter Tryd.func13, Tryd.ntmps13
  go_wp2_with (first
    | (go_at_call 39; refine (cM _).mono ?_; rintro e' w' ⟨rfl, hw⟩; obtain rfl := hw.symm)
    | (go_at_call 32; refine (cA _).mono ?_; rintro e' w' ⟨rfl, hw⟩; obtain rfl := hw.symm))
  go_ret3
  exact ⟨by kernel_rfl, rfl⟩
set_option maxRecDepth 100000 in
theorem hMv_3_1 (w : World) : Calls Tryd.prog 13 #[.int .i64 3, .int .i64 1] w fun e w' => e = .returned (.tuple #[.int .i64 0, .int .i64 3, .bool true]) ∧ w' = w := by
  have cM := fun w => hMonomial 3 w
  have cA := fun w => hArity 3 w
  rw [show mnB (rw' 3) = true from by decide +kernel] at cM
  rw [show (rw' 3).q = 1 from by decide +kernel] at cA
  have b0 : bits .and .i64 0 1 = 0 := by kernel_rfl
  have b1 : bits .and .i64 1 1 = 1 := by kernel_rfl
  go_enter Tryd.func13, Tryd.ntmps13
  go_wp2_with (first
    | (go_at_call 39; refine (cM _).mono ?_; rintro e' w' ⟨rfl, hw⟩; obtain rfl := hw.symm)
    | (go_at_call 32; refine (cA _).mono ?_; rintro e' w' ⟨rfl, hw⟩; obtain rfl := hw.symm))
  go_ret3
  exact ⟨by kernel_rfl, rfl⟩
set_option maxRecDepth 100000 in
theorem hMv_4_0 (w : World) : Calls Tryd.prog 13 #[.int .i64 4, .int .i64 0] w fun e w' => e = .returned (.tuple #[.int .i64 0, .int .i64 0, .bool true]) ∧ w' = w := by
  have cM := fun w => hMonomial 4 w
  have cA := fun w => hArity 4 w
  rw [show mnB (rw' 4) = true from by decide +kernel] at cM
  rw [show (rw' 4).q = 1 from by decide +kernel] at cA
  have b0 : bits .and .i64 0 1 = 0 := by kernel_rfl
  go_enter Tryd.func13, Tryd.ntmps13
  go_wp2_with (first
    | (go_at_call 39; refine (cM _).mono ?_; rintro e' w' ⟨rfl, hw⟩; obtain rfl := hw.symm)
    | (go_at_call 32; refine (cA _).mono ?_; rintro e' w' ⟨rfl, hw⟩; obtain rfl := hw.symm))
  go_ret3
  exact ⟨by kernel_rfl, rfl⟩
set_option maxRecDepth 100000 in
theorem hMv_4_1 (w : World) : Calls Tryd.prog 13 #[.int .i64 4, .int .i64 1] w fun e w' => e = .returned (.tuple #[.int .i64 1, .int .i64 2, .bool true]) ∧ w' = w := by
  have cM := fun w => hMonomial 4 w
  have cA := fun w => hArity 4 w
  rw [show mnB (rw' 4) = true from by decide +kernel] at cM
  rw [show (rw' 4).q = 1 from by decide +kernel] at cA
  have b0 : bits .and .i64 0 1 = 0 := by kernel_rfl
  have b1 : bits .and .i64 1 1 = 1 := by kernel_rfl
  go_enter Tryd.func13, Tryd.ntmps13
  go_wp2_with (first
    | (go_at_call 39; refine (cM _).mono ?_; rintro e' w' ⟨rfl, hw⟩; obtain rfl := hw.symm)
    | (go_at_call 32; refine (cA _).mono ?_; rintro e' w' ⟨rfl, hw⟩; obtain rfl := hw.symm))
  go_ret3
  exact ⟨by kernel_rfl, rfl⟩
set_option maxRecDepth 100000 in
theorem hMv_5_0 (w : World) : Calls Tryd.prog 13 #[.int .i64 5, .int .i64 0] w fun e w' => e = .returned (.tuple #[.int .i64 0, .int .i64 0, .bool true]) ∧ w' = w := by
  have cM := fun w => hMonomial 5 w
  have cA := fun w => hArity 5 w
  rw [show mnB (rw' 5) = true from by decide +kernel] at cM
  rw [show (rw' 5).q = 1 from by decide +kernel] at cA
  have b0 : bits .and .i64 0 1 = 0 := by kernel_rfl
  go_enter Tryd.func13, Tryd.ntmps13
  go_wp2_with (first
    | (go_at_call 39; refine (cM _).mono ?_; rintro e' w' ⟨rfl, hw⟩; obtain rfl := hw.symm)
    | (go_at_call 32; refine (cA _).mono ?_; rintro e' w' ⟨rfl, hw⟩; obtain rfl := hw.symm))
  go_ret3
  exact ⟨by kernel_rfl, rfl⟩
set_option maxRecDepth 100000 in
theorem hMv_5_1 (w : World) : Calls Tryd.prog 13 #[.int .i64 5, .int .i64 1] w fun e w' => e = .returned (.tuple #[.int .i64 1, .int .i64 1, .bool true]) ∧ w' = w := by
  have cM := fun w => hMonomial 5 w
  have cA := fun w => hArity 5 w
  rw [show mnB (rw' 5) = true from by decide +kernel] at cM
  rw [show (rw' 5).q = 1 from by decide +kernel] at cA
  have b0 : bits .and .i64 0 1 = 0 := by kernel_rfl
  have b1 : bits .and .i64 1 1 = 1 := by kernel_rfl
  go_enter Tryd.func13, Tryd.ntmps13
  go_wp2_with (first
    | (go_at_call 39; refine (cM _).mono ?_; rintro e' w' ⟨rfl, hw⟩; obtain rfl := hw.symm)
    | (go_at_call 32; refine (cA _).mono ?_; rintro e' w' ⟨rfl, hw⟩; obtain rfl := hw.symm))
  go_ret3
  exact ⟨by kernel_rfl, rfl⟩
set_option maxRecDepth 100000 in
theorem hMv_6_0 (w : World) : Calls Tryd.prog 13 #[.int .i64 6, .int .i64 0] w fun e w' => e = .returned (.tuple #[.int .i64 0, .int .i64 0, .bool true]) ∧ w' = w := by
  have cM := fun w => hMonomial 6 w
  have cA := fun w => hArity 6 w
  rw [show mnB (rw' 6) = true from by decide +kernel] at cM
  rw [show (rw' 6).q = 1 from by decide +kernel] at cA
  have b0 : bits .and .i64 0 1 = 0 := by kernel_rfl
  go_enter Tryd.func13, Tryd.ntmps13
  go_wp2_with (first
    | (go_at_call 39; refine (cM _).mono ?_; rintro e' w' ⟨rfl, hw⟩; obtain rfl := hw.symm)
    | (go_at_call 32; refine (cA _).mono ?_; rintro e' w' ⟨rfl, hw⟩; obtain rfl := hw.symm))
  go_ret3
  exact ⟨by kernel_rfl, rfl⟩
set_option maxRecDepth 100000 in
theorem hMv_6_1 (w : World) : Calls Tryd.prog 13 #[.int .i64 6, .int .i64 1] w fun e w' => e = .returned (.tuple #[.int .i64 1, .int .i64 3, .bool true]) ∧ w' = w := by
  have cM := fun w => hMonomial 6 w
  have cA := fun w => hArity 6 w
  rw [show mnB (rw' 6) = true from by decide +kernel] at cM
  rw [show (rw' 6).q = 1 from by decide +kernel] at cA
  have b0 : bits .and .i64 0 1 = 0 := by kernel_rfl
  have b1 : bits .and .i64 1 1 = 1 := by kernel_rfl
  go_enter Tryd.func13, Tryd.ntmps13
  go_wp2_with (first
    | (go_at_call 39; refine (cM _).mono ?_; rintro e' w' ⟨rfl, hw⟩; obtain rfl := hw.symm)
    | (go_at_call 32; refine (cA _).mono ?_; rintro e' w' ⟨rfl, hw⟩; obtain rfl := hw.symm))
  go_ret3
  exact ⟨by kernel_rfl, rfl⟩
set_option maxRecDepth 100000 in
theorem hMv_11_0 (w : World) : Calls Tryd.prog 13 #[.int .i64 11, .int .i64 0] w fun e w' => e = .returned (.tuple #[.int .i64 0, .int .i64 0, .bool true]) ∧ w' = w := by
  have cM := fun w => hMonomial 11 w
  have cA := fun w => hArity 11 w
  rw [show mnB (rw' 11) = true from by decide +kernel] at cM
  rw [show (rw' 11).q = 2 from by decide +kernel] at cA
  have b0 : bits .and .i64 0 1 = 0 := by kernel_rfl
  go_enter Tryd.func13, Tryd.ntmps13
  go_wp2_with (first
    | (go_at_call 39; refine (cM _).mono ?_; rintro e' w' ⟨rfl, hw⟩; obtain rfl := hw.symm)
    | (go_at_call 32; refine (cA _).mono ?_; rintro e' w' ⟨rfl, hw⟩; obtain rfl := hw.symm))
  go_ret3
  exact ⟨by kernel_rfl, rfl⟩
set_option maxRecDepth 100000 in
theorem hMv_11_1 (w : World) : Calls Tryd.prog 13 #[.int .i64 11, .int .i64 1] w fun e w' => e = .returned (.tuple #[.int .i64 3, .int .i64 0, .bool true]) ∧ w' = w := by
  have cM := fun w => hMonomial 11 w
  have cA := fun w => hArity 11 w
  rw [show mnB (rw' 11) = true from by decide +kernel] at cM
  rw [show (rw' 11).q = 2 from by decide +kernel] at cA
  have b0 : bits .and .i64 0 1 = 0 := by kernel_rfl
  have b1 : bits .and .i64 1 1 = 1 := by kernel_rfl
  go_enter Tryd.func13, Tryd.ntmps13
  go_wp2_with (first
    | (go_at_call 39; refine (cM _).mono ?_; rintro e' w' ⟨rfl, hw⟩; obtain rfl := hw.symm)
    | (go_at_call 32; refine (cA _).mono ?_; rintro e' w' ⟨rfl, hw⟩; obtain rfl := hw.symm))
  go_ret3
  exact ⟨by kernel_rfl, rfl⟩
set_option maxRecDepth 100000 in
theorem hMv_11_2 (w : World) : Calls Tryd.prog 13 #[.int .i64 11, .int .i64 2] w fun e w' => e = .returned (.tuple #[.int .i64 2, .int .i64 0, .bool true]) ∧ w' = w := by
  have cM := fun w => hMonomial 11 w
  have cA := fun w => hArity 11 w
  rw [show mnB (rw' 11) = true from by decide +kernel] at cM
  rw [show (rw' 11).q = 2 from by decide +kernel] at cA
  have b0 : bits .and .i64 0 1 = 0 := by kernel_rfl
  have b1 : bits .and .i64 1 1 = 1 := by kernel_rfl
  have b2 : bits .and .i64 2 1 = 0 := by kernel_rfl
  go_enter Tryd.func13, Tryd.ntmps13
  go_wp2_with (first
    | (go_at_call 39; refine (cM _).mono ?_; rintro e' w' ⟨rfl, hw⟩; obtain rfl := hw.symm)
    | (go_at_call 32; refine (cA _).mono ?_; rintro e' w' ⟨rfl, hw⟩; obtain rfl := hw.symm))
  go_ret3
  exact ⟨by kernel_rfl, rfl⟩
set_option maxRecDepth 100000 in
theorem hMv_11_3 (w : World) : Calls Tryd.prog 13 #[.int .i64 11, .int .i64 3] w fun e w' => e = .returned (.tuple #[.int .i64 1, .int .i64 0, .bool true]) ∧ w' = w := by
  have cM := fun w => hMonomial 11 w
  have cA := fun w => hArity 11 w
  rw [show mnB (rw' 11) = true from by decide +kernel] at cM
  rw [show (rw' 11).q = 2 from by decide +kernel] at cA
  have b0 : bits .and .i64 0 1 = 0 := by kernel_rfl
  have b1 : bits .and .i64 1 1 = 1 := by kernel_rfl
  have b2 : bits .and .i64 3 1 = 1 := by kernel_rfl
  go_enter Tryd.func13, Tryd.ntmps13
  go_wp2_with (first
    | (go_at_call 39; refine (cM _).mono ?_; rintro e' w' ⟨rfl, hw⟩; obtain rfl := hw.symm)
    | (go_at_call 32; refine (cA _).mono ?_; rintro e' w' ⟨rfl, hw⟩; obtain rfl := hw.symm))
  go_ret3
  exact ⟨by kernel_rfl, rfl⟩
set_option maxRecDepth 100000 in
theorem hMv_12_0 (w : World) : Calls Tryd.prog 13 #[.int .i64 12, .int .i64 0] w fun e w' => e = .returned (.tuple #[.int .i64 0, .int .i64 0, .bool true]) ∧ w' = w := by
  have cM := fun w => hMonomial 12 w
  have cA := fun w => hArity 12 w
  rw [show mnB (rw' 12) = true from by decide +kernel] at cM
  rw [show (rw' 12).q = 2 from by decide +kernel] at cA
  have b0 : bits .and .i64 0 1 = 0 := by kernel_rfl
  go_enter Tryd.func13, Tryd.ntmps13
  go_wp2_with (first
    | (go_at_call 39; refine (cM _).mono ?_; rintro e' w' ⟨rfl, hw⟩; obtain rfl := hw.symm)
    | (go_at_call 32; refine (cA _).mono ?_; rintro e' w' ⟨rfl, hw⟩; obtain rfl := hw.symm))
  go_ret3
  exact ⟨by kernel_rfl, rfl⟩
set_option maxRecDepth 100000 in
theorem hMv_12_1 (w : World) : Calls Tryd.prog 13 #[.int .i64 12, .int .i64 1] w fun e w' => e = .returned (.tuple #[.int .i64 3, .int .i64 1, .bool true]) ∧ w' = w := by
  have cM := fun w => hMonomial 12 w
  have cA := fun w => hArity 12 w
  rw [show mnB (rw' 12) = true from by decide +kernel] at cM
  rw [show (rw' 12).q = 2 from by decide +kernel] at cA
  have b0 : bits .and .i64 0 1 = 0 := by kernel_rfl
  have b1 : bits .and .i64 1 1 = 1 := by kernel_rfl
  go_enter Tryd.func13, Tryd.ntmps13
  go_wp2_with (first
    | (go_at_call 39; refine (cM _).mono ?_; rintro e' w' ⟨rfl, hw⟩; obtain rfl := hw.symm)
    | (go_at_call 32; refine (cA _).mono ?_; rintro e' w' ⟨rfl, hw⟩; obtain rfl := hw.symm))
  go_ret3
  exact ⟨by kernel_rfl, rfl⟩
set_option maxRecDepth 100000 in
theorem hMv_12_2 (w : World) : Calls Tryd.prog 13 #[.int .i64 12, .int .i64 2] w fun e w' => e = .returned (.tuple #[.int .i64 2, .int .i64 0, .bool true]) ∧ w' = w := by
  have cM := fun w => hMonomial 12 w
  have cA := fun w => hArity 12 w
  rw [show mnB (rw' 12) = true from by decide +kernel] at cM
  rw [show (rw' 12).q = 2 from by decide +kernel] at cA
  have b0 : bits .and .i64 0 1 = 0 := by kernel_rfl
  have b1 : bits .and .i64 1 1 = 1 := by kernel_rfl
  have b2 : bits .and .i64 2 1 = 0 := by kernel_rfl
  go_enter Tryd.func13, Tryd.ntmps13
  go_wp2_with (first
    | (go_at_call 39; refine (cM _).mono ?_; rintro e' w' ⟨rfl, hw⟩; obtain rfl := hw.symm)
    | (go_at_call 32; refine (cA _).mono ?_; rintro e' w' ⟨rfl, hw⟩; obtain rfl := hw.symm))
  go_ret3
  exact ⟨by kernel_rfl, rfl⟩
set_option maxRecDepth 100000 in
theorem hMv_12_3 (w : World) : Calls Tryd.prog 13 #[.int .i64 12, .int .i64 3] w fun e w' => e = .returned (.tuple #[.int .i64 1, .int .i64 3, .bool true]) ∧ w' = w := by
  have cM := fun w => hMonomial 12 w
  have cA := fun w => hArity 12 w
  rw [show mnB (rw' 12) = true from by decide +kernel] at cM
  rw [show (rw' 12).q = 2 from by decide +kernel] at cA
  have b0 : bits .and .i64 0 1 = 0 := by kernel_rfl
  have b1 : bits .and .i64 1 1 = 1 := by kernel_rfl
  have b2 : bits .and .i64 3 1 = 1 := by kernel_rfl
  go_enter Tryd.func13, Tryd.ntmps13
  go_wp2_with (first
    | (go_at_call 39; refine (cM _).mono ?_; rintro e' w' ⟨rfl, hw⟩; obtain rfl := hw.symm)
    | (go_at_call 32; refine (cA _).mono ?_; rintro e' w' ⟨rfl, hw⟩; obtain rfl := hw.symm))
  go_ret3
  exact ⟨by kernel_rfl, rfl⟩
end Go.Proofs.YtnhdgellckcnbaaDoor.Gt
/- The document's Moves, kind by kind and index by index (1). -/
namespace Go.Proofs.YtnhdgellckcnbaaDoor.Gt
open Go.RowKit Go.Proofs.YtnhdgellckcnbaaDoor.Oct

set_option maxRecDepth 100000 in
theorem hMv_13_0 (w : World) : Calls Tryd.prog 13 #[.int .i64 13, .int .i64 0] w fun e w' => e = .returned (.tuple #[.int .i64 0, .int .i64 0, .bool true]) ∧ w' = w := by
  have cM := fun w => hMonomial 13 w
  have cA := fun w => hArity 13 w
  rw [show mnB (rw' 13) = true from by decide +kernel] at cM
  rw [show (rw' 13).q = 2 from by decide +kernel] at cA
  have b0 : bits .and .i64 0 1 = 0 := by kernel_rfl
  go_enter Tryd.func13, Tryd.ntmps13
  go_wp2_with (first
    | (go_at_call 39; refine (cM _).mono ?_; rintro e' w' ⟨rfl, hw⟩; obtain rfl := hw.symm)
    | (go_at_call 32; refine (cA _).mono ?_; rintro e' w' ⟨rfl, hw⟩; obtain rfl := hw.symm))
  go_ret3
  exact ⟨by kernel_rfl, rfl⟩
set_option maxRecDepth 100000 in
theorem hMv_13_1 (w : World) : Calls Tryd.prog 13 #[.int .i64 13, .int .i64 1] w fun e w' => e = .returned (.tuple #[.int .i64 1, .int .i64 0, .bool true]) ∧ w' = w := by
  have cM := fun w => hMonomial 13 w
  have cA := fun w => hArity 13 w
  rw [show mnB (rw' 13) = true from by decide +kernel] at cM
  rw [show (rw' 13).q = 2 from by decide +kernel] at cA
  have b0 : bits .and .i64 0 1 = 0 := by kernel_rfl
  have b1 : bits .and .i64 1 1 = 1 := by kernel_rfl
  go_enter Tryd.func13, Tryd.ntmps13
  go_wp2_with (first
    | (go_at_call 39; refine (cM _).mono ?_; rintro e' w' ⟨rfl, hw⟩; obtain rfl := hw.symm)
    | (go_at_call 32; refine (cA _).mono ?_; rintro e' w' ⟨rfl, hw⟩; obtain rfl := hw.symm))
  go_ret3
  exact ⟨by kernel_rfl, rfl⟩
set_option maxRecDepth 100000 in
theorem hMv_13_2 (w : World) : Calls Tryd.prog 13 #[.int .i64 13, .int .i64 2] w fun e w' => e = .returned (.tuple #[.int .i64 2, .int .i64 0, .bool true]) ∧ w' = w := by
  have cM := fun w => hMonomial 13 w
  have cA := fun w => hArity 13 w
  rw [show mnB (rw' 13) = true from by decide +kernel] at cM
  rw [show (rw' 13).q = 2 from by decide +kernel] at cA
  have b0 : bits .and .i64 0 1 = 0 := by kernel_rfl
  have b1 : bits .and .i64 1 1 = 1 := by kernel_rfl
  have b2 : bits .and .i64 2 1 = 0 := by kernel_rfl
  go_enter Tryd.func13, Tryd.ntmps13
  go_wp2_with (first
    | (go_at_call 39; refine (cM _).mono ?_; rintro e' w' ⟨rfl, hw⟩; obtain rfl := hw.symm)
    | (go_at_call 32; refine (cA _).mono ?_; rintro e' w' ⟨rfl, hw⟩; obtain rfl := hw.symm))
  go_ret3
  exact ⟨by kernel_rfl, rfl⟩
set_option maxRecDepth 100000 in
theorem hMv_13_3 (w : World) : Calls Tryd.prog 13 #[.int .i64 13, .int .i64 3] w fun e w' => e = .returned (.tuple #[.int .i64 3, .int .i64 2, .bool true]) ∧ w' = w := by
  have cM := fun w => hMonomial 13 w
  have cA := fun w => hArity 13 w
  rw [show mnB (rw' 13) = true from by decide +kernel] at cM
  rw [show (rw' 13).q = 2 from by decide +kernel] at cA
  have b0 : bits .and .i64 0 1 = 0 := by kernel_rfl
  have b1 : bits .and .i64 1 1 = 1 := by kernel_rfl
  have b2 : bits .and .i64 3 1 = 1 := by kernel_rfl
  go_enter Tryd.func13, Tryd.ntmps13
  go_wp2_with (first
    | (go_at_call 39; refine (cM _).mono ?_; rintro e' w' ⟨rfl, hw⟩; obtain rfl := hw.symm)
    | (go_at_call 32; refine (cA _).mono ?_; rintro e' w' ⟨rfl, hw⟩; obtain rfl := hw.symm))
  go_ret3
  exact ⟨by kernel_rfl, rfl⟩
set_option maxRecDepth 100000 in
theorem hMv_14_0 (w : World) : Calls Tryd.prog 13 #[.int .i64 14, .int .i64 0] w fun e w' => e = .returned (.tuple #[.int .i64 0, .int .i64 0, .bool true]) ∧ w' = w := by
  have cM := fun w => hMonomial 14 w
  have cA := fun w => hArity 14 w
  rw [show mnB (rw' 14) = true from by decide +kernel] at cM
  rw [show (rw' 14).q = 2 from by decide +kernel] at cA
  have b0 : bits .and .i64 0 1 = 0 := by kernel_rfl
  go_enter Tryd.func13, Tryd.ntmps13
  go_wp2_with (first
    | (go_at_call 39; refine (cM _).mono ?_; rintro e' w' ⟨rfl, hw⟩; obtain rfl := hw.symm)
    | (go_at_call 32; refine (cA _).mono ?_; rintro e' w' ⟨rfl, hw⟩; obtain rfl := hw.symm))
  go_ret3
  exact ⟨by kernel_rfl, rfl⟩
set_option maxRecDepth 100000 in
theorem hMv_14_1 (w : World) : Calls Tryd.prog 13 #[.int .i64 14, .int .i64 1] w fun e w' => e = .returned (.tuple #[.int .i64 2, .int .i64 0, .bool true]) ∧ w' = w := by
  have cM := fun w => hMonomial 14 w
  have cA := fun w => hArity 14 w
  rw [show mnB (rw' 14) = true from by decide +kernel] at cM
  rw [show (rw' 14).q = 2 from by decide +kernel] at cA
  have b0 : bits .and .i64 0 1 = 0 := by kernel_rfl
  have b1 : bits .and .i64 1 1 = 1 := by kernel_rfl
  go_enter Tryd.func13, Tryd.ntmps13
  go_wp2_with (first
    | (go_at_call 39; refine (cM _).mono ?_; rintro e' w' ⟨rfl, hw⟩; obtain rfl := hw.symm)
    | (go_at_call 32; refine (cA _).mono ?_; rintro e' w' ⟨rfl, hw⟩; obtain rfl := hw.symm))
  go_ret3
  exact ⟨by kernel_rfl, rfl⟩
set_option maxRecDepth 100000 in
theorem hMv_14_2 (w : World) : Calls Tryd.prog 13 #[.int .i64 14, .int .i64 2] w fun e w' => e = .returned (.tuple #[.int .i64 1, .int .i64 0, .bool true]) ∧ w' = w := by
  have cM := fun w => hMonomial 14 w
  have cA := fun w => hArity 14 w
  rw [show mnB (rw' 14) = true from by decide +kernel] at cM
  rw [show (rw' 14).q = 2 from by decide +kernel] at cA
  have b0 : bits .and .i64 0 1 = 0 := by kernel_rfl
  have b1 : bits .and .i64 1 1 = 1 := by kernel_rfl
  have b2 : bits .and .i64 2 1 = 0 := by kernel_rfl
  go_enter Tryd.func13, Tryd.ntmps13
  go_wp2_with (first
    | (go_at_call 39; refine (cM _).mono ?_; rintro e' w' ⟨rfl, hw⟩; obtain rfl := hw.symm)
    | (go_at_call 32; refine (cA _).mono ?_; rintro e' w' ⟨rfl, hw⟩; obtain rfl := hw.symm))
  go_ret3
  exact ⟨by kernel_rfl, rfl⟩
set_option maxRecDepth 100000 in
theorem hMv_14_3 (w : World) : Calls Tryd.prog 13 #[.int .i64 14, .int .i64 3] w fun e w' => e = .returned (.tuple #[.int .i64 3, .int .i64 0, .bool true]) ∧ w' = w := by
  have cM := fun w => hMonomial 14 w
  have cA := fun w => hArity 14 w
  rw [show mnB (rw' 14) = true from by decide +kernel] at cM
  rw [show (rw' 14).q = 2 from by decide +kernel] at cA
  have b0 : bits .and .i64 0 1 = 0 := by kernel_rfl
  have b1 : bits .and .i64 1 1 = 1 := by kernel_rfl
  have b2 : bits .and .i64 3 1 = 1 := by kernel_rfl
  go_enter Tryd.func13, Tryd.ntmps13
  go_wp2_with (first
    | (go_at_call 39; refine (cM _).mono ?_; rintro e' w' ⟨rfl, hw⟩; obtain rfl := hw.symm)
    | (go_at_call 32; refine (cA _).mono ?_; rintro e' w' ⟨rfl, hw⟩; obtain rfl := hw.symm))
  go_ret3
  exact ⟨by kernel_rfl, rfl⟩
set_option maxRecDepth 100000 in
theorem hMv_15_0 (w : World) : Calls Tryd.prog 13 #[.int .i64 15, .int .i64 0] w fun e w' => e = .returned (.tuple #[.int .i64 0, .int .i64 0, .bool true]) ∧ w' = w := by
  have cM := fun w => hMonomial 15 w
  have cA := fun w => hArity 15 w
  rw [show mnB (rw' 15) = true from by decide +kernel] at cM
  rw [show (rw' 15).q = 2 from by decide +kernel] at cA
  have b0 : bits .and .i64 0 1 = 0 := by kernel_rfl
  go_enter Tryd.func13, Tryd.ntmps13
  go_wp2_with (first
    | (go_at_call 39; refine (cM _).mono ?_; rintro e' w' ⟨rfl, hw⟩; obtain rfl := hw.symm)
    | (go_at_call 32; refine (cA _).mono ?_; rintro e' w' ⟨rfl, hw⟩; obtain rfl := hw.symm))
  go_ret3
  exact ⟨by kernel_rfl, rfl⟩
set_option maxRecDepth 100000 in
theorem hMv_15_1 (w : World) : Calls Tryd.prog 13 #[.int .i64 15, .int .i64 1] w fun e w' => e = .returned (.tuple #[.int .i64 2, .int .i64 1, .bool true]) ∧ w' = w := by
  have cM := fun w => hMonomial 15 w
  have cA := fun w => hArity 15 w
  rw [show mnB (rw' 15) = true from by decide +kernel] at cM
  rw [show (rw' 15).q = 2 from by decide +kernel] at cA
  have b0 : bits .and .i64 0 1 = 0 := by kernel_rfl
  have b1 : bits .and .i64 1 1 = 1 := by kernel_rfl
  go_enter Tryd.func13, Tryd.ntmps13
  go_wp2_with (first
    | (go_at_call 39; refine (cM _).mono ?_; rintro e' w' ⟨rfl, hw⟩; obtain rfl := hw.symm)
    | (go_at_call 32; refine (cA _).mono ?_; rintro e' w' ⟨rfl, hw⟩; obtain rfl := hw.symm))
  go_ret3
  exact ⟨by kernel_rfl, rfl⟩
set_option maxRecDepth 100000 in
theorem hMv_15_2 (w : World) : Calls Tryd.prog 13 #[.int .i64 15, .int .i64 2] w fun e w' => e = .returned (.tuple #[.int .i64 1, .int .i64 1, .bool true]) ∧ w' = w := by
  have cM := fun w => hMonomial 15 w
  have cA := fun w => hArity 15 w
  rw [show mnB (rw' 15) = true from by decide +kernel] at cM
  rw [show (rw' 15).q = 2 from by decide +kernel] at cA
  have b0 : bits .and .i64 0 1 = 0 := by kernel_rfl
  have b1 : bits .and .i64 1 1 = 1 := by kernel_rfl
  have b2 : bits .and .i64 2 1 = 0 := by kernel_rfl
  go_enter Tryd.func13, Tryd.ntmps13
  go_wp2_with (first
    | (go_at_call 39; refine (cM _).mono ?_; rintro e' w' ⟨rfl, hw⟩; obtain rfl := hw.symm)
    | (go_at_call 32; refine (cA _).mono ?_; rintro e' w' ⟨rfl, hw⟩; obtain rfl := hw.symm))
  go_ret3
  exact ⟨by kernel_rfl, rfl⟩
set_option maxRecDepth 100000 in
theorem hMv_15_3 (w : World) : Calls Tryd.prog 13 #[.int .i64 15, .int .i64 3] w fun e w' => e = .returned (.tuple #[.int .i64 3, .int .i64 0, .bool true]) ∧ w' = w := by
  have cM := fun w => hMonomial 15 w
  have cA := fun w => hArity 15 w
  rw [show mnB (rw' 15) = true from by decide +kernel] at cM
  rw [show (rw' 15).q = 2 from by decide +kernel] at cA
  have b0 : bits .and .i64 0 1 = 0 := by kernel_rfl
  have b1 : bits .and .i64 1 1 = 1 := by kernel_rfl
  have b2 : bits .and .i64 3 1 = 1 := by kernel_rfl
  go_enter Tryd.func13, Tryd.ntmps13
  go_wp2_with (first
    | (go_at_call 39; refine (cM _).mono ?_; rintro e' w' ⟨rfl, hw⟩; obtain rfl := hw.symm)
    | (go_at_call 32; refine (cA _).mono ?_; rintro e' w' ⟨rfl, hw⟩; obtain rfl := hw.symm))
  go_ret3
  exact ⟨by kernel_rfl, rfl⟩
set_option maxRecDepth 100000 in
theorem hMv_16_0 (w : World) : Calls Tryd.prog 13 #[.int .i64 16, .int .i64 0] w fun e w' => e = .returned (.tuple #[.int .i64 0, .int .i64 0, .bool true]) ∧ w' = w := by
  have cM := fun w => hMonomial 16 w
  have cA := fun w => hArity 16 w
  rw [show mnB (rw' 16) = true from by decide +kernel] at cM
  rw [show (rw' 16).q = 2 from by decide +kernel] at cA
  have b0 : bits .and .i64 0 1 = 0 := by kernel_rfl
  go_enter Tryd.func13, Tryd.ntmps13
  go_wp2_with (first
    | (go_at_call 39; refine (cM _).mono ?_; rintro e' w' ⟨rfl, hw⟩; obtain rfl := hw.symm)
    | (go_at_call 32; refine (cA _).mono ?_; rintro e' w' ⟨rfl, hw⟩; obtain rfl := hw.symm))
  go_ret3
  exact ⟨by kernel_rfl, rfl⟩
set_option maxRecDepth 100000 in
theorem hMv_16_1 (w : World) : Calls Tryd.prog 13 #[.int .i64 16, .int .i64 1] w fun e w' => e = .returned (.tuple #[.int .i64 2, .int .i64 3, .bool true]) ∧ w' = w := by
  have cM := fun w => hMonomial 16 w
  have cA := fun w => hArity 16 w
  rw [show mnB (rw' 16) = true from by decide +kernel] at cM
  rw [show (rw' 16).q = 2 from by decide +kernel] at cA
  have b0 : bits .and .i64 0 1 = 0 := by kernel_rfl
  have b1 : bits .and .i64 1 1 = 1 := by kernel_rfl
  go_enter Tryd.func13, Tryd.ntmps13
  go_wp2_with (first
    | (go_at_call 39; refine (cM _).mono ?_; rintro e' w' ⟨rfl, hw⟩; obtain rfl := hw.symm)
    | (go_at_call 32; refine (cA _).mono ?_; rintro e' w' ⟨rfl, hw⟩; obtain rfl := hw.symm))
  go_ret3
  exact ⟨by kernel_rfl, rfl⟩
set_option maxRecDepth 100000 in
theorem hMv_16_2 (w : World) : Calls Tryd.prog 13 #[.int .i64 16, .int .i64 2] w fun e w' => e = .returned (.tuple #[.int .i64 1, .int .i64 3, .bool true]) ∧ w' = w := by
  have cM := fun w => hMonomial 16 w
  have cA := fun w => hArity 16 w
  rw [show mnB (rw' 16) = true from by decide +kernel] at cM
  rw [show (rw' 16).q = 2 from by decide +kernel] at cA
  have b0 : bits .and .i64 0 1 = 0 := by kernel_rfl
  have b1 : bits .and .i64 1 1 = 1 := by kernel_rfl
  have b2 : bits .and .i64 2 1 = 0 := by kernel_rfl
  go_enter Tryd.func13, Tryd.ntmps13
  go_wp2_with (first
    | (go_at_call 39; refine (cM _).mono ?_; rintro e' w' ⟨rfl, hw⟩; obtain rfl := hw.symm)
    | (go_at_call 32; refine (cA _).mono ?_; rintro e' w' ⟨rfl, hw⟩; obtain rfl := hw.symm))
  go_ret3
  exact ⟨by kernel_rfl, rfl⟩
set_option maxRecDepth 100000 in
theorem hMv_16_3 (w : World) : Calls Tryd.prog 13 #[.int .i64 16, .int .i64 3] w fun e w' => e = .returned (.tuple #[.int .i64 3, .int .i64 0, .bool true]) ∧ w' = w := by
  have cM := fun w => hMonomial 16 w
  have cA := fun w => hArity 16 w
  rw [show mnB (rw' 16) = true from by decide +kernel] at cM
  rw [show (rw' 16).q = 2 from by decide +kernel] at cA
  have b0 : bits .and .i64 0 1 = 0 := by kernel_rfl
  have b1 : bits .and .i64 1 1 = 1 := by kernel_rfl
  have b2 : bits .and .i64 3 1 = 1 := by kernel_rfl
  go_enter Tryd.func13, Tryd.ntmps13
  go_wp2_with (first
    | (go_at_call 39; refine (cM _).mono ?_; rintro e' w' ⟨rfl, hw⟩; obtain rfl := hw.symm)
    | (go_at_call 32; refine (cA _).mono ?_; rintro e' w' ⟨rfl, hw⟩; obtain rfl := hw.symm))
  go_ret3
  exact ⟨by kernel_rfl, rfl⟩
set_option maxRecDepth 100000 in
theorem hMv_18_0 (w : World) : Calls Tryd.prog 13 #[.int .i64 18, .int .i64 0] w fun e w' => e = .returned (.tuple #[.int .i64 0, .int .i64 0, .bool true]) ∧ w' = w := by
  have cM := fun w => hMonomial 18 w
  have cA := fun w => hArity 18 w
  rw [show mnB (rw' 18) = true from by decide +kernel] at cM
  rw [show (rw' 18).q = 3 from by decide +kernel] at cA
  have b0 : bits .and .i64 0 1 = 0 := by kernel_rfl
  go_enter Tryd.func13, Tryd.ntmps13
  go_wp2_with (first
    | (go_at_call 39; refine (cM _).mono ?_; rintro e' w' ⟨rfl, hw⟩; obtain rfl := hw.symm)
    | (go_at_call 32; refine (cA _).mono ?_; rintro e' w' ⟨rfl, hw⟩; obtain rfl := hw.symm))
  go_ret3
  exact ⟨by kernel_rfl, rfl⟩
set_option maxRecDepth 100000 in
theorem hMv_18_1 (w : World) : Calls Tryd.prog 13 #[.int .i64 18, .int .i64 1] w fun e w' => e = .returned (.tuple #[.int .i64 1, .int .i64 0, .bool true]) ∧ w' = w := by
  have cM := fun w => hMonomial 18 w
  have cA := fun w => hArity 18 w
  rw [show mnB (rw' 18) = true from by decide +kernel] at cM
  rw [show (rw' 18).q = 3 from by decide +kernel] at cA
  have b0 : bits .and .i64 0 1 = 0 := by kernel_rfl
  have b1 : bits .and .i64 1 1 = 1 := by kernel_rfl
  go_enter Tryd.func13, Tryd.ntmps13
  go_wp2_with (first
    | (go_at_call 39; refine (cM _).mono ?_; rintro e' w' ⟨rfl, hw⟩; obtain rfl := hw.symm)
    | (go_at_call 32; refine (cA _).mono ?_; rintro e' w' ⟨rfl, hw⟩; obtain rfl := hw.symm))
  go_ret3
  exact ⟨by kernel_rfl, rfl⟩
set_option maxRecDepth 100000 in
theorem hMv_18_2 (w : World) : Calls Tryd.prog 13 #[.int .i64 18, .int .i64 2] w fun e w' => e = .returned (.tuple #[.int .i64 2, .int .i64 0, .bool true]) ∧ w' = w := by
  have cM := fun w => hMonomial 18 w
  have cA := fun w => hArity 18 w
  rw [show mnB (rw' 18) = true from by decide +kernel] at cM
  rw [show (rw' 18).q = 3 from by decide +kernel] at cA
  have b0 : bits .and .i64 0 1 = 0 := by kernel_rfl
  have b1 : bits .and .i64 1 1 = 1 := by kernel_rfl
  have b2 : bits .and .i64 2 1 = 0 := by kernel_rfl
  go_enter Tryd.func13, Tryd.ntmps13
  go_wp2_with (first
    | (go_at_call 39; refine (cM _).mono ?_; rintro e' w' ⟨rfl, hw⟩; obtain rfl := hw.symm)
    | (go_at_call 32; refine (cA _).mono ?_; rintro e' w' ⟨rfl, hw⟩; obtain rfl := hw.symm))
  go_ret3
  exact ⟨by kernel_rfl, rfl⟩
set_option maxRecDepth 100000 in
theorem hMv_18_3 (w : World) : Calls Tryd.prog 13 #[.int .i64 18, .int .i64 3] w fun e w' => e = .returned (.tuple #[.int .i64 7, .int .i64 0, .bool true]) ∧ w' = w := by
  have cM := fun w => hMonomial 18 w
  have cA := fun w => hArity 18 w
  rw [show mnB (rw' 18) = true from by decide +kernel] at cM
  rw [show (rw' 18).q = 3 from by decide +kernel] at cA
  have b0 : bits .and .i64 0 1 = 0 := by kernel_rfl
  have b1 : bits .and .i64 1 1 = 1 := by kernel_rfl
  have b2 : bits .and .i64 3 1 = 1 := by kernel_rfl
  go_enter Tryd.func13, Tryd.ntmps13
  go_wp2_with (first
    | (go_at_call 39; refine (cM _).mono ?_; rintro e' w' ⟨rfl, hw⟩; obtain rfl := hw.symm)
    | (go_at_call 32; refine (cA _).mono ?_; rintro e' w' ⟨rfl, hw⟩; obtain rfl := hw.symm))
  go_ret3
  exact ⟨by kernel_rfl, rfl⟩
end Go.Proofs.YtnhdgellckcnbaaDoor.Gt
/- The document's Moves, kind by kind and index by index (2). -/
namespace Go.Proofs.YtnhdgellckcnbaaDoor.Gt
open Go.RowKit Go.Proofs.YtnhdgellckcnbaaDoor.Oct

set_option maxRecDepth 100000 in
theorem hMv_18_4 (w : World) : Calls Tryd.prog 13 #[.int .i64 18, .int .i64 4] w fun e w' => e = .returned (.tuple #[.int .i64 4, .int .i64 0, .bool true]) ∧ w' = w := by
  have cM := fun w => hMonomial 18 w
  have cA := fun w => hArity 18 w
  rw [show mnB (rw' 18) = true from by decide +kernel] at cM
  rw [show (rw' 18).q = 3 from by decide +kernel] at cA
  have b0 : bits .and .i64 1 1 = 1 := by kernel_rfl
  have b1 : bits .and .i64 2 1 = 0 := by kernel_rfl
  have b2 : bits .and .i64 4 1 = 0 := by kernel_rfl
  go_enter Tryd.func13, Tryd.ntmps13
  go_wp2_with (first
    | (go_at_call 39; refine (cM _).mono ?_; rintro e' w' ⟨rfl, hw⟩; obtain rfl := hw.symm)
    | (go_at_call 32; refine (cA _).mono ?_; rintro e' w' ⟨rfl, hw⟩; obtain rfl := hw.symm))
  go_ret3
  exact ⟨by kernel_rfl, rfl⟩
set_option maxRecDepth 100000 in
theorem hMv_18_5 (w : World) : Calls Tryd.prog 13 #[.int .i64 18, .int .i64 5] w fun e w' => e = .returned (.tuple #[.int .i64 5, .int .i64 0, .bool true]) ∧ w' = w := by
  have cM := fun w => hMonomial 18 w
  have cA := fun w => hArity 18 w
  rw [show mnB (rw' 18) = true from by decide +kernel] at cM
  rw [show (rw' 18).q = 3 from by decide +kernel] at cA
  have b0 : bits .and .i64 1 1 = 1 := by kernel_rfl
  have b1 : bits .and .i64 2 1 = 0 := by kernel_rfl
  have b2 : bits .and .i64 5 1 = 1 := by kernel_rfl
  go_enter Tryd.func13, Tryd.ntmps13
  go_wp2_with (first
    | (go_at_call 39; refine (cM _).mono ?_; rintro e' w' ⟨rfl, hw⟩; obtain rfl := hw.symm)
    | (go_at_call 32; refine (cA _).mono ?_; rintro e' w' ⟨rfl, hw⟩; obtain rfl := hw.symm))
  go_ret3
  exact ⟨by kernel_rfl, rfl⟩
set_option maxRecDepth 100000 in
theorem hMv_18_6 (w : World) : Calls Tryd.prog 13 #[.int .i64 18, .int .i64 6] w fun e w' => e = .returned (.tuple #[.int .i64 6, .int .i64 0, .bool true]) ∧ w' = w := by
  have cM := fun w => hMonomial 18 w
  have cA := fun w => hArity 18 w
  rw [show mnB (rw' 18) = true from by decide +kernel] at cM
  rw [show (rw' 18).q = 3 from by decide +kernel] at cA
  have b0 : bits .and .i64 1 1 = 1 := by kernel_rfl
  have b1 : bits .and .i64 3 1 = 1 := by kernel_rfl
  have b2 : bits .and .i64 6 1 = 0 := by kernel_rfl
  go_enter Tryd.func13, Tryd.ntmps13
  go_wp2_with (first
    | (go_at_call 39; refine (cM _).mono ?_; rintro e' w' ⟨rfl, hw⟩; obtain rfl := hw.symm)
    | (go_at_call 32; refine (cA _).mono ?_; rintro e' w' ⟨rfl, hw⟩; obtain rfl := hw.symm))
  go_ret3
  exact ⟨by kernel_rfl, rfl⟩
set_option maxRecDepth 100000 in
theorem hMv_18_7 (w : World) : Calls Tryd.prog 13 #[.int .i64 18, .int .i64 7] w fun e w' => e = .returned (.tuple #[.int .i64 3, .int .i64 0, .bool true]) ∧ w' = w := by
  have cM := fun w => hMonomial 18 w
  have cA := fun w => hArity 18 w
  rw [show mnB (rw' 18) = true from by decide +kernel] at cM
  rw [show (rw' 18).q = 3 from by decide +kernel] at cA
  have b0 : bits .and .i64 1 1 = 1 := by kernel_rfl
  have b1 : bits .and .i64 3 1 = 1 := by kernel_rfl
  have b2 : bits .and .i64 7 1 = 1 := by kernel_rfl
  go_enter Tryd.func13, Tryd.ntmps13
  go_wp2_with (first
    | (go_at_call 39; refine (cM _).mono ?_; rintro e' w' ⟨rfl, hw⟩; obtain rfl := hw.symm)
    | (go_at_call 32; refine (cA _).mono ?_; rintro e' w' ⟨rfl, hw⟩; obtain rfl := hw.symm))
  go_ret3
  exact ⟨by kernel_rfl, rfl⟩
set_option maxRecDepth 100000 in
theorem hMv_19_0 (w : World) : Calls Tryd.prog 13 #[.int .i64 19, .int .i64 0] w fun e w' => e = .returned (.tuple #[.int .i64 0, .int .i64 0, .bool true]) ∧ w' = w := by
  have cM := fun w => hMonomial 19 w
  have cA := fun w => hArity 19 w
  rw [show mnB (rw' 19) = true from by decide +kernel] at cM
  rw [show (rw' 19).q = 3 from by decide +kernel] at cA
  have b0 : bits .and .i64 0 1 = 0 := by kernel_rfl
  go_enter Tryd.func13, Tryd.ntmps13
  go_wp2_with (first
    | (go_at_call 39; refine (cM _).mono ?_; rintro e' w' ⟨rfl, hw⟩; obtain rfl := hw.symm)
    | (go_at_call 32; refine (cA _).mono ?_; rintro e' w' ⟨rfl, hw⟩; obtain rfl := hw.symm))
  go_ret3
  exact ⟨by kernel_rfl, rfl⟩
set_option maxRecDepth 100000 in
theorem hMv_19_1 (w : World) : Calls Tryd.prog 13 #[.int .i64 19, .int .i64 1] w fun e w' => e = .returned (.tuple #[.int .i64 1, .int .i64 0, .bool true]) ∧ w' = w := by
  have cM := fun w => hMonomial 19 w
  have cA := fun w => hArity 19 w
  rw [show mnB (rw' 19) = true from by decide +kernel] at cM
  rw [show (rw' 19).q = 3 from by decide +kernel] at cA
  have b0 : bits .and .i64 0 1 = 0 := by kernel_rfl
  have b1 : bits .and .i64 1 1 = 1 := by kernel_rfl
  go_enter Tryd.func13, Tryd.ntmps13
  go_wp2_with (first
    | (go_at_call 39; refine (cM _).mono ?_; rintro e' w' ⟨rfl, hw⟩; obtain rfl := hw.symm)
    | (go_at_call 32; refine (cA _).mono ?_; rintro e' w' ⟨rfl, hw⟩; obtain rfl := hw.symm))
  go_ret3
  exact ⟨by kernel_rfl, rfl⟩
set_option maxRecDepth 100000 in
theorem hMv_19_2 (w : World) : Calls Tryd.prog 13 #[.int .i64 19, .int .i64 2] w fun e w' => e = .returned (.tuple #[.int .i64 2, .int .i64 0, .bool true]) ∧ w' = w := by
  have cM := fun w => hMonomial 19 w
  have cA := fun w => hArity 19 w
  rw [show mnB (rw' 19) = true from by decide +kernel] at cM
  rw [show (rw' 19).q = 3 from by decide +kernel] at cA
  have b0 : bits .and .i64 0 1 = 0 := by kernel_rfl
  have b1 : bits .and .i64 1 1 = 1 := by kernel_rfl
  have b2 : bits .and .i64 2 1 = 0 := by kernel_rfl
  go_enter Tryd.func13, Tryd.ntmps13
  go_wp2_with (first
    | (go_at_call 39; refine (cM _).mono ?_; rintro e' w' ⟨rfl, hw⟩; obtain rfl := hw.symm)
    | (go_at_call 32; refine (cA _).mono ?_; rintro e' w' ⟨rfl, hw⟩; obtain rfl := hw.symm))
  go_ret3
  exact ⟨by kernel_rfl, rfl⟩
set_option maxRecDepth 100000 in
theorem hMv_19_3 (w : World) : Calls Tryd.prog 13 #[.int .i64 19, .int .i64 3] w fun e w' => e = .returned (.tuple #[.int .i64 3, .int .i64 0, .bool true]) ∧ w' = w := by
  have cM := fun w => hMonomial 19 w
  have cA := fun w => hArity 19 w
  rw [show mnB (rw' 19) = true from by decide +kernel] at cM
  rw [show (rw' 19).q = 3 from by decide +kernel] at cA
  have b0 : bits .and .i64 0 1 = 0 := by kernel_rfl
  have b1 : bits .and .i64 1 1 = 1 := by kernel_rfl
  have b2 : bits .and .i64 3 1 = 1 := by kernel_rfl
  go_enter Tryd.func13, Tryd.ntmps13
  go_wp2_with (first
    | (go_at_call 39; refine (cM _).mono ?_; rintro e' w' ⟨rfl, hw⟩; obtain rfl := hw.symm)
    | (go_at_call 32; refine (cA _).mono ?_; rintro e' w' ⟨rfl, hw⟩; obtain rfl := hw.symm))
  go_ret3
  exact ⟨by kernel_rfl, rfl⟩
set_option maxRecDepth 100000 in
theorem hMv_19_4 (w : World) : Calls Tryd.prog 13 #[.int .i64 19, .int .i64 4] w fun e w' => e = .returned (.tuple #[.int .i64 4, .int .i64 0, .bool true]) ∧ w' = w := by
  have cM := fun w => hMonomial 19 w
  have cA := fun w => hArity 19 w
  rw [show mnB (rw' 19) = true from by decide +kernel] at cM
  rw [show (rw' 19).q = 3 from by decide +kernel] at cA
  have b0 : bits .and .i64 1 1 = 1 := by kernel_rfl
  have b1 : bits .and .i64 2 1 = 0 := by kernel_rfl
  have b2 : bits .and .i64 4 1 = 0 := by kernel_rfl
  go_enter Tryd.func13, Tryd.ntmps13
  go_wp2_with (first
    | (go_at_call 39; refine (cM _).mono ?_; rintro e' w' ⟨rfl, hw⟩; obtain rfl := hw.symm)
    | (go_at_call 32; refine (cA _).mono ?_; rintro e' w' ⟨rfl, hw⟩; obtain rfl := hw.symm))
  go_ret3
  exact ⟨by kernel_rfl, rfl⟩
set_option maxRecDepth 100000 in
theorem hMv_19_5 (w : World) : Calls Tryd.prog 13 #[.int .i64 19, .int .i64 5] w fun e w' => e = .returned (.tuple #[.int .i64 5, .int .i64 0, .bool true]) ∧ w' = w := by
  have cM := fun w => hMonomial 19 w
  have cA := fun w => hArity 19 w
  rw [show mnB (rw' 19) = true from by decide +kernel] at cM
  rw [show (rw' 19).q = 3 from by decide +kernel] at cA
  have b0 : bits .and .i64 1 1 = 1 := by kernel_rfl
  have b1 : bits .and .i64 2 1 = 0 := by kernel_rfl
  have b2 : bits .and .i64 5 1 = 1 := by kernel_rfl
  go_enter Tryd.func13, Tryd.ntmps13
  go_wp2_with (first
    | (go_at_call 39; refine (cM _).mono ?_; rintro e' w' ⟨rfl, hw⟩; obtain rfl := hw.symm)
    | (go_at_call 32; refine (cA _).mono ?_; rintro e' w' ⟨rfl, hw⟩; obtain rfl := hw.symm))
  go_ret3
  exact ⟨by kernel_rfl, rfl⟩
set_option maxRecDepth 100000 in
theorem hMv_19_6 (w : World) : Calls Tryd.prog 13 #[.int .i64 19, .int .i64 6] w fun e w' => e = .returned (.tuple #[.int .i64 6, .int .i64 0, .bool true]) ∧ w' = w := by
  have cM := fun w => hMonomial 19 w
  have cA := fun w => hArity 19 w
  rw [show mnB (rw' 19) = true from by decide +kernel] at cM
  rw [show (rw' 19).q = 3 from by decide +kernel] at cA
  have b0 : bits .and .i64 1 1 = 1 := by kernel_rfl
  have b1 : bits .and .i64 3 1 = 1 := by kernel_rfl
  have b2 : bits .and .i64 6 1 = 0 := by kernel_rfl
  go_enter Tryd.func13, Tryd.ntmps13
  go_wp2_with (first
    | (go_at_call 39; refine (cM _).mono ?_; rintro e' w' ⟨rfl, hw⟩; obtain rfl := hw.symm)
    | (go_at_call 32; refine (cA _).mono ?_; rintro e' w' ⟨rfl, hw⟩; obtain rfl := hw.symm))
  go_ret3
  exact ⟨by kernel_rfl, rfl⟩
set_option maxRecDepth 100000 in
theorem hMv_19_7 (w : World) : Calls Tryd.prog 13 #[.int .i64 19, .int .i64 7] w fun e w' => e = .returned (.tuple #[.int .i64 7, .int .i64 2, .bool true]) ∧ w' = w := by
  have cM := fun w => hMonomial 19 w
  have cA := fun w => hArity 19 w
  rw [show mnB (rw' 19) = true from by decide +kernel] at cM
  rw [show (rw' 19).q = 3 from by decide +kernel] at cA
  have b0 : bits .and .i64 1 1 = 1 := by kernel_rfl
  have b1 : bits .and .i64 3 1 = 1 := by kernel_rfl
  have b2 : bits .and .i64 7 1 = 1 := by kernel_rfl
  go_enter Tryd.func13, Tryd.ntmps13
  go_wp2_with (first
    | (go_at_call 39; refine (cM _).mono ?_; rintro e' w' ⟨rfl, hw⟩; obtain rfl := hw.symm)
    | (go_at_call 32; refine (cA _).mono ?_; rintro e' w' ⟨rfl, hw⟩; obtain rfl := hw.symm))
  go_ret3
  exact ⟨by kernel_rfl, rfl⟩
set_option maxRecDepth 100000 in
theorem hMv_20_0 (w : World) : Calls Tryd.prog 13 #[.int .i64 20, .int .i64 0] w fun e w' => e = .returned (.tuple #[.int .i64 0, .int .i64 0, .bool true]) ∧ w' = w := by
  have cM := fun w => hMonomial 20 w
  have cA := fun w => hArity 20 w
  rw [show mnB (rw' 20) = true from by decide +kernel] at cM
  rw [show (rw' 20).q = 3 from by decide +kernel] at cA
  have b0 : bits .and .i64 0 1 = 0 := by kernel_rfl
  go_enter Tryd.func13, Tryd.ntmps13
  go_wp2_with (first
    | (go_at_call 39; refine (cM _).mono ?_; rintro e' w' ⟨rfl, hw⟩; obtain rfl := hw.symm)
    | (go_at_call 32; refine (cA _).mono ?_; rintro e' w' ⟨rfl, hw⟩; obtain rfl := hw.symm))
  go_ret3
  exact ⟨by kernel_rfl, rfl⟩
set_option maxRecDepth 100000 in
theorem hMv_20_1 (w : World) : Calls Tryd.prog 13 #[.int .i64 20, .int .i64 1] w fun e w' => e = .returned (.tuple #[.int .i64 1, .int .i64 0, .bool true]) ∧ w' = w := by
  have cM := fun w => hMonomial 20 w
  have cA := fun w => hArity 20 w
  rw [show mnB (rw' 20) = true from by decide +kernel] at cM
  rw [show (rw' 20).q = 3 from by decide +kernel] at cA
  have b0 : bits .and .i64 0 1 = 0 := by kernel_rfl
  have b1 : bits .and .i64 1 1 = 1 := by kernel_rfl
  go_enter Tryd.func13, Tryd.ntmps13
  go_wp2_with (first
    | (go_at_call 39; refine (cM _).mono ?_; rintro e' w' ⟨rfl, hw⟩; obtain rfl := hw.symm)
    | (go_at_call 32; refine (cA _).mono ?_; rintro e' w' ⟨rfl, hw⟩; obtain rfl := hw.symm))
  go_ret3
  exact ⟨by kernel_rfl, rfl⟩
set_option maxRecDepth 100000 in
theorem hMv_20_2 (w : World) : Calls Tryd.prog 13 #[.int .i64 20, .int .i64 2] w fun e w' => e = .returned (.tuple #[.int .i64 2, .int .i64 0, .bool true]) ∧ w' = w := by
  have cM := fun w => hMonomial 20 w
  have cA := fun w => hArity 20 w
  rw [show mnB (rw' 20) = true from by decide +kernel] at cM
  rw [show (rw' 20).q = 3 from by decide +kernel] at cA
  have b0 : bits .and .i64 0 1 = 0 := by kernel_rfl
  have b1 : bits .and .i64 1 1 = 1 := by kernel_rfl
  have b2 : bits .and .i64 2 1 = 0 := by kernel_rfl
  go_enter Tryd.func13, Tryd.ntmps13
  go_wp2_with (first
    | (go_at_call 39; refine (cM _).mono ?_; rintro e' w' ⟨rfl, hw⟩; obtain rfl := hw.symm)
    | (go_at_call 32; refine (cA _).mono ?_; rintro e' w' ⟨rfl, hw⟩; obtain rfl := hw.symm))
  go_ret3
  exact ⟨by kernel_rfl, rfl⟩
set_option maxRecDepth 100000 in
theorem hMv_20_3 (w : World) : Calls Tryd.prog 13 #[.int .i64 20, .int .i64 3] w fun e w' => e = .returned (.tuple #[.int .i64 5, .int .i64 0, .bool true]) ∧ w' = w := by
  have cM := fun w => hMonomial 20 w
  have cA := fun w => hArity 20 w
  rw [show mnB (rw' 20) = true from by decide +kernel] at cM
  rw [show (rw' 20).q = 3 from by decide +kernel] at cA
  have b0 : bits .and .i64 0 1 = 0 := by kernel_rfl
  have b1 : bits .and .i64 1 1 = 1 := by kernel_rfl
  have b2 : bits .and .i64 3 1 = 1 := by kernel_rfl
  go_enter Tryd.func13, Tryd.ntmps13
  go_wp2_with (first
    | (go_at_call 39; refine (cM _).mono ?_; rintro e' w' ⟨rfl, hw⟩; obtain rfl := hw.symm)
    | (go_at_call 32; refine (cA _).mono ?_; rintro e' w' ⟨rfl, hw⟩; obtain rfl := hw.symm))
  go_ret3
  exact ⟨by kernel_rfl, rfl⟩
set_option maxRecDepth 100000 in
theorem hMv_20_4 (w : World) : Calls Tryd.prog 13 #[.int .i64 20, .int .i64 4] w fun e w' => e = .returned (.tuple #[.int .i64 4, .int .i64 0, .bool true]) ∧ w' = w := by
  have cM := fun w => hMonomial 20 w
  have cA := fun w => hArity 20 w
  rw [show mnB (rw' 20) = true from by decide +kernel] at cM
  rw [show (rw' 20).q = 3 from by decide +kernel] at cA
  have b0 : bits .and .i64 1 1 = 1 := by kernel_rfl
  have b1 : bits .and .i64 2 1 = 0 := by kernel_rfl
  have b2 : bits .and .i64 4 1 = 0 := by kernel_rfl
  go_enter Tryd.func13, Tryd.ntmps13
  go_wp2_with (first
    | (go_at_call 39; refine (cM _).mono ?_; rintro e' w' ⟨rfl, hw⟩; obtain rfl := hw.symm)
    | (go_at_call 32; refine (cA _).mono ?_; rintro e' w' ⟨rfl, hw⟩; obtain rfl := hw.symm))
  go_ret3
  exact ⟨by kernel_rfl, rfl⟩
set_option maxRecDepth 100000 in
theorem hMv_20_5 (w : World) : Calls Tryd.prog 13 #[.int .i64 20, .int .i64 5] w fun e w' => e = .returned (.tuple #[.int .i64 3, .int .i64 0, .bool true]) ∧ w' = w := by
  have cM := fun w => hMonomial 20 w
  have cA := fun w => hArity 20 w
  rw [show mnB (rw' 20) = true from by decide +kernel] at cM
  rw [show (rw' 20).q = 3 from by decide +kernel] at cA
  have b0 : bits .and .i64 1 1 = 1 := by kernel_rfl
  have b1 : bits .and .i64 2 1 = 0 := by kernel_rfl
  have b2 : bits .and .i64 5 1 = 1 := by kernel_rfl
  go_enter Tryd.func13, Tryd.ntmps13
  go_wp2_with (first
    | (go_at_call 39; refine (cM _).mono ?_; rintro e' w' ⟨rfl, hw⟩; obtain rfl := hw.symm)
    | (go_at_call 32; refine (cA _).mono ?_; rintro e' w' ⟨rfl, hw⟩; obtain rfl := hw.symm))
  go_ret3
  exact ⟨by kernel_rfl, rfl⟩
set_option maxRecDepth 100000 in
theorem hMv_20_6 (w : World) : Calls Tryd.prog 13 #[.int .i64 20, .int .i64 6] w fun e w' => e = .returned (.tuple #[.int .i64 6, .int .i64 0, .bool true]) ∧ w' = w := by
  have cM := fun w => hMonomial 20 w
  have cA := fun w => hArity 20 w
  rw [show mnB (rw' 20) = true from by decide +kernel] at cM
  rw [show (rw' 20).q = 3 from by decide +kernel] at cA
  have b0 : bits .and .i64 1 1 = 1 := by kernel_rfl
  have b1 : bits .and .i64 3 1 = 1 := by kernel_rfl
  have b2 : bits .and .i64 6 1 = 0 := by kernel_rfl
  go_enter Tryd.func13, Tryd.ntmps13
  go_wp2_with (first
    | (go_at_call 39; refine (cM _).mono ?_; rintro e' w' ⟨rfl, hw⟩; obtain rfl := hw.symm)
    | (go_at_call 32; refine (cA _).mono ?_; rintro e' w' ⟨rfl, hw⟩; obtain rfl := hw.symm))
  go_ret3
  exact ⟨by kernel_rfl, rfl⟩
set_option maxRecDepth 100000 in
theorem hMv_20_7 (w : World) : Calls Tryd.prog 13 #[.int .i64 20, .int .i64 7] w fun e w' => e = .returned (.tuple #[.int .i64 7, .int .i64 0, .bool true]) ∧ w' = w := by
  have cM := fun w => hMonomial 20 w
  have cA := fun w => hArity 20 w
  rw [show mnB (rw' 20) = true from by decide +kernel] at cM
  rw [show (rw' 20).q = 3 from by decide +kernel] at cA
  have b0 : bits .and .i64 1 1 = 1 := by kernel_rfl
  have b1 : bits .and .i64 3 1 = 1 := by kernel_rfl
  have b2 : bits .and .i64 7 1 = 1 := by kernel_rfl
  go_enter Tryd.func13, Tryd.ntmps13
  go_wp2_with (first
    | (go_at_call 39; refine (cM _).mono ?_; rintro e' w' ⟨rfl, hw⟩; obtain rfl := hw.symm)
    | (go_at_call 32; refine (cA _).mono ?_; rintro e' w' ⟨rfl, hw⟩; obtain rfl := hw.symm))
  go_ret3
  exact ⟨by kernel_rfl, rfl⟩
end Go.Proofs.YtnhdgellckcnbaaDoor.Gt
/- Moves of package gate and the document's answer the same, for every kind and every index. -/
namespace Go.Proofs.YtnhdgellckcnbaaDoor.Gt
open Go.RowKit Go.Proofs.YtnhdgellckcnbaaDoor.Oct

set_option maxRecDepth 100000 in
theorem hMoves_in (k x : Nat) (h : (k, x) ∈ mvCases) (w : World) : Calls Tryd.prog 13 #[.int .i64 (k : Int), .int .i64 (x : Int)] w fun e w' => e = .returned (.tuple #[.int .i64 ((mvT k x).1 : Int), .int .i64 ((mvT k x).2 : Int), .bool true]) ∧ w' = w := by
  simp only [mvCases, List.mem_cons, Prod.mk.injEq, List.not_mem_nil, or_false] at h
  rcases h with ⟨rfl, rfl⟩ | ⟨rfl, rfl⟩ | ⟨rfl, rfl⟩ | ⟨rfl, rfl⟩ | ⟨rfl, rfl⟩ | ⟨rfl, rfl⟩ | ⟨rfl, rfl⟩ | ⟨rfl, rfl⟩ | ⟨rfl, rfl⟩ | ⟨rfl, rfl⟩ | ⟨rfl, rfl⟩ | ⟨rfl, rfl⟩ | ⟨rfl, rfl⟩ | ⟨rfl, rfl⟩ | ⟨rfl, rfl⟩ | ⟨rfl, rfl⟩ | ⟨rfl, rfl⟩ | ⟨rfl, rfl⟩ | ⟨rfl, rfl⟩ | ⟨rfl, rfl⟩ | ⟨rfl, rfl⟩ | ⟨rfl, rfl⟩ | ⟨rfl, rfl⟩ | ⟨rfl, rfl⟩ | ⟨rfl, rfl⟩ | ⟨rfl, rfl⟩ | ⟨rfl, rfl⟩ | ⟨rfl, rfl⟩ | ⟨rfl, rfl⟩ | ⟨rfl, rfl⟩ | ⟨rfl, rfl⟩ | ⟨rfl, rfl⟩ | ⟨rfl, rfl⟩ | ⟨rfl, rfl⟩ | ⟨rfl, rfl⟩ | ⟨rfl, rfl⟩ | ⟨rfl, rfl⟩ | ⟨rfl, rfl⟩ | ⟨rfl, rfl⟩ | ⟨rfl, rfl⟩ | ⟨rfl, rfl⟩ | ⟨rfl, rfl⟩ | ⟨rfl, rfl⟩ | ⟨rfl, rfl⟩ | ⟨rfl, rfl⟩ | ⟨rfl, rfl⟩ | ⟨rfl, rfl⟩ | ⟨rfl, rfl⟩ | ⟨rfl, rfl⟩ | ⟨rfl, rfl⟩ | ⟨rfl, rfl⟩ | ⟨rfl, rfl⟩ | ⟨rfl, rfl⟩ | ⟨rfl, rfl⟩ | ⟨rfl, rfl⟩ | ⟨rfl, rfl⟩ | ⟨rfl, rfl⟩ | ⟨rfl, rfl⟩ | ⟨rfl, rfl⟩ | ⟨rfl, rfl⟩
  · exact hMv_1_0 w
  · exact hMv_1_1 w
  · exact hMv_2_0 w
  · exact hMv_2_1 w
  · exact hMv_3_0 w
  · exact hMv_3_1 w
  · exact hMv_4_0 w
  · exact hMv_4_1 w
  · exact hMv_5_0 w
  · exact hMv_5_1 w
  · exact hMv_6_0 w
  · exact hMv_6_1 w
  · exact hMv_11_0 w
  · exact hMv_11_1 w
  · exact hMv_11_2 w
  · exact hMv_11_3 w
  · exact hMv_12_0 w
  · exact hMv_12_1 w
  · exact hMv_12_2 w
  · exact hMv_12_3 w
  · exact hMv_13_0 w
  · exact hMv_13_1 w
  · exact hMv_13_2 w
  · exact hMv_13_3 w
  · exact hMv_14_0 w
  · exact hMv_14_1 w
  · exact hMv_14_2 w
  · exact hMv_14_3 w
  · exact hMv_15_0 w
  · exact hMv_15_1 w
  · exact hMv_15_2 w
  · exact hMv_15_3 w
  · exact hMv_16_0 w
  · exact hMv_16_1 w
  · exact hMv_16_2 w
  · exact hMv_16_3 w
  · exact hMv_18_0 w
  · exact hMv_18_1 w
  · exact hMv_18_2 w
  · exact hMv_18_3 w
  · exact hMv_18_4 w
  · exact hMv_18_5 w
  · exact hMv_18_6 w
  · exact hMv_18_7 w
  · exact hMv_19_0 w
  · exact hMv_19_1 w
  · exact hMv_19_2 w
  · exact hMv_19_3 w
  · exact hMv_19_4 w
  · exact hMv_19_5 w
  · exact hMv_19_6 w
  · exact hMv_19_7 w
  · exact hMv_20_0 w
  · exact hMv_20_1 w
  · exact hMv_20_2 w
  · exact hMv_20_3 w
  · exact hMv_20_4 w
  · exact hMv_20_5 w
  · exact hMv_20_6 w
  · exact hMv_20_7 w
set_option maxRecDepth 100000 in
theorem hMoves_hv (k : Int) (x : Int) (h : mnB (rw' k) = false) (w : World) : Calls Tryd.prog 13 #[.int .i64 k, .int .i64 x] w fun e w' => e = .returned (.tuple #[.int .i64 0, .int .i64 0, .bool false]) ∧ w' = w := by
  have cM := hMonomial k w
  rw [h] at cM
  clear h
  go_enter Tryd.func13, Tryd.ntmps13
  go_wp2_with fail
  refine cM.mono ?_
  rintro e w1 ⟨rfl, hw⟩
  obtain rfl := hw.symm
  go_wp2_with fail
  go_ret3
  exact ⟨rfl, rfl⟩
set_option maxRecDepth 100000 in
theorem hMoves_lo (k : Int) (x : Int) (h : mnB (rw' k) = true) (hx : x < 0) (w : World) : Calls Tryd.prog 13 #[.int .i64 k, .int .i64 x] w fun e w' => e = .returned (.tuple #[.int .i64 0, .int .i64 0, .bool false]) ∧ w' = w := by
  have cM := hMonomial k w
  rw [h] at cM
  have hd : decide (x < 0) = true := decide_eq_true hx
  clear h
  go_enter Tryd.func13, Tryd.ntmps13
  go_wp2_with fail
  refine cM.mono ?_
  rintro e w1 ⟨rfl, hw⟩
  obtain rfl := hw.symm
  go_wp2_with fail
  go_ret3
  exact ⟨rfl, rfl⟩
set_option maxRecDepth 100000 in
theorem gMoves_lo (k : Int) (x : Int) (h : mnB (rw' k) = true) (hx : x < 0) (w : World) (hT : Tb w) : Calls Tryd.prog 12 #[.int .i64 k, .int .i64 x] w fun e w' => e = .returned (.tuple #[.int .i64 0, .int .i64 0, .bool false]) ∧ Below w.heap.size w w' := by
  have cM := gMonomial k w hT
  rw [h] at cM
  have hd : decide (x < 0) = true := decide_eq_true hx
  clear h
  go_enter Tryd.func12, Tryd.ntmps12
  go_wp2_with fail
  refine cM.mono ?_
  rintro e w1 ⟨rfl, q1⟩
  go_wp2_with fail
  go_ret3
  exact ⟨rfl, q1⟩
set_option maxRecDepth 100000 in
theorem hMoves_hi1 (k : Int) (x : Int) (h : mnB (rw' k) = true) (hq : (rw' k).q = 1) (hx : 2 ≤ x) (w : World) : Calls Tryd.prog 13 #[.int .i64 k, .int .i64 x] w fun e w' => e = .returned (.tuple #[.int .i64 0, .int .i64 0, .bool false]) ∧ w' = w := by
  have cM := hMonomial k w
  have cA := hArity k w
  rw [h] at cM
  rw [hq] at cA
  have hd : decide (x < 0) = false := decide_eq_false (by omega)
  have hd2 : decide (2 ≤ x) = true := decide_eq_true hx
  clear h hq
  go_enter Tryd.func13, Tryd.ntmps13
  go_wp2_with fail
  refine cM.mono ?_
  rintro e w1 ⟨rfl, hw⟩
  obtain rfl := hw.symm
  go_wp2_with fail
  refine cA.mono ?_
  rintro e w1 ⟨rfl, hw⟩
  obtain rfl := hw.symm
  go_wp2_with fail
  go_ret3
  exact ⟨rfl, rfl⟩
set_option maxRecDepth 100000 in
theorem gMoves_hi1 (k : Int) (x : Int) (h : mnB (rw' k) = true) (hq : (rw' k).q = 1) (hx : 2 ≤ x) (w : World) (hT : Tb w) : Calls Tryd.prog 12 #[.int .i64 k, .int .i64 x] w fun e w' => e = .returned (.tuple #[.int .i64 0, .int .i64 0, .bool false]) ∧ Below w.heap.size w w' := by
  have cM := gMonomial k w hT
  have cA := fun w hT => gArity k w hT
  rw [h] at cM
  rw [hq] at cA
  have hd : decide (x < 0) = false := decide_eq_false (by omega)
  have hd2 : decide (2 ≤ x) = true := decide_eq_true hx
  clear h hq
  go_enter Tryd.func12, Tryd.ntmps12
  go_wp2_with fail
  refine cM.mono ?_
  rintro e w1 ⟨rfl, q1⟩
  go_wp2_with fail
  refine (cA _ (hT.below q1)).mono ?_
  rintro e w2 ⟨rfl, q2⟩
  have b2 := q1.trans (q2.mono q1.size)
  go_wp2_with fail
  go_ret3
  exact ⟨rfl, b2⟩
set_option maxRecDepth 100000 in
theorem hMoves_hi2 (k : Int) (x : Int) (h : mnB (rw' k) = true) (hq : (rw' k).q = 2) (hx : 4 ≤ x) (w : World) : Calls Tryd.prog 13 #[.int .i64 k, .int .i64 x] w fun e w' => e = .returned (.tuple #[.int .i64 0, .int .i64 0, .bool false]) ∧ w' = w := by
  have cM := hMonomial k w
  have cA := hArity k w
  rw [h] at cM
  rw [hq] at cA
  have hd : decide (x < 0) = false := decide_eq_false (by omega)
  have hd2 : decide (4 ≤ x) = true := decide_eq_true hx
  clear h hq
  go_enter Tryd.func13, Tryd.ntmps13
  go_wp2_with fail
  refine cM.mono ?_
  rintro e w1 ⟨rfl, hw⟩
  obtain rfl := hw.symm
  go_wp2_with fail
  refine cA.mono ?_
  rintro e w1 ⟨rfl, hw⟩
  obtain rfl := hw.symm
  go_wp2_with fail
  go_ret3
  exact ⟨rfl, rfl⟩
set_option maxRecDepth 100000 in
theorem gMoves_hi2 (k : Int) (x : Int) (h : mnB (rw' k) = true) (hq : (rw' k).q = 2) (hx : 4 ≤ x) (w : World) (hT : Tb w) : Calls Tryd.prog 12 #[.int .i64 k, .int .i64 x] w fun e w' => e = .returned (.tuple #[.int .i64 0, .int .i64 0, .bool false]) ∧ Below w.heap.size w w' := by
  have cM := gMonomial k w hT
  have cA := fun w hT => gArity k w hT
  rw [h] at cM
  rw [hq] at cA
  have hd : decide (x < 0) = false := decide_eq_false (by omega)
  have hd2 : decide (4 ≤ x) = true := decide_eq_true hx
  clear h hq
  go_enter Tryd.func12, Tryd.ntmps12
  go_wp2_with fail
  refine cM.mono ?_
  rintro e w1 ⟨rfl, q1⟩
  go_wp2_with fail
  refine (cA _ (hT.below q1)).mono ?_
  rintro e w2 ⟨rfl, q2⟩
  have b2 := q1.trans (q2.mono q1.size)
  go_wp2_with fail
  go_ret3
  exact ⟨rfl, b2⟩
set_option maxRecDepth 100000 in
theorem hMoves_hi3 (k : Int) (x : Int) (h : mnB (rw' k) = true) (hq : (rw' k).q = 3) (hx : 8 ≤ x) (w : World) : Calls Tryd.prog 13 #[.int .i64 k, .int .i64 x] w fun e w' => e = .returned (.tuple #[.int .i64 0, .int .i64 0, .bool false]) ∧ w' = w := by
  have cM := hMonomial k w
  have cA := hArity k w
  rw [h] at cM
  rw [hq] at cA
  have hd : decide (x < 0) = false := decide_eq_false (by omega)
  have hd2 : decide (8 ≤ x) = true := decide_eq_true hx
  clear h hq
  go_enter Tryd.func13, Tryd.ntmps13
  go_wp2_with fail
  refine cM.mono ?_
  rintro e w1 ⟨rfl, hw⟩
  obtain rfl := hw.symm
  go_wp2_with fail
  refine cA.mono ?_
  rintro e w1 ⟨rfl, hw⟩
  obtain rfl := hw.symm
  go_wp2_with fail
  go_ret3
  exact ⟨rfl, rfl⟩
set_option maxRecDepth 100000 in
theorem gMoves_hi3 (k : Int) (x : Int) (h : mnB (rw' k) = true) (hq : (rw' k).q = 3) (hx : 8 ≤ x) (w : World) (hT : Tb w) : Calls Tryd.prog 12 #[.int .i64 k, .int .i64 x] w fun e w' => e = .returned (.tuple #[.int .i64 0, .int .i64 0, .bool false]) ∧ Below w.heap.size w w' := by
  have cM := gMonomial k w hT
  have cA := fun w hT => gArity k w hT
  rw [h] at cM
  rw [hq] at cA
  have hd : decide (x < 0) = false := decide_eq_false (by omega)
  have hd2 : decide (8 ≤ x) = true := decide_eq_true hx
  clear h hq
  go_enter Tryd.func12, Tryd.ntmps12
  go_wp2_with fail
  refine cM.mono ?_
  rintro e w1 ⟨rfl, q1⟩
  go_wp2_with fail
  refine (cA _ (hT.below q1)).mono ?_
  rintro e w2 ⟨rfl, q2⟩
  have b2 := q1.trans (q2.mono q1.size)
  go_wp2_with fail
  go_ret3
  exact ⟨rfl, b2⟩
theorem q_is : ∀ k : Fin 21, 1 ≤ k.1 → ((rw' (k.1 : Int)).q = 1 ∨ (rw' (k.1 : Int)).q = 2 ∨ (rw' (k.1 : Int)).q = 3) := by decide +kernel
/-- The two answer the same. -/
theorem mv_same (k x : Int) : ∃ (y p : Int) (ok : Bool), (∀ w, Tb w → Td w → Calls Tryd.prog 12 #[.int .i64 k, .int .i64 x] w fun e w' => e = .returned (.tuple #[.int .i64 y, .int .i64 p, .bool ok]) ∧ Below w.heap.size w w') ∧
    ∀ w, Calls Tryd.prog 13 #[.int .i64 k, .int .i64 x] w fun e w' => e = .returned (.tuple #[.int .i64 y, .int .i64 p, .bool ok]) ∧ w' = w := by
  cases hm : mnB (rw' k)
  · exact ⟨0, 0, false, fun w hT _ => gMoves_hv k x hm w hT, fun w => hMoves_hv k x hm w⟩
  · rcases k_cases k with hk | ⟨hk, _⟩
    · obtain ⟨n, rfl⟩ : ∃ n : Nat, k = (n : Int) := ⟨k.toNat, by omega⟩
      by_cases hx : x < 0
      · exact ⟨0, 0, false, fun w hT _ => gMoves_lo _ x hm hx w hT, fun w => hMoves_lo _ x hm hx w⟩
      · obtain ⟨z, rfl⟩ : ∃ z : Nat, x = (z : Int) := ⟨x.toNat, by omega⟩
        have rq := rows_q ⟨n, by omega⟩
        have fin : z < rowsN n → ∃ (y p : Int) (ok : Bool), (∀ w, Tb w → Td w → Calls Tryd.prog 12 #[.int .i64 (n : Int), .int .i64 (z : Int)] w fun e w' => e = .returned (.tuple #[.int .i64 y, .int .i64 p, .bool ok]) ∧ Below w.heap.size w w') ∧
            ∀ w, Calls Tryd.prog 13 #[.int .i64 (n : Int), .int .i64 (z : Int)] w fun e w' => e = .returned (.tuple #[.int .i64 y, .int .i64 p, .bool ok]) ∧ w' = w := fun hz => by
          have hin := mv_in ⟨n, by omega⟩ ⟨z, by rcases rowsN_is n with e | e | e <;> omega⟩ (by show 1 ≤ n; omega) hz hm
          exact ⟨_, _, true, fun w hT hD => gMoves_in n z hin w hT hD, fun w => hMoves_in n z hin w⟩
        rcases q_is ⟨n, by omega⟩ (by show 1 ≤ n; omega) with hq | hq | hq
        · by_cases hz : 2 ≤ z
          · exact ⟨0, 0, false, fun w hT _ => gMoves_hi1 _ _ hm hq (by omega) w hT, fun w => hMoves_hi1 _ _ hm hq (by omega) w⟩
          · exact fin (by rw [rq.1 hq]; omega)
        · by_cases hz : 4 ≤ z
          · exact ⟨0, 0, false, fun w hT _ => gMoves_hi2 _ _ hm hq (by omega) w hT, fun w => hMoves_hi2 _ _ hm hq (by omega) w⟩
          · exact fin (by rw [rq.2.1 hq]; omega)
        · by_cases hz : 8 ≤ z
          · exact ⟨0, 0, false, fun w hT _ => gMoves_hi3 _ _ hm hq (by omega) w hT, fun w => hMoves_hi3 _ _ hm hq (by omega) w⟩
          · exact fin (by rw [rq.2.2 hq]; omega)
    · rw [hk] at hm
      exact absurd hm (by decide)
end Go.Proofs.YtnhdgellckcnbaaDoor.Gt
