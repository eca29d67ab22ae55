/- Moves, kind by kind and index by index (0). -/
import Derived.Test.YtnhdgellckcnbaaDoorAd
namespace Go.Proofs.YtnhdgellckcnbaaDoor.Gt
open Go.RowKit Go.Proofs.YtnhdgellckcnbaaDoor.Oct

set_option maxRecDepth 100000 in
theorem gMv_1_0 (w : World) (hT : Tb w) (hD : Td w) : Calls Tryd.prog 12 #[.int .i64 1, .int .i64 0] w fun e w' => e = .returned (.tuple #[.int .i64 0, .int .i64 0, .bool true]) ∧ Below w.heap.size w w' := by
  have cM := fun w hT => gMonomial 1 w hT
  have cA := fun w hT => gArity 1 w hT
  have cR := fun w hT => gRow 1 w hT
  have cO := fun w hT => gArity 1 w hT
  rw [show mnB (rw' 1) = true from by decide +kernel] at cM
  rw [show rw' 1 = ⟨[105, 100], 1, 0, 6, 1, 1⟩ from by decide +kernel] at cA cR
  rw [show rw' 1 = ⟨[105, 100], 1, 0, 6, 1, 1⟩ from by decide +kernel] at cO
  unfold rV at cR
  dsimp only at *
  have hf := fld5
  go_enter Tryd.func12, Tryd.ntmps12
  go_wp2_with fail
  refine (cM _ hT).mono ?_
  rintro e w1 ⟨rfl, b1⟩
  go_wp2_with fail
  refine (cA _ (hT.below b1)).mono ?_
  rintro e w2 ⟨rfl, q2⟩
  have b2 := b1.trans (q2.mono b1.size)
  clear q2 b1
  go_wp2_with fail
  refine (cR _ (hT.below b2)).mono ?_
  rintro e w3 ⟨rfl, q3⟩
  have b3 := b2.trans (q3.mono b2.size)
  clear q3 b2
  go_wp2_with fail
  refine (cA _ (hT.below b3)).mono ?_
  rintro e w4 ⟨rfl, q4⟩
  have b4 := b3.trans (q4.mono b3.size)
  clear q4 b3
  go_wp2_with fail
  refine (cO _ (hT.below b4)).mono ?_
  rintro e w5 ⟨rfl, q5⟩
  have b5 := b4.trans (q5.mono b4.size)
  clear q5 b4 cM cA cR cO
  have hd5 := hD.below b5
  clear hT hD
  go_wp2_with (refine wpList_load_at rfl _ _ rfl 0 8 rfl [.int .i64 0, .int .i64 1, .int .i64 0, .int .i64 0, .int .i64 0, .int .i64 0, .int .i64 0, .int .i64 0] _ (dd_at hd5 1 _ rfl) Tryd.underlying75 rfl (by exact infoDe) ?_)
  go_quiet (fail)
  go_wp2_with fail
  go_ret3
  exact ⟨rfl, below_drewN (b5.trans ((below_new _ _).mono b5.size)) _⟩
set_option maxRecDepth 100000 in
theorem gMv_1_1 (w : World) (hT : Tb w) (hD : Td w) : Calls Tryd.prog 12 #[.int .i64 1, .int .i64 1] w fun e w' => e = .returned (.tuple #[.int .i64 1, .int .i64 0, .bool true]) ∧ Below w.heap.size w w' := by
  have cM := fun w hT => gMonomial 1 w hT
  have cA := fun w hT => gArity 1 w hT
  have cR := fun w hT => gRow 1 w hT
  have cO := fun w hT => gArity 1 w hT
  rw [show mnB (rw' 1) = true from by decide +kernel] at cM
  rw [show rw' 1 = ⟨[105, 100], 1, 0, 6, 1, 1⟩ from by decide +kernel] at cA cR
  rw [show rw' 1 = ⟨[105, 100], 1, 0, 6, 1, 1⟩ from by decide +kernel] at cO
  unfold rV at cR
  dsimp only at *
  have hf := fld5
  go_enter Tryd.func12, Tryd.ntmps12
  go_wp2_with fail
  refine (cM _ hT).mono ?_
  rintro e w1 ⟨rfl, b1⟩
  go_wp2_with fail
  refine (cA _ (hT.below b1)).mono ?_
  rintro e w2 ⟨rfl, q2⟩
  have b2 := b1.trans (q2.mono b1.size)
  clear q2 b1
  go_wp2_with fail
  refine (cR _ (hT.below b2)).mono ?_
  rintro e w3 ⟨rfl, q3⟩
  have b3 := b2.trans (q3.mono b2.size)
  clear q3 b2
  go_wp2_with fail
  refine (cA _ (hT.below b3)).mono ?_
  rintro e w4 ⟨rfl, q4⟩
  have b4 := b3.trans (q4.mono b3.size)
  clear q4 b3
  go_wp2_with fail
  refine (cO _ (hT.below b4)).mono ?_
  rintro e w5 ⟨rfl, q5⟩
  have b5 := b4.trans (q5.mono b4.size)
  clear q5 b4 cM cA cR cO
  have hd5 := hD.below b5
  clear hT hD
  go_wp2_with (refine wpList_load_at rfl _ _ rfl 0 8 rfl [.int .i64 0, .int .i64 1, .int .i64 0, .int .i64 0, .int .i64 0, .int .i64 0, .int .i64 0, .int .i64 0] _ (dd_at hd5 1 _ rfl) Tryd.underlying75 rfl (by exact infoDe) ?_)
  go_quiet (fail)
  go_wp2_with fail
  go_ret3
  exact ⟨rfl, below_drewN (b5.trans ((below_new _ _).mono b5.size)) _⟩
set_option maxRecDepth 100000 in
theorem gMv_2_0 (w : World) (hT : Tb w) (hD : Td w) : Calls Tryd.prog 12 #[.int .i64 2, .int .i64 0] w fun e w' => e = .returned (.tuple #[.int .i64 1, .int .i64 0, .bool true]) ∧ Below w.heap.size w w' := by
  have cM := fun w hT => gMonomial 2 w hT
  have cA := fun w hT => gArity 2 w hT
  have cR := fun w hT => gRow 2 w hT
  have cO := fun w hT => gArity 2 w hT
  rw [show mnB (rw' 2) = true from by decide +kernel] at cM
  rw [show rw' 2 = ⟨[120], 1, 0, 2, 2, 2⟩ from by decide +kernel] at cA cR
  rw [show rw' 2 = ⟨[120], 1, 0, 2, 2, 2⟩ from by decide +kernel] at cO
  unfold rV at cR
  dsimp only at *
  have hf := fld5
  go_enter Tryd.func12, Tryd.ntmps12
  go_wp2_with fail
  refine (cM _ hT).mono ?_
  rintro e w1 ⟨rfl, b1⟩
  go_wp2_with fail
  refine (cA _ (hT.below b1)).mono ?_
  rintro e w2 ⟨rfl, q2⟩
  have b2 := b1.trans (q2.mono b1.size)
  clear q2 b1
  go_wp2_with fail
  refine (cR _ (hT.below b2)).mono ?_
  rintro e w3 ⟨rfl, q3⟩
  have b3 := b2.trans (q3.mono b2.size)
  clear q3 b2
  go_wp2_with fail
  refine (cA _ (hT.below b3)).mono ?_
  rintro e w4 ⟨rfl, q4⟩
  have b4 := b3.trans (q4.mono b3.size)
  clear q4 b3
  go_wp2_with fail
  refine (cO _ (hT.below b4)).mono ?_
  rintro e w5 ⟨rfl, q5⟩
  have b5 := b4.trans (q5.mono b4.size)
  clear q5 b4 cM cA cR cO
  have hd5 := hD.below b5
  clear hT hD
  go_wp2_with (refine wpList_load_at rfl _ _ rfl 0 16 rfl [.int .i64 1, .int .i64 0, .int .i64 0, .int .i64 0, .int .i64 0, .int .i64 0, .int .i64 0, .int .i64 0] _ (dd_at hd5 2 _ rfl) Tryd.underlying75 rfl (by exact infoDe) ?_)
  go_quiet (fail)
  go_wp2_with fail
  go_ret3
  exact ⟨rfl, below_drewN (b5.trans ((below_new _ _).mono b5.size)) _⟩
set_option maxRecDepth 100000 in
theorem gMv_2_1 (w : World) (hT : Tb w) (hD : Td w) : Calls Tryd.prog 12 #[.int .i64 2, .int .i64 1] w fun e w' => e = .returned (.tuple #[.int .i64 0, .int .i64 0, .bool true]) ∧ Below w.heap.size w w' := by
  have cM := fun w hT => gMonomial 2 w hT
  have cA := fun w hT => gArity 2 w hT
  have cR := fun w hT => gRow 2 w hT
  have cO := fun w hT => gArity 2 w hT
  rw [show mnB (rw' 2) = true from by decide +kernel] at cM
  rw [show rw' 2 = ⟨[120], 1, 0, 2, 2, 2⟩ from by decide +kernel] at cA cR
  rw [show rw' 2 = ⟨[120], 1, 0, 2, 2, 2⟩ from by decide +kernel] at cO
  unfold rV at cR
  dsimp only at *
  have hf := fld5
  go_enter Tryd.func12, Tryd.ntmps12
  go_wp2_with fail
  refine (cM _ hT).mono ?_
  rintro e w1 ⟨rfl, b1⟩
  go_wp2_with fail
  refine (cA _ (hT.below b1)).mono ?_
  rintro e w2 ⟨rfl, q2⟩
  have b2 := b1.trans (q2.mono b1.size)
  clear q2 b1
  go_wp2_with fail
  refine (cR _ (hT.below b2)).mono ?_
  rintro e w3 ⟨rfl, q3⟩
  have b3 := b2.trans (q3.mono b2.size)
  clear q3 b2
  go_wp2_with fail
  refine (cA _ (hT.below b3)).mono ?_
  rintro e w4 ⟨rfl, q4⟩
  have b4 := b3.trans (q4.mono b3.size)
  clear q4 b3
  go_wp2_with fail
  refine (cO _ (hT.below b4)).mono ?_
  rintro e w5 ⟨rfl, q5⟩
  have b5 := b4.trans (q5.mono b4.size)
  clear q5 b4 cM cA cR cO
  have hd5 := hD.below b5
  clear hT hD
  go_wp2_with (refine wpList_load_at rfl _ _ rfl 0 16 rfl [.int .i64 1, .int .i64 0, .int .i64 0, .int .i64 0, .int .i64 0, .int .i64 0, .int .i64 0, .int .i64 0] _ (dd_at hd5 2 _ rfl) Tryd.underlying75 rfl (by exact infoDe) ?_)
  go_quiet (fail)
  go_wp2_with fail
  go_ret3
  exact ⟨rfl, below_drewN (b5.trans ((below_new _ _).mono b5.size)) _⟩
set_option maxRecDepth 100000 in
theorem gMv_3_0 (w : World) (hT : Tb w) (hD : Td w) : Calls Tryd.prog 12 #[.int .i64 3, .int .i64 0] w fun e w' => e = .returned (.tuple #[.int .i64 1, .int .i64 1, .bool true]) ∧ Below w.heap.size w w' := by
  have cM := fun w hT => gMonomial 3 w hT
  have cA := fun w hT => gArity 3 w hT
  have cR := fun w hT => gRow 3 w hT
  have cO := fun w hT => gArity 3 w hT
  rw [show mnB (rw' 3) = true from by decide +kernel] at cM
  rw [show rw' 3 = ⟨[121], 1, 0, 2, 3, 3⟩ from by decide +kernel] at cA cR
  rw [show rw' 3 = ⟨[121], 1, 0, 2, 3, 3⟩ from by decide +kernel] at cO
  unfold rV at cR
  dsimp only at *
  have hf := fld5
  go_enter Tryd.func12, Tryd.ntmps12
  go_wp2_with fail
  refine (cM _ hT).mono ?_
  rintro e w1 ⟨rfl, b1⟩
  go_wp2_with fail
  refine (cA _ (hT.below b1)).mono ?_
  rintro e w2 ⟨rfl, q2⟩
  have b2 := b1.trans (q2.mono b1.size)
  clear q2 b1
  go_wp2_with fail
  refine (cR _ (hT.below b2)).mono ?_
  rintro e w3 ⟨rfl, q3⟩
  have b3 := b2.trans (q3.mono b2.size)
  clear q3 b2
  go_wp2_with fail
  refine (cA _ (hT.below b3)).mono ?_
  rintro e w4 ⟨rfl, q4⟩
  have b4 := b3.trans (q4.mono b3.size)
  clear q4 b3
  go_wp2_with fail
  refine (cO _ (hT.below b4)).mono ?_
  rintro e w5 ⟨rfl, q5⟩
  have b5 := b4.trans (q5.mono b4.size)
  clear q5 b4 cM cA cR cO
  have hd5 := hD.below b5
  clear hT hD
  go_wp2_with (refine wpList_load_at rfl _ _ rfl 0 24 rfl [.int .i64 1, .int .i64 0, .int .i64 0, .int .i64 0, .int .i64 1, .int .i64 3, .int .i64 0, .int .i64 0] _ (dd_at hd5 3 _ rfl) Tryd.underlying75 rfl (by exact infoDe) ?_)
  go_quiet (fail)
  go_wp2_with fail
  go_ret3
  exact ⟨rfl, below_drewN (b5.trans ((below_new _ _).mono b5.size)) _⟩
set_option maxRecDepth 100000 in
theorem gMv_3_1 (w : World) (hT : Tb w) (hD : Td w) : Calls Tryd.prog 12 #[.int .i64 3, .int .i64 1] w fun e w' => e = .returned (.tuple #[.int .i64 0, .int .i64 3, .bool true]) ∧ Below w.heap.size w w' := by
  have cM := fun w hT => gMonomial 3 w hT
  have cA := fun w hT => gArity 3 w hT
  have cR := fun w hT => gRow 3 w hT
  have cO := fun w hT => gArity 3 w hT
  rw [show mnB (rw' 3) = true from by decide +kernel] at cM
  rw [show rw' 3 = ⟨[121], 1, 0, 2, 3, 3⟩ from by decide +kernel] at cA cR
  rw [show rw' 3 = ⟨[121], 1, 0, 2, 3, 3⟩ from by decide +kernel] at cO
  unfold rV at cR
  dsimp only at *
  have hf := fld5
  go_enter Tryd.func12, Tryd.ntmps12
  go_wp2_with fail
  refine (cM _ hT).mono ?_
  rintro e w1 ⟨rfl, b1⟩
  go_wp2_with fail
  refine (cA _ (hT.below b1)).mono ?_
  rintro e w2 ⟨rfl, q2⟩
  have b2 := b1.trans (q2.mono b1.size)
  clear q2 b1
  go_wp2_with fail
  refine (cR _ (hT.below b2)).mono ?_
  rintro e w3 ⟨rfl, q3⟩
  have b3 := b2.trans (q3.mono b2.size)
  clear q3 b2
  go_wp2_with fail
  refine (cA _ (hT.below b3)).mono ?_
  rintro e w4 ⟨rfl, q4⟩
  have b4 := b3.trans (q4.mono b3.size)
  clear q4 b3
  go_wp2_with fail
  refine (cO _ (hT.below b4)).mono ?_
  rintro e w5 ⟨rfl, q5⟩
  have b5 := b4.trans (q5.mono b4.size)
  clear q5 b4 cM cA cR cO
  have hd5 := hD.below b5
  clear hT hD
  go_wp2_with (refine wpList_load_at rfl _ _ rfl 0 24 rfl [.int .i64 1, .int .i64 0, .int .i64 0, .int .i64 0, .int .i64 1, .int .i64 3, .int .i64 0, .int .i64 0] _ (dd_at hd5 3 _ rfl) Tryd.underlying75 rfl (by exact infoDe) ?_)
  go_quiet (fail)
  go_wp2_with fail
  go_ret3
  exact ⟨rfl, below_drewN (b5.trans ((below_new _ _).mono b5.size)) _⟩
set_option maxRecDepth 100000 in
theorem gMv_4_0 (w : World) (hT : Tb w) (hD : Td w) : Calls Tryd.prog 12 #[.int .i64 4, .int .i64 0] w fun e w' => e = .returned (.tuple #[.int .i64 0, .int .i64 0, .bool true]) ∧ Below w.heap.size w w' := by
  have cM := fun w hT => gMonomial 4 w hT
  have cA := fun w hT => gArity 4 w hT
  have cR := fun w hT => gRow 4 w hT
  have cO := fun w hT => gArity 4 w hT
  rw [show mnB (rw' 4) = true from by decide +kernel] at cM
  rw [show rw' 4 = ⟨[122], 1, 0, 6, 4, 4⟩ from by decide +kernel] at cA cR
  rw [show rw' 4 = ⟨[122], 1, 0, 6, 4, 4⟩ from by decide +kernel] at cO
  unfold rV at cR
  dsimp only at *
  have hf := fld5
  go_enter Tryd.func12, Tryd.ntmps12
  go_wp2_with fail
  refine (cM _ hT).mono ?_
  rintro e w1 ⟨rfl, b1⟩
  go_wp2_with fail
  refine (cA _ (hT.below b1)).mono ?_
  rintro e w2 ⟨rfl, q2⟩
  have b2 := b1.trans (q2.mono b1.size)
  clear q2 b1
  go_wp2_with fail
  refine (cR _ (hT.below b2)).mono ?_
  rintro e w3 ⟨rfl, q3⟩
  have b3 := b2.trans (q3.mono b2.size)
  clear q3 b2
  go_wp2_with fail
  refine (cA _ (hT.below b3)).mono ?_
  rintro e w4 ⟨rfl, q4⟩
  have b4 := b3.trans (q4.mono b3.size)
  clear q4 b3
  go_wp2_with fail
  refine (cO _ (hT.below b4)).mono ?_
  rintro e w5 ⟨rfl, q5⟩
  have b5 := b4.trans (q5.mono b4.size)
  clear q5 b4 cM cA cR cO
  have hd5 := hD.below b5
  clear hT hD
  go_wp2_with (refine wpList_load_at rfl _ _ rfl 0 32 rfl [.int .i64 0, .int .i64 1, .int .i64 0, .int .i64 0, .int .i64 0, .int .i64 2, .int .i64 0, .int .i64 0] _ (dd_at hd5 4 _ rfl) Tryd.underlying75 rfl (by exact infoDe) ?_)
  go_quiet (fail)
  go_wp2_with fail
  go_ret3
  exact ⟨rfl, below_drewN (b5.trans ((below_new _ _).mono b5.size)) _⟩
set_option maxRecDepth 100000 in
theorem gMv_4_1 (w : World) (hT : Tb w) (hD : Td w) : Calls Tryd.prog 12 #[.int .i64 4, .int .i64 1] w fun e w' => e = .returned (.tuple #[.int .i64 1, .int .i64 2, .bool true]) ∧ Below w.heap.size w w' := by
  have cM := fun w hT => gMonomial 4 w hT
  have cA := fun w hT => gArity 4 w hT
  have cR := fun w hT => gRow 4 w hT
  have cO := fun w hT => gArity 4 w hT
  rw [show mnB (rw' 4) = true from by decide +kernel] at cM
  rw [show rw' 4 = ⟨[122], 1, 0, 6, 4, 4⟩ from by decide +kernel] at cA cR
  rw [show rw' 4 = ⟨[122], 1, 0, 6, 4, 4⟩ from by decide +kernel] at cO
  unfold rV at cR
  dsimp only at *
  have hf := fld5
  go_enter Tryd.func12, Tryd.ntmps12
  go_wp2_with fail
  refine (cM _ hT).mono ?_
  rintro e w1 ⟨rfl, b1⟩
  go_wp2_with fail
  refine (cA _ (hT.below b1)).mono ?_
  rintro e w2 ⟨rfl, q2⟩
  have b2 := b1.trans (q2.mono b1.size)
  clear q2 b1
  go_wp2_with fail
  refine (cR _ (hT.below b2)).mono ?_
  rintro e w3 ⟨rfl, q3⟩
  have b3 := b2.trans (q3.mono b2.size)
  clear q3 b2
  go_wp2_with fail
  refine (cA _ (hT.below b3)).mono ?_
  rintro e w4 ⟨rfl, q4⟩
  have b4 := b3.trans (q4.mono b3.size)
  clear q4 b3
  go_wp2_with fail
  refine (cO _ (hT.below b4)).mono ?_
  rintro e w5 ⟨rfl, q5⟩
  have b5 := b4.trans (q5.mono b4.size)
  clear q5 b4 cM cA cR cO
  have hd5 := hD.below b5
  clear hT hD
  go_wp2_with (refine wpList_load_at rfl _ _ rfl 0 32 rfl [.int .i64 0, .int .i64 1, .int .i64 0, .int .i64 0, .int .i64 0, .int .i64 2, .int .i64 0, .int .i64 0] _ (dd_at hd5 4 _ rfl) Tryd.underlying75 rfl (by exact infoDe) ?_)
  go_quiet (fail)
  go_wp2_with fail
  go_ret3
  exact ⟨rfl, below_drewN (b5.trans ((below_new _ _).mono b5.size)) _⟩
set_option maxRecDepth 100000 in
theorem gMv_5_0 (w : World) (hT : Tb w) (hD : Td w) : Calls Tryd.prog 12 #[.int .i64 5, .int .i64 0] w fun e w' => e = .returned (.tuple #[.int .i64 0, .int .i64 0, .bool true]) ∧ Below w.heap.size w w' := by
  have cM := fun w hT => gMonomial 5 w hT
  have cA := fun w hT => gArity 5 w hT
  have cR := fun w hT => gRow 5 w hT
  have cO := fun w hT => gArity 5 w hT
  rw [show mnB (rw' 5) = true from by decide +kernel] at cM
  rw [show rw' 5 = ⟨[115], 1, 0, 6, 6, 5⟩ from by decide +kernel] at cA cR
  rw [show rw' 5 = ⟨[115], 1, 0, 6, 6, 5⟩ from by decide +kernel] at cO
  unfold rV at cR
  dsimp only at *
  have hf := fld5
  go_enter Tryd.func12, Tryd.ntmps12
  go_wp2_with fail
  refine (cM _ hT).mono ?_
  rintro e w1 ⟨rfl, b1⟩
  go_wp2_with fail
  refine (cA _ (hT.below b1)).mono ?_
  rintro e w2 ⟨rfl, q2⟩
  have b2 := b1.trans (q2.mono b1.size)
  clear q2 b1
  go_wp2_with fail
  refine (cR _ (hT.below b2)).mono ?_
  rintro e w3 ⟨rfl, q3⟩
  have b3 := b2.trans (q3.mono b2.size)
  clear q3 b2
  go_wp2_with fail
  refine (cA _ (hT.below b3)).mono ?_
  rintro e w4 ⟨rfl, q4⟩
  have b4 := b3.trans (q4.mono b3.size)
  clear q4 b3
  go_wp2_with fail
  refine (cO _ (hT.below b4)).mono ?_
  rintro e w5 ⟨rfl, q5⟩
  have b5 := b4.trans (q5.mono b4.size)
  clear q5 b4 cM cA cR cO
  have hd5 := hD.below b5
  clear hT hD
  go_wp2_with (refine wpList_load_at rfl _ _ rfl 0 40 rfl [.int .i64 0, .int .i64 1, .int .i64 0, .int .i64 0, .int .i64 0, .int .i64 1, .int .i64 0, .int .i64 0] _ (dd_at hd5 5 _ rfl) Tryd.underlying75 rfl (by exact infoDe) ?_)
  go_quiet (fail)
  go_wp2_with fail
  go_ret3
  exact ⟨rfl, below_drewN (b5.trans ((below_new _ _).mono b5.size)) _⟩
set_option maxRecDepth 100000 in
theorem gMv_5_1 (w : World) (hT : Tb w) (hD : Td w) : Calls Tryd.prog 12 #[.int .i64 5, .int .i64 1] w fun e w' => e = .returned (.tuple #[.int .i64 1, .int .i64 1, .bool true]) ∧ Below w.heap.size w w' := by
  have cM := fun w hT => gMonomial 5 w hT
  have cA := fun w hT => gArity 5 w hT
  have cR := fun w hT => gRow 5 w hT
  have cO := fun w hT => gArity 5 w hT
  rw [show mnB (rw' 5) = true from by decide +kernel] at cM
  rw [show rw' 5 = ⟨[115], 1, 0, 6, 6, 5⟩ from by decide +kernel] at cA cR
  rw [show rw' 5 = ⟨[115], 1, 0, 6, 6, 5⟩ from by decide +kernel] at cO
  unfold rV at cR
  dsimp only at *
  have hf := fld5
  go_enter Tryd.func12, Tryd.ntmps12
  go_wp2_with fail
  refine (cM _ hT).mono ?_
  rintro e w1 ⟨rfl, b1⟩
  go_wp2_with fail
  refine (cA _ (hT.below b1)).mono ?_
  rintro e w2 ⟨rfl, q2⟩
  have b2 := b1.trans (q2.mono b1.size)
  clear q2 b1
  go_wp2_with fail
  refine (cR _ (hT.below b2)).mono ?_
  rintro e w3 ⟨rfl, q3⟩
  have b3 := b2.trans (q3.mono b2.size)
  clear q3 b2
  go_wp2_with fail
  refine (cA _ (hT.below b3)).mono ?_
  rintro e w4 ⟨rfl, q4⟩
  have b4 := b3.trans (q4.mono b3.size)
  clear q4 b3
  go_wp2_with fail
  refine (cO _ (hT.below b4)).mono ?_
  rintro e w5 ⟨rfl, q5⟩
  have b5 := b4.trans (q5.mono b4.size)
  clear q5 b4 cM cA cR cO
  have hd5 := hD.below b5
  clear hT hD
  go_wp2_with (refine wpList_load_at rfl _ _ rfl 0 40 rfl [.int .i64 0, .int .i64 1, .int .i64 0, .int .i64 0, .int .i64 0, .int .i64 1, .int .i64 0, .int .i64 0] _ (dd_at hd5 5 _ rfl) Tryd.underlying75 rfl (by exact infoDe) ?_)
  go_quiet (fail)
  go_wp2_with fail
  go_ret3
  exact ⟨rfl, below_drewN (b5.trans ((below_new _ _).mono b5.size)) _⟩
end Go.Proofs.YtnhdgellckcnbaaDoor.Gt
