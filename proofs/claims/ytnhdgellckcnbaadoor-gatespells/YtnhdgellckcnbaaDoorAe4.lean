/- Moves, kind by kind and index by index (4). -/
import Derived.Test.YtnhdgellckcnbaaDoorAd
namespace Go.Proofs.YtnhdgellckcnbaaDoor.Gt
open Go.RowKit Go.Proofs.YtnhdgellckcnbaaDoor.Oct

set_option maxRecDepth 100000 in
theorem gMv_18_4 (w : World) (hT : Tb w) (_hD : Td w) : Calls Tryd.prog 12 #[.int .i64 18, .int .i64 4] w fun e w' => e = .returned (.tuple #[.int .i64 4, .int .i64 0, .bool true]) ∧ Below w.heap.size w w' := by
  have cM := fun w hT => gMonomial 18 w hT
  have cA := fun w hT => gArity 18 w hT
  have cR := fun w hT => gRow 18 w hT
  have cO := fun w hT => gArity 2 w hT
  rw [show mnB (rw' 18) = true from by decide +kernel] at cM
  rw [show rw' 18 = ⟨[99, 99, 120], 3, 2, 0, 18, 2⟩ from by decide +kernel] at cA cR
  rw [show rw' 2 = ⟨[120], 1, 0, 2, 2, 2⟩ from by decide +kernel] at cO
  unfold rV at cR
  dsimp only at *
  have hf := fld5
  go_enter Tryd.func12, Tryd.ntmps12
  go_wp2_with fail
  refine (cM _ hT).mono ?_
  rintro e w1 ⟨rfl, b1⟩
  go_wp2_with fail
  refine (cA _ (hT.below b1)).mono ?_
  rintro e w2 ⟨rfl, q2⟩
  have b2 := b1.trans (q2.mono b1.size)
  clear q2 b1
  go_wp2_with fail
  refine (cR _ (hT.below b2)).mono ?_
  rintro e w3 ⟨rfl, q3⟩
  have b3 := b2.trans (q3.mono b2.size)
  clear q3 b2
  go_wp2_with fail
  refine (cA _ (hT.below b3)).mono ?_
  rintro e w4 ⟨rfl, q4⟩
  have b4 := b3.trans (q4.mono b3.size)
  clear q4 b3
  go_wp2_with fail
  refine (cO _ (hT.below b4)).mono ?_
  rintro e w5 ⟨rfl, q5⟩
  have b5 := b4.trans (q5.mono b4.size)
  clear q5 b4 cM cA cR cO
  go_wp2_with fail
  go_ret3
  exact ⟨rfl, b5⟩
set_option maxRecDepth 100000 in
theorem gMv_18_5 (w : World) (hT : Tb w) (_hD : Td w) : Calls Tryd.prog 12 #[.int .i64 18, .int .i64 5] w fun e w' => e = .returned (.tuple #[.int .i64 5, .int .i64 0, .bool true]) ∧ Below w.heap.size w w' := by
  have cM := fun w hT => gMonomial 18 w hT
  have cA := fun w hT => gArity 18 w hT
  have cR := fun w hT => gRow 18 w hT
  have cO := fun w hT => gArity 2 w hT
  rw [show mnB (rw' 18) = true from by decide +kernel] at cM
  rw [show rw' 18 = ⟨[99, 99, 120], 3, 2, 0, 18, 2⟩ from by decide +kernel] at cA cR
  rw [show rw' 2 = ⟨[120], 1, 0, 2, 2, 2⟩ from by decide +kernel] at cO
  unfold rV at cR
  dsimp only at *
  have hf := fld5
  go_enter Tryd.func12, Tryd.ntmps12
  go_wp2_with fail
  refine (cM _ hT).mono ?_
  rintro e w1 ⟨rfl, b1⟩
  go_wp2_with fail
  refine (cA _ (hT.below b1)).mono ?_
  rintro e w2 ⟨rfl, q2⟩
  have b2 := b1.trans (q2.mono b1.size)
  clear q2 b1
  go_wp2_with fail
  refine (cR _ (hT.below b2)).mono ?_
  rintro e w3 ⟨rfl, q3⟩
  have b3 := b2.trans (q3.mono b2.size)
  clear q3 b2
  go_wp2_with fail
  refine (cA _ (hT.below b3)).mono ?_
  rintro e w4 ⟨rfl, q4⟩
  have b4 := b3.trans (q4.mono b3.size)
  clear q4 b3
  go_wp2_with fail
  refine (cO _ (hT.below b4)).mono ?_
  rintro e w5 ⟨rfl, q5⟩
  have b5 := b4.trans (q5.mono b4.size)
  clear q5 b4 cM cA cR cO
  go_wp2_with fail
  go_ret3
  exact ⟨rfl, b5⟩
set_option maxRecDepth 100000 in
theorem gMv_18_6 (w : World) (hT : Tb w) (_hD : Td w) : Calls Tryd.prog 12 #[.int .i64 18, .int .i64 6] w fun e w' => e = .returned (.tuple #[.int .i64 6, .int .i64 0, .bool true]) ∧ Below w.heap.size w w' := by
  have cM := fun w hT => gMonomial 18 w hT
  have cA := fun w hT => gArity 18 w hT
  have cR := fun w hT => gRow 18 w hT
  have cO := fun w hT => gArity 2 w hT
  rw [show mnB (rw' 18) = true from by decide +kernel] at cM
  rw [show rw' 18 = ⟨[99, 99, 120], 3, 2, 0, 18, 2⟩ from by decide +kernel] at cA cR
  rw [show rw' 2 = ⟨[120], 1, 0, 2, 2, 2⟩ from by decide +kernel] at cO
  unfold rV at cR
  dsimp only at *
  have hf := fld5
  go_enter Tryd.func12, Tryd.ntmps12
  go_wp2_with fail
  refine (cM _ hT).mono ?_
  rintro e w1 ⟨rfl, b1⟩
  go_wp2_with fail
  refine (cA _ (hT.below b1)).mono ?_
  rintro e w2 ⟨rfl, q2⟩
  have b2 := b1.trans (q2.mono b1.size)
  clear q2 b1
  go_wp2_with fail
  refine (cR _ (hT.below b2)).mono ?_
  rintro e w3 ⟨rfl, q3⟩
  have b3 := b2.trans (q3.mono b2.size)
  clear q3 b2
  go_wp2_with fail
  refine (cA _ (hT.below b3)).mono ?_
  rintro e w4 ⟨rfl, q4⟩
  have b4 := b3.trans (q4.mono b3.size)
  clear q4 b3
  go_wp2_with fail
  refine (cO _ (hT.below b4)).mono ?_
  rintro e w5 ⟨rfl, q5⟩
  have b5 := b4.trans (q5.mono b4.size)
  clear q5 b4 cM cA cR cO
  go_wp2_with fail
  go_ret3
  exact ⟨rfl, b5⟩
set_option maxRecDepth 100000 in
theorem gMv_18_7 (w : World) (hT : Tb w) (hD : Td w) : Calls Tryd.prog 12 #[.int .i64 18, .int .i64 7] w fun e w' => e = .returned (.tuple #[.int .i64 3, .int .i64 0, .bool true]) ∧ Below w.heap.size w w' := by
  have cM := fun w hT => gMonomial 18 w hT
  have cA := fun w hT => gArity 18 w hT
  have cR := fun w hT => gRow 18 w hT
  have cO := fun w hT => gArity 2 w hT
  rw [show mnB (rw' 18) = true from by decide +kernel] at cM
  rw [show rw' 18 = ⟨[99, 99, 120], 3, 2, 0, 18, 2⟩ from by decide +kernel] at cA cR
  rw [show rw' 2 = ⟨[120], 1, 0, 2, 2, 2⟩ from by decide +kernel] at cO
  unfold rV at cR
  dsimp only at *
  have hf := fld5
  go_enter Tryd.func12, Tryd.ntmps12
  go_wp2_with fail
  refine (cM _ hT).mono ?_
  rintro e w1 ⟨rfl, b1⟩
  go_wp2_with fail
  refine (cA _ (hT.below b1)).mono ?_
  rintro e w2 ⟨rfl, q2⟩
  have b2 := b1.trans (q2.mono b1.size)
  clear q2 b1
  go_wp2_with fail
  refine (cR _ (hT.below b2)).mono ?_
  rintro e w3 ⟨rfl, q3⟩
  have b3 := b2.trans (q3.mono b2.size)
  clear q3 b2
  go_wp2_with fail
  refine (cA _ (hT.below b3)).mono ?_
  rintro e w4 ⟨rfl, q4⟩
  have b4 := b3.trans (q4.mono b3.size)
  clear q4 b3
  go_wp2_with fail
  refine (cO _ (hT.below b4)).mono ?_
  rintro e w5 ⟨rfl, q5⟩
  have b5 := b4.trans (q5.mono b4.size)
  clear q5 b4 cM cA cR cO
  have hd5 := hD.below b5
  clear hT hD
  go_wp2_with (refine wpList_load_at rfl _ _ rfl 0 16 rfl [.int .i64 1, .int .i64 0, .int .i64 0, .int .i64 0, .int .i64 0, .int .i64 0, .int .i64 0, .int .i64 0] _ (dd_at hd5 2 _ rfl) Tryd.underlying75 rfl (by exact infoDe) ?_)
  go_quiet (fail)
  go_wp2_with fail
  go_ret3
  exact ⟨rfl, below_drewN (b5.trans ((below_new _ _).mono b5.size)) _⟩
set_option maxRecDepth 100000 in
theorem gMv_19_0 (w : World) (hT : Tb w) (_hD : Td w) : Calls Tryd.prog 12 #[.int .i64 19, .int .i64 0] w fun e w' => e = .returned (.tuple #[.int .i64 0, .int .i64 0, .bool true]) ∧ Below w.heap.size w w' := by
  have cM := fun w hT => gMonomial 19 w hT
  have cA := fun w hT => gArity 19 w hT
  have cR := fun w hT => gRow 19 w hT
  have cO := fun w hT => gArity 4 w hT
  rw [show mnB (rw' 19) = true from by decide +kernel] at cM
  rw [show rw' 19 = ⟨[99, 99, 122], 3, 0, 4, 19, 4⟩ from by decide +kernel] at cA cR
  rw [show rw' 4 = ⟨[122], 1, 0, 6, 4, 4⟩ from by decide +kernel] at cO
  unfold rV at cR
  dsimp only at *
  have hf := fld5
  go_enter Tryd.func12, Tryd.ntmps12
  go_wp2_with fail
  refine (cM _ hT).mono ?_
  rintro e w1 ⟨rfl, b1⟩
  go_wp2_with fail
  refine (cA _ (hT.below b1)).mono ?_
  rintro e w2 ⟨rfl, q2⟩
  have b2 := b1.trans (q2.mono b1.size)
  clear q2 b1
  go_wp2_with fail
  refine (cR _ (hT.below b2)).mono ?_
  rintro e w3 ⟨rfl, q3⟩
  have b3 := b2.trans (q3.mono b2.size)
  clear q3 b2
  go_wp2_with fail
  refine (cA _ (hT.below b3)).mono ?_
  rintro e w4 ⟨rfl, q4⟩
  have b4 := b3.trans (q4.mono b3.size)
  clear q4 b3
  go_wp2_with fail
  refine (cO _ (hT.below b4)).mono ?_
  rintro e w5 ⟨rfl, q5⟩
  have b5 := b4.trans (q5.mono b4.size)
  clear q5 b4 cM cA cR cO
  go_wp2_with fail
  go_ret3
  exact ⟨rfl, b5⟩
set_option maxRecDepth 100000 in
theorem gMv_19_1 (w : World) (hT : Tb w) (_hD : Td w) : Calls Tryd.prog 12 #[.int .i64 19, .int .i64 1] w fun e w' => e = .returned (.tuple #[.int .i64 1, .int .i64 0, .bool true]) ∧ Below w.heap.size w w' := by
  have cM := fun w hT => gMonomial 19 w hT
  have cA := fun w hT => gArity 19 w hT
  have cR := fun w hT => gRow 19 w hT
  have cO := fun w hT => gArity 4 w hT
  rw [show mnB (rw' 19) = true from by decide +kernel] at cM
  rw [show rw' 19 = ⟨[99, 99, 122], 3, 0, 4, 19, 4⟩ from by decide +kernel] at cA cR
  rw [show rw' 4 = ⟨[122], 1, 0, 6, 4, 4⟩ from by decide +kernel] at cO
  unfold rV at cR
  dsimp only at *
  have hf := fld5
  go_enter Tryd.func12, Tryd.ntmps12
  go_wp2_with fail
  refine (cM _ hT).mono ?_
  rintro e w1 ⟨rfl, b1⟩
  go_wp2_with fail
  refine (cA _ (hT.below b1)).mono ?_
  rintro e w2 ⟨rfl, q2⟩
  have b2 := b1.trans (q2.mono b1.size)
  clear q2 b1
  go_wp2_with fail
  refine (cR _ (hT.below b2)).mono ?_
  rintro e w3 ⟨rfl, q3⟩
  have b3 := b2.trans (q3.mono b2.size)
  clear q3 b2
  go_wp2_with fail
  refine (cA _ (hT.below b3)).mono ?_
  rintro e w4 ⟨rfl, q4⟩
  have b4 := b3.trans (q4.mono b3.size)
  clear q4 b3
  go_wp2_with fail
  refine (cO _ (hT.below b4)).mono ?_
  rintro e w5 ⟨rfl, q5⟩
  have b5 := b4.trans (q5.mono b4.size)
  clear q5 b4 cM cA cR cO
  go_wp2_with fail
  go_ret3
  exact ⟨rfl, b5⟩
set_option maxRecDepth 100000 in
theorem gMv_19_2 (w : World) (hT : Tb w) (_hD : Td w) : Calls Tryd.prog 12 #[.int .i64 19, .int .i64 2] w fun e w' => e = .returned (.tuple #[.int .i64 2, .int .i64 0, .bool true]) ∧ Below w.heap.size w w' := by
  have cM := fun w hT => gMonomial 19 w hT
  have cA := fun w hT => gArity 19 w hT
  have cR := fun w hT => gRow 19 w hT
  have cO := fun w hT => gArity 4 w hT
  rw [show mnB (rw' 19) = true from by decide +kernel] at cM
  rw [show rw' 19 = ⟨[99, 99, 122], 3, 0, 4, 19, 4⟩ from by decide +kernel] at cA cR
  rw [show rw' 4 = ⟨[122], 1, 0, 6, 4, 4⟩ from by decide +kernel] at cO
  unfold rV at cR
  dsimp only at *
  have hf := fld5
  go_enter Tryd.func12, Tryd.ntmps12
  go_wp2_with fail
  refine (cM _ hT).mono ?_
  rintro e w1 ⟨rfl, b1⟩
  go_wp2_with fail
  refine (cA _ (hT.below b1)).mono ?_
  rintro e w2 ⟨rfl, q2⟩
  have b2 := b1.trans (q2.mono b1.size)
  clear q2 b1
  go_wp2_with fail
  refine (cR _ (hT.below b2)).mono ?_
  rintro e w3 ⟨rfl, q3⟩
  have b3 := b2.trans (q3.mono b2.size)
  clear q3 b2
  go_wp2_with fail
  refine (cA _ (hT.below b3)).mono ?_
  rintro e w4 ⟨rfl, q4⟩
  have b4 := b3.trans (q4.mono b3.size)
  clear q4 b3
  go_wp2_with fail
  refine (cO _ (hT.below b4)).mono ?_
  rintro e w5 ⟨rfl, q5⟩
  have b5 := b4.trans (q5.mono b4.size)
  clear q5 b4 cM cA cR cO
  go_wp2_with fail
  go_ret3
  exact ⟨rfl, b5⟩
set_option maxRecDepth 100000 in
theorem gMv_19_3 (w : World) (hT : Tb w) (hD : Td w) : Calls Tryd.prog 12 #[.int .i64 19, .int .i64 3] w fun e w' => e = .returned (.tuple #[.int .i64 3, .int .i64 0, .bool true]) ∧ Below w.heap.size w w' := by
  have cM := fun w hT => gMonomial 19 w hT
  have cA := fun w hT => gArity 19 w hT
  have cR := fun w hT => gRow 19 w hT
  have cO := fun w hT => gArity 4 w hT
  rw [show mnB (rw' 19) = true from by decide +kernel] at cM
  rw [show rw' 19 = ⟨[99, 99, 122], 3, 0, 4, 19, 4⟩ from by decide +kernel] at cA cR
  rw [show rw' 4 = ⟨[122], 1, 0, 6, 4, 4⟩ from by decide +kernel] at cO
  unfold rV at cR
  dsimp only at *
  have hf := fld5
  go_enter Tryd.func12, Tryd.ntmps12
  go_wp2_with fail
  refine (cM _ hT).mono ?_
  rintro e w1 ⟨rfl, b1⟩
  go_wp2_with fail
  refine (cA _ (hT.below b1)).mono ?_
  rintro e w2 ⟨rfl, q2⟩
  have b2 := b1.trans (q2.mono b1.size)
  clear q2 b1
  go_wp2_with fail
  refine (cR _ (hT.below b2)).mono ?_
  rintro e w3 ⟨rfl, q3⟩
  have b3 := b2.trans (q3.mono b2.size)
  clear q3 b2
  go_wp2_with fail
  refine (cA _ (hT.below b3)).mono ?_
  rintro e w4 ⟨rfl, q4⟩
  have b4 := b3.trans (q4.mono b3.size)
  clear q4 b3
  go_wp2_with fail
  refine (cO _ (hT.below b4)).mono ?_
  rintro e w5 ⟨rfl, q5⟩
  have b5 := b4.trans (q5.mono b4.size)
  clear q5 b4 cM cA cR cO
  have hd5 := hD.below b5
  clear hT hD
  go_wp2_with (refine wpList_load_at rfl _ _ rfl 0 32 rfl [.int .i64 0, .int .i64 1, .int .i64 0, .int .i64 0, .int .i64 0, .int .i64 2, .int .i64 0, .int .i64 0] _ (dd_at hd5 4 _ rfl) Tryd.underlying75 rfl (by exact infoDe) ?_)
  go_quiet (fail)
  go_wp2_with fail
  go_ret3
  exact ⟨rfl, below_drewN (b5.trans ((below_new _ _).mono b5.size)) _⟩
set_option maxRecDepth 100000 in
theorem gMv_19_4 (w : World) (hT : Tb w) (_hD : Td w) : Calls Tryd.prog 12 #[.int .i64 19, .int .i64 4] w fun e w' => e = .returned (.tuple #[.int .i64 4, .int .i64 0, .bool true]) ∧ Below w.heap.size w w' := by
  have cM := fun w hT => gMonomial 19 w hT
  have cA := fun w hT => gArity 19 w hT
  have cR := fun w hT => gRow 19 w hT
  have cO := fun w hT => gArity 4 w hT
  rw [show mnB (rw' 19) = true from by decide +kernel] at cM
  rw [show rw' 19 = ⟨[99, 99, 122], 3, 0, 4, 19, 4⟩ from by decide +kernel] at cA cR
  rw [show rw' 4 = ⟨[122], 1, 0, 6, 4, 4⟩ from by decide +kernel] at cO
  unfold rV at cR
  dsimp only at *
  have hf := fld5
  go_enter Tryd.func12, Tryd.ntmps12
  go_wp2_with fail
  refine (cM _ hT).mono ?_
  rintro e w1 ⟨rfl, b1⟩
  go_wp2_with fail
  refine (cA _ (hT.below b1)).mono ?_
  rintro e w2 ⟨rfl, q2⟩
  have b2 := b1.trans (q2.mono b1.size)
  clear q2 b1
  go_wp2_with fail
  refine (cR _ (hT.below b2)).mono ?_
  rintro e w3 ⟨rfl, q3⟩
  have b3 := b2.trans (q3.mono b2.size)
  clear q3 b2
  go_wp2_with fail
  refine (cA _ (hT.below b3)).mono ?_
  rintro e w4 ⟨rfl, q4⟩
  have b4 := b3.trans (q4.mono b3.size)
  clear q4 b3
  go_wp2_with fail
  refine (cO _ (hT.below b4)).mono ?_
  rintro e w5 ⟨rfl, q5⟩
  have b5 := b4.trans (q5.mono b4.size)
  clear q5 b4 cM cA cR cO
  go_wp2_with fail
  go_ret3
  exact ⟨rfl, b5⟩
set_option maxRecDepth 100000 in
theorem gMv_19_5 (w : World) (hT : Tb w) (_hD : Td w) : Calls Tryd.prog 12 #[.int .i64 19, .int .i64 5] w fun e w' => e = .returned (.tuple #[.int .i64 5, .int .i64 0, .bool true]) ∧ Below w.heap.size w w' := by
  have cM := fun w hT => gMonomial 19 w hT
  have cA := fun w hT => gArity 19 w hT
  have cR := fun w hT => gRow 19 w hT
  have cO := fun w hT => gArity 4 w hT
  rw [show mnB (rw' 19) = true from by decide +kernel] at cM
  rw [show rw' 19 = ⟨[99, 99, 122], 3, 0, 4, 19, 4⟩ from by decide +kernel] at cA cR
  rw [show rw' 4 = ⟨[122], 1, 0, 6, 4, 4⟩ from by decide +kernel] at cO
  unfold rV at cR
  dsimp only at *
  have hf := fld5
  go_enter Tryd.func12, Tryd.ntmps12
  go_wp2_with fail
  refine (cM _ hT).mono ?_
  rintro e w1 ⟨rfl, b1⟩
  go_wp2_with fail
  refine (cA _ (hT.below b1)).mono ?_
  rintro e w2 ⟨rfl, q2⟩
  have b2 := b1.trans (q2.mono b1.size)
  clear q2 b1
  go_wp2_with fail
  refine (cR _ (hT.below b2)).mono ?_
  rintro e w3 ⟨rfl, q3⟩
  have b3 := b2.trans (q3.mono b2.size)
  clear q3 b2
  go_wp2_with fail
  refine (cA _ (hT.below b3)).mono ?_
  rintro e w4 ⟨rfl, q4⟩
  have b4 := b3.trans (q4.mono b3.size)
  clear q4 b3
  go_wp2_with fail
  refine (cO _ (hT.below b4)).mono ?_
  rintro e w5 ⟨rfl, q5⟩
  have b5 := b4.trans (q5.mono b4.size)
  clear q5 b4 cM cA cR cO
  go_wp2_with fail
  go_ret3
  exact ⟨rfl, b5⟩
end Go.Proofs.YtnhdgellckcnbaaDoor.Gt
