/- The plane's Add, Sub, Mul, Equal, the document's Equal: as they are walked. -/
import Derived.Test.YthpkmbgollollabDoorVa
import Derived.Test.YthpkmbgollollabDoorGb
import Derived.Test.YthpkmbgollollabDoorEb
namespace Go.Proofs.YthpkmbgollollabDoor.Dy
open Go.RowKit Go.Lib Go.Shelf Go.Proofs.YthpkmbgollollabDoor.Sca

set_option maxRecDepth 100000 in
theorem pAdd (a b c d r s : Nat) (h1 : floatBits .add .f64 a c = some r) (h2 : floatBits .add .f64 b d = some s) (w : World) :
    Calls Tryd.prog 9 #[.complex .f64 a b, .complex .f64 c d] w fun e w' => e = .returned (.complex .f64 r s) ∧ Below w.heap.size w w' := by
  have ha := fun t w => run_float_arith (P := Tryd.prog) w .add t .f64 a c r h1
  have hb := fun t w => run_float_arith (P := Tryd.prog) w .add t .f64 b d s h2
  clear h1 h2
  go_enter Tryd.func9, Tryd.ntmps9
  go_wp2_with fail
  go_ret
  exact ⟨rfl, Below.refl _ _⟩
set_option maxRecDepth 100000 in
theorem pSub (a b c d r s : Nat) (h1 : floatBits .sub .f64 a c = some r) (h2 : floatBits .sub .f64 b d = some s) (w : World) :
    Calls Tryd.prog 11 #[.complex .f64 a b, .complex .f64 c d] w fun e w' => e = .returned (.complex .f64 r s) ∧ Below w.heap.size w w' := by
  have ha := fun t w => run_float_arith (P := Tryd.prog) w .sub t .f64 a c r h1
  have hb := fun t w => run_float_arith (P := Tryd.prog) w .sub t .f64 b d s h2
  clear h1 h2
  go_enter Tryd.func11, Tryd.ntmps11
  go_wp2_with fail
  go_ret
  exact ⟨rfl, Below.refl _ _⟩
set_option maxRecDepth 100000 in
theorem pMul (a b c d x1 x2 x3 x4 r s : Nat) (h1 : floatBits .mul .f64 a c = some x1) (h2 : floatBits .mul .f64 b d = some x2) (h3 : floatBits .mul .f64 a d = some x3) (h4 : floatBits .mul .f64 b c = some x4)
    (h5 : floatBits .sub .f64 x1 x2 = some r) (h6 : floatBits .add .f64 x3 x4 = some s) (w : World) :
    Calls Tryd.prog 16 #[.complex .f64 a b, .complex .f64 c d] w fun e w' => e = .returned (.complex .f64 r s) ∧ Below w.heap.size w w' := by
  have e1 := fun t w => run_float_arith (P := Tryd.prog) w .mul t .f64 a c x1 h1
  have e2 := fun t w => run_float_arith (P := Tryd.prog) w .mul t .f64 b d x2 h2
  have e3 := fun t w => run_float_arith (P := Tryd.prog) w .mul t .f64 a d x3 h3
  have e4 := fun t w => run_float_arith (P := Tryd.prog) w .mul t .f64 b c x4 h4
  have e5 := fun t w => run_float_arith (P := Tryd.prog) w .sub t .f64 x1 x2 r h5
  have e6 := fun t w => run_float_arith (P := Tryd.prog) w .add t .f64 x3 x4 s h6
  clear h1 h2 h3 h4 h5 h6
  go_enter Tryd.func16, Tryd.ntmps16
  go_wp2_with fail
  go_ret
  exact ⟨rfl, Below.refl _ _⟩
set_option maxRecDepth 100000 in
theorem pEqual (a b c d : Nat) (h1 : FloatKind.f64.format.order a c = some .eq) (h2 : FloatKind.f64.format.order b d = some .eq) (w : World) :
    Calls Tryd.prog 8 #[.complex .f64 a b, .complex .f64 c d] w fun e w' => e = .returned (.bool true) ∧ Below w.heap.size w w' := by
  have e1 : (FloatKind.f64.format.order a c == some Ordering.eq) = true := by rw [h1]; rfl
  have e2 : (FloatKind.f64.format.order b d == some Ordering.eq) = true := by rw [h2]; rfl
  clear h1 h2
  go_enter Tryd.func8, Tryd.ntmps8
  go_wp2_with fail
  go_ret
  exact ⟨rfl, Below.refl _ _⟩
set_option maxRecDepth 100000 in
theorem rEqual (a b c d : Nat) (h1 : FloatKind.f64.format.order a c = some .eq) (h2 : FloatKind.f64.format.order b d = some .eq) (w : World) :
    Calls Tryd.prog 14 #[.agg #[.float .f64 a, .float .f64 b], .agg #[.float .f64 c, .float .f64 d]] w fun e w' => e = .returned (.bool true) ∧ Below w.heap.size w w' := by
  have e1 : (FloatKind.f64.format.order a c == some Ordering.eq) = true := by rw [h1]; rfl
  have e2 : (FloatKind.f64.format.order b d == some Ordering.eq) = true := by rw [h2]; rfl
  clear h1 h2
  go_enter Tryd.func14, Tryd.ntmps14
  go_wp2_with fail
  go_ret
  exact ⟨rfl, (below_new _ _).trans ((below_new _ _).mono (by simp))⟩
theorem infoZ : (Tryd.prog.info? 37).map (·.size) = some 2 := by kernel_rfl
theorem allZ (a b : Nat) : (#[Value.float .f64 a, .float .f64 b]).all (·.oneCell') = true := by simp [Value.oneCell']
set_option maxRecDepth 100000 in
theorem lZ (a b : Nat) (w : World) : Calls Tryd.prog 15 #[.complex .f64 a b] w fun e w' => e = .returned (.agg #[.float .f64 a, .float .f64 b]) ∧ Below w.heap.size w w' := by
  have hA : (w.alloc (.cells #[.float .f64 0, .float .f64 0] 37)).heap[w.heap.size]? = some (.cells #[.float .f64 0, .float .f64 0] 37) := heap_alloc_new _ _
  go_enter Tryd.func15, Tryd.ntmps15
  go_wp2_with (refine wpList_store_row rfl _ _ _ rfl w.heap.size _ rfl rfl _ _ hA (by exact infoZ) (by rfl) (allZ _ _) ?_)
  refine bodyPost_ret (results_c rfl _ _ w.heap.size _ _ _ _ rfl (setRow_heap _ _ _ _ _ _ hA) Tryd.underlying37 rfl (by exact infoZ)) rfl ?_
  exact ⟨rfl, below_setRow (below_new _ _) (Nat.le_refl _) _⟩
set_option maxRecDepth 100000 in
theorem yTo_no (d : DD) (hd : d64 d) (h : ¬ Rt d) (w : World) : Calls Tryd.prog 4 #[dV d] w fun e w' => e = .returned (.tuple #[.complex .f64 0 0, .int .i64 2]) ∧ Below w.heap.size w w' := by
  have cC := fun w => yCheck d hd w
  rw [chk_no h] at cC
  obtain ⟨re, im, ex⟩ := d
  unfold dV at *
  dsimp only at *
  clear h hd
  go_enter Tryd.func4, Tryd.ntmps4
  go_wp2_with fail
  refine (cC _).mono ?_
  rintro e w2 ⟨rfl, hb2⟩
  have hbw2 : Below w.heap.size w w2 := (below_new _ _).trans (hb2.mono (by simp))
  clear hb2 cC
  go_wp2_with fail
  go_ret2
  exact ⟨rfl, hbw2⟩
end Go.Proofs.YthpkmbgollollabDoor.Dy
