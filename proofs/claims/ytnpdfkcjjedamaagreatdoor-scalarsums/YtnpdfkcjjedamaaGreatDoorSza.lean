/- Fixed(0.125, 2), to its end. -/
import Derived.Test.YtnpdfkcjjedamaaGreatDoorSz
namespace Go.Proofs.YtnpdfkcjjedamaaGreatDoor.Sca
open Go.RowKit Go.Lib Go.Shelf Go.Proofs.YtnpdfkcjjedamaaGreatDoor.Oct

set_option maxRecDepth 100000 in
theorem iFormat_c (w : World) (h : Tf w) :
    Calls Tryz.prog 75 #[.float .f64 4593671619917905920, .int .u8 102, .int .i64 2, .int .i64 64] w fun e w' => e = .returned (.string ⟨#[48, 46, 49, 50]⟩) ∧ Below w.heap.size w w' := by
  have mixed := mixed_ok
  have e1 : max (6 : Int) 24 = 24 := rfl
  have hmk : ∀ w, (Instr.makeSlice 95 (.int .i64 0) (.int .i64 24)).run Tryz.prog w = .ok (.slice (some ⟨w.heap.size, 0, none⟩) 0 24) (w.alloc (.cells (buf24 0 0) 5)) := fun _ => by kernel_rfl
  have hown : (w.alloc (.cells (buf24 0 0) 5)).ownsRow w.heap.size 5 1 (.slice (some ⟨w.heap.size, 0, none⟩) 0 24) 0 (bv []) := World.ownsRow_made w (buf24 0 0) 24 (Nat.le_refl _) (by unfold maxLen; omega) rfl
  have hb : Below w.heap.size w (w.alloc (.cells (buf24 0 0) 5)) := (Below.refl _ _).alloc (Nat.le_refl _) _
  have cF := ftoa64_c (w.alloc (.cells (buf24 0 0) 5)) (some ⟨w.heap.size, 0, none⟩) 24 (h.below hb) w.heap.size hb.size hown
  have hcv : ∀ (w' : World) (g c' : Nat), w'.ownsRow w.heap.size 5 1 (.slice (some ⟨g, 0, none⟩) 4 c') 4 (bv [48, 46, 49, 50]) → (convert 95 9 (.slice (some ⟨g, 0, none⟩) 4 c')).run Tryz.prog w' = .ok (.string ⟨#[48, 46, 49, 50]⟩) w' := fun w' g c' ho =>
    conv_bs (l := [48, 46, 49, 50]) 95 9 5 Tryz.underlying95 Tryz.underlying5 Tryz.underlying9 (Bs.of_own ho)
  go_enter Tryz.func75, Tryz.ntmps75
  go_wp2_with fail
  refine cF.mono ?_
  rintro e w1 ⟨g, c', rfl, hown1, hb1⟩
  have hc := hcv w1 g c' hown1
  have Hb : Hid (Below w.heap.size w w1) := hb.trans hb1
  clear hcv hown1 hown hb hb1 hmk
  go_wp2
  go_ret
  exact ⟨rfl, Hb.out⟩
theorem Format_c (w : World) (h : Tf w) :
    Calls Tryz.prog 55 #[.float .f64 4593671619917905920, .int .u8 102, .int .i64 2, .int .i64 64] w fun e w' => e = .returned (.string ⟨#[48, 46, 49, 50]⟩) ∧ Below w.heap.size w w' := by
  have cF := iFormat_c w h
  go_enter Tryz.func55, Tryz.ntmps55
  go_wp2_with fail
  refine cF.mono ?_
  rintro e w1 ⟨rfl, hb1⟩
  go_wp2
  go_ret
  exact ⟨rfl, hb1⟩
theorem Fixed_c (w : World) (h : Tf w) :
    Calls Tryz.prog 36 #[.float .f64 4593671619917905920, .int .i64 2] w fun e w' => e = .returned (.tuple #[.string ⟨#[48, 46, 49, 50]⟩, .int .i64 0]) ∧ Below w.heap.size w w' := by
  have cF := Format_c w h
  have cC : ∀ w, Calls Tryz.prog 17 #[.float .f64 4593671619917905920] w fun e w' => e = .returned (.int .i64 5) ∧ w' = w := fun w => by
    have := sClass 4593671619917905920 (by decide) w
    rw [show clsOf 4593671619917905920 = 5 from by decide +kernel] at this
    exact this
  go_enter Tryz.func36, Tryz.ntmps36
  go_wp2_with (go_at_call 17; refine (cC _).mono ?_; rintro e w' ⟨rfl, hw⟩; obtain rfl := hw.symm)
  refine cF.mono ?_
  rintro e w1 ⟨rfl, hb1⟩
  go_wp2
  go_ret2
  exact ⟨rfl, hb1⟩
end Go.Proofs.YtnpdfkcjjedamaaGreatDoor.Sca
