/- The set-up: Sample and heads; the law. -/
import Derived.Test.YtedmdeifjmconaaDoorG11
namespace Go.Proofs.YtedmdeifjmconaaDoor.Odd
open Go.RowKit Go.Proofs.YtedmdeifjmconaaDoor.Sca Go.Proofs.YtedmdeifjmconaaDoor.Gt

def W1 : Nat → Nat
  | 0 => 4598175219545276416
  | 1 => 4602678819172646912
  | 2 => 4602678819172646912
  | _ => 4607182418800017408
def R1 : Nat → Nat
  | 0 => 0
  | 1 => 4598175219545276416
  | 2 => 4602678819172646912
  | 3 => 4602678819172646912
  | _ => 4607182418800017408
theorem lt3 {i : Nat} (h : i < 3) : i = 0 ∨ i = 1 ∨ i = 2 := by omega
set_option maxRecDepth 100000 in
set_option maxHeartbeats 1000000 in
theorem tWeight (gs : Nat) (w : World) (hT : Tz w) (hS : S4 w gs) : Calls Tryd.prog 20 #[.slice (some ⟨gs, 0, none⟩) 4 4] w fun e w' => e = .returned (.tuple #[.float .f64 4607182418800017408, .int .i64 0]) ∧ w' = w := by
  have c1 := tRight (some ⟨gs, 0, none⟩) 4 w hT
  have c2 := fun W => pSq 0 (by decide) W
  have s0 := hS 0 (by decide)
  have hgl := hS.lt
  have HS := hide hS
  have c3 := fun i (h : i < 4) W => pSq i h W
  have C3 := hide c3
  clear c3
  go_enter Tryd.func20, Tryd.ntmps20
  go_wp2_with (first | (go_at_call 27; refine c1.mono ?_; rintro e w1 ⟨rfl, hw⟩; obtain rfl := hw.symm) | (go_at_call 26; (with_reducible refine Calls.mono (c2 _) ?_); rintro e w1 ⟨rfl, hw⟩; obtain rfl := hw.symm))
  go_loopw [4, 17] (fun vs vi wr => ∃ i : Nat, vi = .int .i64 (i : Int) ∧ vs = .float .f64 (W1 i) ∧ i ≤ 3 ∧ wr = w) (fun _ vi _ => 3 - (Go.RowKit.intOf vi).toNat)
  case atStart => exact ⟨0, rfl, rfl, Nat.zero_le _, rfl⟩
  case round =>
    obtain ⟨i, rfl, rfl, hi, hw⟩ := hrel
    obtain rfl := hw.symm
    by_cases h : i < 3
    · have s1 := HS.out (i + 1) (by omega)
      have c4 := fun W => C3.out (i + 1) (by omega) W
      rcases lt3 h with rfl | rfl | rfl
      · have ha := fun t W => run_float_arith (P := Tryd.prog) W .add t .f64 (W1 0) (sqB 1) (W1 1) (by decide +kernel)
        go_wp2_with (first | (go_at_call 26; (with_reducible refine Calls.mono (c4 _) ?_); rintro e w1 ⟨rfl, hw⟩; obtain rfl := hw.symm))
        go_roundw
        case rel => exact ⟨1, rfl, rfl, by decide, trivial⟩
        case measure => decide
      · have ha := fun t W => run_float_arith (P := Tryd.prog) W .add t .f64 (W1 1) (sqB 2) (W1 2) (by decide +kernel)
        go_wp2_with (first | (go_at_call 26; (with_reducible refine Calls.mono (c4 _) ?_); rintro e w1 ⟨rfl, hw⟩; obtain rfl := hw.symm))
        go_roundw
        case rel => exact ⟨2, rfl, rfl, by decide, trivial⟩
        case measure => decide
      · have ha := fun t W => run_float_arith (P := Tryd.prog) W .add t .f64 (W1 2) (sqB 3) (W1 3) (by decide +kernel)
        go_wp2_with (first | (go_at_call 26; (with_reducible refine Calls.mono (c4 _) ?_); rintro e w1 ⟨rfl, hw⟩; obtain rfl := hw.symm))
        go_roundw
        case rel => exact ⟨3, rfl, rfl, by decide, trivial⟩
        case measure => decide
    · obtain rfl : i = 3 := by omega
      go_wp2_with fail
      go_ret2
      exact ⟨rfl, rfl⟩
set_option maxRecDepth 100000 in
set_option maxHeartbeats 1000000 in
theorem oReach (gs : Nat) (w : World) (hS : S4 w gs) : Calls Tryd.prog 21 #[.slice (some ⟨gs, 0, none⟩) 4 4, .float .f64 4602678819172646912] w fun e w' => e = .returned (.int .i64 3) ∧ w' = w := by
  have hgl := hS.lt
  have HS := hide hS
  have C3 := hide (fun i (h : i < 4) W => pSq i h W)
  clear hS
  go_enter Tryd.func21, Tryd.ntmps21
  go_wp2_with fail
  go_loopw [5, 12] (fun vs vi wr => ∃ i : Nat, vi = .int .i64 (i : Int) ∧ vs = .float .f64 (R1 i) ∧ i ≤ 3 ∧ wr = w) (fun _ vi _ => 4 - (Go.RowKit.intOf vi).toNat)
  case atStart => exact ⟨0, rfl, rfl, Nat.zero_le _, rfl⟩
  case round =>
    obtain ⟨i, rfl, rfl, hi, hw⟩ := hrel
    obtain rfl := hw.symm
    have s1 := HS.out i (by omega)
    have c4 := fun W => C3.out i (by omega) W
    rcases lt4 (show i < 4 by omega) with rfl | rfl | rfl | rfl
    · have ha := fun t W => run_float_arith (P := Tryd.prog) W .add t .f64 (R1 0) (sqB 0) (R1 1) (by decide +kernel)
      have hl : (FloatKind.f64.format.order 4602678819172646912 (R1 1) == some .lt) = false := by decide +kernel
      have hg : (FloatKind.f64.format.order (sqB 0) 0 == some .gt) = true := by decide +kernel
      go_wp2_with (first | (go_at_call 26; (with_reducible refine Calls.mono (c4 _) ?_); rintro e w1 ⟨rfl, hw⟩; obtain rfl := hw.symm))
      go_roundw
      case rel => exact ⟨1, rfl, rfl, by decide, trivial⟩
      case measure => decide
    · have ha := fun t W => run_float_arith (P := Tryd.prog) W .add t .f64 (R1 1) (sqB 1) (R1 2) (by decide +kernel)
      have hl : (FloatKind.f64.format.order 4602678819172646912 (R1 2) == some .lt) = false := by decide +kernel
      have hg : (FloatKind.f64.format.order (sqB 1) 0 == some .gt) = true := by decide +kernel
      go_wp2_with (first | (go_at_call 26; (with_reducible refine Calls.mono (c4 _) ?_); rintro e w1 ⟨rfl, hw⟩; obtain rfl := hw.symm))
      go_roundw
      case rel => exact ⟨2, rfl, rfl, by decide, trivial⟩
      case measure => decide
    · have ha := fun t W => run_float_arith (P := Tryd.prog) W .add t .f64 (R1 2) (sqB 2) (R1 3) (by decide +kernel)
      have hl : (FloatKind.f64.format.order 4602678819172646912 (R1 3) == some .lt) = false := by decide +kernel
      have hg : (FloatKind.f64.format.order (sqB 2) 0 == some .gt) = false := by decide +kernel
      go_wp2_with (first | (go_at_call 26; (with_reducible refine Calls.mono (c4 _) ?_); rintro e w1 ⟨rfl, hw⟩; obtain rfl := hw.symm))
      go_roundw
      case rel => exact ⟨3, rfl, rfl, by decide, trivial⟩
      case measure => decide
    · have ha := fun t W => run_float_arith (P := Tryd.prog) W .add t .f64 (R1 3) (sqB 3) (R1 4) (by decide +kernel)
      have hl : (FloatKind.f64.format.order 4602678819172646912 (R1 4) == some .lt) = true := by decide +kernel
      have hg : (FloatKind.f64.format.order (sqB 3) 0 == some .gt) = true := by decide +kernel
      go_wp2_with (first | (go_at_call 26; (with_reducible refine Calls.mono (c4 _) ?_); rintro e w1 ⟨rfl, hw⟩; obtain rfl := hw.symm))
      go_ret
      exact ⟨rfl, rfl⟩
set_option maxRecDepth 100000 in
set_option maxHeartbeats 1000000 in
theorem oSample (gs : Nat) (w : World) (hT : Tz w) (hS : S4 w gs) : Calls Tryd.prog 14 #[.slice (some ⟨gs, 0, none⟩) 4 4, .float .f64 4602678819172646912] w fun e w' => e = .returned (.tuple #[.int .i64 3, .int .i64 0]) ∧ w' = w := by
  have c1 := tWeight gs w hT hS
  have c2 := oIsWeight 4607182418800017408 (by decide) w
  have c3 := oIsFraction 4602678819172646912 w
  rw [show wgt 4607182418800017408 = true by decide +kernel] at c2
  rw [show frc 4602678819172646912 = true by decide +kernel] at c3
  have c4 := oReach gs w hS
  have h0 : (FloatKind.f64.format.order 4607182418800017408 0 == some .eq) = false := by decide +kernel
  have hm := fun t W => run_float_arith (P := Tryd.prog) W .mul t .f64 4602678819172646912 4607182418800017408 4602678819172646912 (by decide +kernel)
  go_enter Tryd.func14, Tryd.ntmps14
  go_wp2_with (first | (go_at_call 20; refine c1.mono ?_; rintro e w1 ⟨rfl, hw⟩; obtain rfl := hw.symm) | (go_at_call 7; refine c2.mono ?_; rintro e w1 ⟨rfl, hw⟩; obtain rfl := hw.symm) | (go_at_call 8; refine c3.mono ?_; rintro e w1 ⟨rfl, hw⟩; obtain rfl := hw.symm) | (go_at_call 21; refine c4.mono ?_; rintro e w1 ⟨rfl, hw⟩; obtain rfl := hw.symm))
  go_ret2
  exact ⟨rfl, rfl⟩
end Go.Proofs.YtedmdeifjmconaaDoor.Odd
