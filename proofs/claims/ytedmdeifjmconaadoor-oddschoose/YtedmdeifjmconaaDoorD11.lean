/- The set-up: package odds at the document's example. -/
import Derived.Test.YtedmdeifjmconaaDoorC11
namespace Go.Proofs.YtedmdeifjmconaaDoor.Odd
open Go.RowKit Go.Proofs.YtedmdeifjmconaaDoor.Sca

/-- The table of trailing zeros, as it is read. -/
def Tz (w : World) : Prop := w.cell? ⟨2, 3, none⟩ = some (.int .u8 2)
set_option maxRecDepth 100000 in
set_option maxHeartbeats 1000000 in
theorem bOnes64 (w : World) : Calls Tryd.prog 32 #[.int .u64 4] w fun e w' => e = .returned (.int .i64 1) ∧ w' = w := by
  have b1 : bits .and .u64 2 6148914691236517205 = 0 := by decide +kernel
  have b2 : bits .and .u64 4 6148914691236517205 = 4 := by decide +kernel
  have b3 : bits .and .u64 1 3689348814741910323 = 1 := by decide +kernel
  have b4 : bits .and .u64 4 3689348814741910323 = 0 := by decide +kernel
  have b5 : bits .and .u64 1 1085102592571150095 = 1 := by decide +kernel
  have b6 : bits .and .i64 1 127 = 1 := by decide +kernel
  go_enter Tryd.func32, Tryd.ntmps32
  go_wp2_with fail
  go_ret
  exact ⟨rfl, rfl⟩
set_option maxRecDepth 100000 in
set_option maxHeartbeats 1000000 in
theorem bOnes (w : World) : Calls Tryd.prog 29 #[.int .u64 4] w fun e w' => e = .returned (.int .i64 1) ∧ w' = w := by
  have c1 := fun W => bOnes64 W
  go_enter Tryd.func29, Tryd.ntmps29
  go_wp2_with (first | (go_at_call 32; refine (c1 _).mono ?_; rintro e w1 ⟨rfl, rfl⟩))
  go_ret
  exact ⟨rfl, rfl⟩
set_option maxRecDepth 100000 in
set_option maxHeartbeats 1000000 in
theorem bTrail64 (w : World) (hT : Tz w) : Calls Tryd.prog 34 #[.int .u64 4] w fun e w' => e = .returned (.int .i64 2) ∧ w' = w := by
  have e1 : IntKind.u64.wrap (-4) = 18446744073709551612 := by decide +kernel
  have e2 : bits .and .u64 4 18446744073709551612 = 4 := by decide +kernel
  have e3 : IntKind.u64.wrap (4 * 285870213051353865) = 1143480852205415460 := by decide +kernel
  have e4 : IntKind.u64.wrap 1143480852205415460 = 1143480852205415460 := by decide +kernel
  unfold Tz at hT
  go_enter Tryd.func34, Tryd.ntmps34
  go_wp2_with fail
  go_ret
  exact ⟨rfl, rfl⟩
set_option maxRecDepth 100000 in
set_option maxHeartbeats 1000000 in
theorem bTrail (w : World) (hT : Tz w) : Calls Tryd.prog 30 #[.int .u64 4] w fun e w' => e = .returned (.int .i64 2) ∧ w' = w := by
  have c1 := bTrail64 w hT
  go_enter Tryd.func30, Tryd.ntmps30
  go_wp2_with (first | (go_at_call 34; refine c1.mono ?_; rintro e w1 ⟨rfl, rfl⟩))
  go_ret
  exact ⟨rfl, rfl⟩
set_option maxRecDepth 100000 in
set_option maxHeartbeats 1000000 in
theorem tCheck (ao : Option Addr) (c : Nat) (w : World) (hT : Tz w) : Calls Tryd.prog 23 #[.slice ao 4 c] w fun e w' => e = .returned (.tuple #[.int .i64 2, .int .i64 0]) ∧ w' = w := by
  have c1 := fun W => bOnes W
  have c2 := bTrail w hT
  go_enter Tryd.func23, Tryd.ntmps23
  go_wp2_with (first | (go_at_call 29; refine (c1 _).mono ?_; rintro e w1 ⟨rfl, rfl⟩) | (go_at_call 30; refine c2.mono ?_; rintro e w1 ⟨rfl, rfl⟩))
  go_ret2
  exact ⟨rfl, rfl⟩
set_option maxRecDepth 100000 in
set_option maxHeartbeats 1000000 in
theorem tRight (ao : Option Addr) (c : Nat) (w : World) (hT : Tz w) : Calls Tryd.prog 27 #[.slice ao 4 c] w fun e w' => e = .returned (.bool true) ∧ w' = w := by
  have c1 := tCheck ao c w hT
  go_enter Tryd.func27, Tryd.ntmps27
  go_wp2_with (first | (go_at_call 23; refine c1.mono ?_; rintro e w1 ⟨rfl, rfl⟩))
  go_ret
  exact ⟨rfl, rfl⟩
set_option maxRecDepth 100000 in
set_option maxHeartbeats 1000000 in
theorem pSquare (a b x y s : Nat) (hx : floatBits .mul .f64 a a = some x) (hy : floatBits .mul .f64 b b = some y) (hs : floatBits .add .f64 x y = some s) (w : World) : Calls Tryd.prog 26 #[.complex .f64 a b] w fun e w' => e = .returned (.float .f64 s) ∧ w' = w := by
  have h1 := fun t W => run_float_arith (P := Tryd.prog) W .mul t .f64 a a x hx
  have h2 := fun t W => run_float_arith (P := Tryd.prog) W .mul t .f64 b b y hy
  have h3 := fun t W => run_float_arith (P := Tryd.prog) W .add t .f64 x y s hs
  go_enter Tryd.func26, Tryd.ntmps26
  go_wp2_with fail
  go_ret
  exact ⟨rfl, rfl⟩
end Go.Proofs.YtedmdeifjmconaaDoor.Odd
