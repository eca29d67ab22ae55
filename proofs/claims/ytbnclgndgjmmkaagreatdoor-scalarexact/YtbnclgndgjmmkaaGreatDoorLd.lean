/- ScalarExact, as it is walked. -/
import Derived.Test.YtbnclgndgjmmkaaGreatDoorAl
import Derived.Test.YtbnclgndgjmmkaaGreatDoorQc
namespace Go.Proofs.YtbnclgndgjmmkaaGreatDoor.Sca
open Go.RowKit Go.Lib Go.Shelf

set_option maxRecDepth 100000 in
theorem exact_law (b : Nat) (k : Int) (hb : b < 18446744073709551616) (w : World) (hT : Tb w) :
    Calls Tryz.prog 8 #[.int .u64 (b : Int), .int .i64 k] w fun e w' => e = .returned (.bool true) ∧ Below w.heap.size w w' := by
  have mixed := mixed_ok
  go_enter Tryz.func8, Tryz.ntmps8
  go_wp2_with fail
  refine (qOf b _).mono ?_
  rintro e w' ⟨rfl, hw⟩
  obtain rfl := hw.symm
  go_wp2_with fail
  refine (sExact b hb k _ hT.tz).mono ?_
  rintro e w' ⟨rfl, hw⟩
  obtain rfl := hw.symm
  go_wp2_with fail
  refine (qExact b hb k _).mono ?_
  rintro e w' ⟨rfl, hw⟩
  obtain rfl := hw.symm
  go_wp2_with fail
  refine (alive_any w hT).mono ?_
  rintro e w1 ⟨rfl, hb1⟩
  go_wp2
  go_ret
  exact ⟨rfl, hb1⟩
end Go.Proofs.YtbnclgndgjmmkaaGreatDoor.Sca
