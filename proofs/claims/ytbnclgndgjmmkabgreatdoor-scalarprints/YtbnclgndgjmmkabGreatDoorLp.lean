/- ScalarPrints, as it is walked. -/
import Derived.Test.YtbnclgndgjmmkabGreatDoorAl
import Derived.Test.YtbnclgndgjmmkabGreatDoorPt
namespace Go.Proofs.YtbnclgndgjmmkabGreatDoor.Sca
open Go.RowKit Go.Lib Go.Shelf

set_option maxRecDepth 100000 in
theorem prints_law (b : Nat) (hb : b < 18446744073709551616) (w : World) (hT : Tb w) :
    Calls Tryz.prog 5 #[.int .u64 (b : Int)] w fun e w' => e = .returned (.bool true) ∧ Below w.heap.size w w' := by
  have mixed := mixed_ok
  have cP := sPrint b hb w hT.tz hT.ten
  have cQ := fun w => qPrint b hb w
  generalize (⟨(prB b).toArray⟩ : ByteArray) = s at *
  go_enter Tryz.func5, Tryz.ntmps5
  go_wp2_with fail
  refine (qOf b _).mono ?_
  rintro e w' ⟨rfl, hw⟩
  obtain rfl := hw.symm
  go_wp2_with fail
  refine cP.mono ?_
  rintro e1 w1 ⟨rfl, hb1⟩
  have hT1 : Tb w1 := hT.below hb1
  go_wp2_with fail
  refine (cQ _).mono ?_
  rintro e2 w2 ⟨rfl, q2, rfl⟩
  have hbq : Below w1.heap.size w1 (w1.drewN q2) := below_drewN (Below.refl _ _) _
  go_wp2_with fail
  refine (alive_any (w1.drewN q2) (hT1.below hbq)).mono ?_
  rintro e3 w3 ⟨rfl, hb3⟩
  go_wp2
  go_ret
  exact ⟨rfl, hb1.trans ((hbq.trans hb3).mono hb1.size)⟩
end Go.Proofs.YtbnclgndgjmmkabGreatDoor.Sca
