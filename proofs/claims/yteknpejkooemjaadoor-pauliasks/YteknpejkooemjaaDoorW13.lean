/- The law PauliAsks, as it is walked. -/
import Derived.Test.YteknpejkooemjaaDoorWb13
import Derived.Test.YteknpejkooemjaaDoorWc13
import Derived.Test.YteknpejkooemjaaDoorWd13
import Derived.Test.YteknpejkooemjaaDoorWe13
import Derived.Deep.Quiet
namespace Go.Proofs.YteknpejkooemjaaDoor.Pau
open Go.RowKit Go.Shelf Go.Proofs.YteknpejkooemjaaDoor.Oct Go.Proofs.YteknpejkooemjaaDoor.Gt

theorem xPauliAsks (a b : P) (q : Int) (ha : Wd a) (hb : Wd b) (w : World) (hT : Tp w) : Calls Tryd.prog 3 #[pV a, pV b, .int .i64 q] w fun e w' => e = .returned (.bool true) ∧ Below w.heap.size w w' := by
  cases hr : rt a with
  | false => exact xAsks_no a b q ha hb hr w hT
  | true =>
    by_cases h0 : a.ph = 0
    · exact xAsks_z0 a b q ha hb hr h0 w hT
    · by_cases h2 : a.ph = 2
      · exact xAsks_z2 a b q ha hb hr h2 w hT
      · exact xAsks_zn a b q ha hb hr h0 h2 w hT
end Go.Proofs.YteknpejkooemjaaDoor.Pau
