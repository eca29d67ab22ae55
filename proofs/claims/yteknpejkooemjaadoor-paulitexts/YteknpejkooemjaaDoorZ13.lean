/- The document's Parse of any text (gen_z13.py). -/
import Derived.Test.YteknpejkooemjaaDoorZa13
import Derived.Test.YteknpejkooemjaaDoorZb13
import Derived.Test.YteknpejkooemjaaDoorZc13
import Derived.Test.YteknpejkooemjaaDoorZd13
import Derived.Test.YteknpejkooemjaaDoorZe13
import Derived.Test.YteknpejkooemjaaDoorZf13
import Derived.Test.YteknpejkooemjaaDoorZg13
namespace Go.Proofs.YteknpejkooemjaaDoor.Pau
open Go.RowKit Go.Shelf Go.Proofs.YteknpejkooemjaaDoor.Oct Go.Proofs.YteknpejkooemjaaDoor.Gt

theorem dParse (l : List UInt8) (w : World) : Calls Tryd.prog 25 #[str l] w fun e w' => e = .returned (.tuple #[pV (parR l).1, .int .i64 (parR l).2]) ∧ Below w.heap.size w w' := by
  by_cases h0 : l.length = 0
  · exact dParse_a l h0 w
  · by_cases h1 : l.length = 1
    · by_cases ha : l.getD 0 0 = 45
      · exact dParse_c l h1 ha w
      · exact dParse_b l h1 ha w
    · have h2 : 1 < l.length := by omega
      by_cases ha : l.getD 0 0 = 45
      · by_cases hb : l.getD 1 0 = 105
        · exact dParse_g l h2 ha hb w
        · exact dParse_f l h2 ha hb w
      · by_cases hb : l.getD 1 0 = 105
        · exact dParse_e l h2 ha hb w
        · exact dParse_d l h2 ha hb w
end Go.Proofs.YteknpejkooemjaaDoor.Pau
