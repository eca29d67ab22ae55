/- Open, as it is walked. -/
import Derived.Test.YtefbhhabeapaaaaDoorSeal
namespace Go.Proofs.YtefbhhabeapaaaaDoor.Oct
open Go.RowKit Go.Lib

end Go.Proofs.YtefbhhabeapaaaaDoor.Oct
