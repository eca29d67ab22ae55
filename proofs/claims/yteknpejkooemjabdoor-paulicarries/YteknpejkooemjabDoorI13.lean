/- The document's Mul, as it is walked. -/
import Derived.Test.YteknpejkooemjabDoorH13
namespace Go.Proofs.YteknpejkooemjabDoor.Pau
open Go.RowKit Go.Proofs.YteknpejkooemjabDoor.Gt

end Go.Proofs.YteknpejkooemjabDoor.Pau
