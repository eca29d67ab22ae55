/- The table of the qubits as they may lie, of three qubits. -/
import Derived.Test.YtnhdgellckcnbaaDoorXn
namespace Go.Proofs.YtnhdgellckcnbaaDoor.Gt
set_option maxRecDepth 100000 in
theorem tab33 : tabB 3 3 [18, 19, 20] [18, 19, 20] = true := by decide +kernel
end Go.Proofs.YtnhdgellckcnbaaDoor.Gt
