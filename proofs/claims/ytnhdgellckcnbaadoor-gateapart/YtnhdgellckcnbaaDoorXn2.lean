/- The table of the qubits as they may lie, of two and three qubits. -/
import Derived.Test.YtnhdgellckcnbaaDoorXn
namespace Go.Proofs.YtnhdgellckcnbaaDoor.Gt
set_option maxRecDepth 100000 in
theorem tab23 : tabB 2 3 [11, 12, 13, 14, 15, 16, 17] [18, 19, 20] = true := by decide +kernel
end Go.Proofs.YtnhdgellckcnbaaDoor.Gt
