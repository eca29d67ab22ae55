/- The tables of the qubits as they may lie, of kinds with few qubits. -/
import Derived.Test.YtnhdgellckcnbaaDoorXn
namespace Go.Proofs.YtnhdgellckcnbaaDoor.Gt
def ks1 : List Nat := [1, 2, 3, 4, 5, 6, 7, 8, 9, 10]
def ks2 : List Nat := [11, 12, 13, 14, 15, 16, 17]
def ks3 : List Nat := [18, 19, 20]
set_option maxRecDepth 100000 in
theorem tab11 : tabB 1 1 ks1 ks1 = true := by decide +kernel
set_option maxRecDepth 100000 in
theorem tab12 : tabB 1 2 ks1 ks2 = true := by decide +kernel
set_option maxRecDepth 100000 in
theorem tab13 : tabB 1 3 ks1 ks3 = true := by decide +kernel
set_option maxRecDepth 100000 in
theorem tab22 : tabB 2 2 ks2 ks2 = true := by decide +kernel
end Go.Proofs.YtnhdgellckcnbaaDoor.Gt
