/-
  NARROWER THAN 'FOR EVERY INPUT', by the rows' own cells (each row's printed sentence says how): PauliGroup: laid · PauliCarries: laid.
  DERIVED. THE GIVEN ROWS OF THIS SEAT. 2 by the template 'for every input the law returns true; each argument reads behind the call as it read before'; 0 by the template 'total and deterministic' (their statements: YteknpejkooemjabDoorTotals.lean).
  GIVEN WITH THE SEED: the statements are not yours to turn. If you find one false, say at which input.
  Laid BY PROGRAM, IN A SANDBOX (cutbox-rows.mjs): the forced cells as the released guide's own fill.sh prints them over the translation 4281ceb4a995a3c3… (all of the seat's roots in one cut). By AI agents, Wed Nov 11 2026. No macro, syntax, notation, axiom, sorry.
-/
import Derived.Test.YteknpejkooemjabDoorChecked
import GoSem.Claim
import GoSem.ClaimJoined
import GoSem.ClaimMapViews
import Derived.JoinedTies
import Derived.KernelRfl
namespace Go.Proofs.YteknpejkooemjabDoor
/- THE CELL 'sum', in the pinned program and in every row, IS THE sha256 OF THE DUMP (.gsa) THAT YteknpejkooemjabDoorProg.lean LOADS. Nothing in Lean hashes anything: it is a label: what it is worth is what the hold of that sum in a sandbox is worth. -/
noncomputable def Tryd.pinned : Pinned := { name := "yteknpejkooemjabdoor", sum := "4281ceb4a995a3c3b85acfef912935b869e3bf7ab4b3fc1441e73a5c24fcdabe", checked := Tryd.checked }
namespace Rows
def none {H : Type} : Left H := { results := [], args := [] }

/- WHAT THE LISTED PACKAGE-LEVEL VARIABLES READ AS WHEN THE CALL BEGINS. Each datum BY PROGRAM (the guide's laid-datum.mjs) off the statement by which the dump's own 'gosem.cut.vars' lays the variable. In a bare row this is a premise. The card (YteknpejkooemjabDoorCards.lean) ties it to the program's text. -/
def laid_math_bits_deBruijn32tab {H : Type} : DataW H := .agg [.lit (.int .u8 0), .lit (.int .u8 1), .lit (.int .u8 28), .lit (.int .u8 2), .lit (.int .u8 29), .lit (.int .u8 14), .lit (.int .u8 24), .lit (.int .u8 3), .lit (.int .u8 30), .lit (.int .u8 22), .lit (.int .u8 20), .lit (.int .u8 15), .lit (.int .u8 25), .lit (.int .u8 17), .lit (.int .u8 4), .lit (.int .u8 8), .lit (.int .u8 31), .lit (.int .u8 27), .lit (.int .u8 13), .lit (.int .u8 23), .lit (.int .u8 21), .lit (.int .u8 19), .lit (.int .u8 16), .lit (.int .u8 7), .lit (.int .u8 26), .lit (.int .u8 12), .lit (.int .u8 18), .lit (.int .u8 6), .lit (.int .u8 11), .lit (.int .u8 5), .lit (.int .u8 10), .lit (.int .u8 9)]
def laid_math_bits_deBruijn64tab {H : Type} : DataW H := .agg [.lit (.int .u8 0), .lit (.int .u8 1), .lit (.int .u8 56), .lit (.int .u8 2), .lit (.int .u8 57), .lit (.int .u8 49), .lit (.int .u8 28), .lit (.int .u8 3), .lit (.int .u8 61), .lit (.int .u8 58), .lit (.int .u8 42), .lit (.int .u8 50), .lit (.int .u8 38), .lit (.int .u8 29), .lit (.int .u8 17), .lit (.int .u8 4), .lit (.int .u8 62), .lit (.int .u8 47), .lit (.int .u8 59), .lit (.int .u8 36), .lit (.int .u8 45), .lit (.int .u8 43), .lit (.int .u8 51), .lit (.int .u8 22), .lit (.int .u8 53), .lit (.int .u8 39), .lit (.int .u8 33), .lit (.int .u8 30), .lit (.int .u8 24), .lit (.int .u8 18), .lit (.int .u8 12), .lit (.int .u8 5), .lit (.int .u8 63), .lit (.int .u8 55), .lit (.int .u8 48), .lit (.int .u8 27), .lit (.int .u8 60), .lit (.int .u8 41), .lit (.int .u8 37), .lit (.int .u8 16), .lit (.int .u8 46), .lit (.int .u8 35), .lit (.int .u8 44), .lit (.int .u8 21), .lit (.int .u8 52), .lit (.int .u8 32), .lit (.int .u8 23), .lit (.int .u8 11), .lit (.int .u8 54), .lit (.int .u8 26), .lit (.int .u8 40), .lit (.int .u8 15), .lit (.int .u8 34), .lit (.int .u8 20), .lit (.int .u8 31), .lit (.int .u8 10), .lit (.int .u8 25), .lit (.int .u8 14), .lit (.int .u8 19), .lit (.int .u8 9), .lit (.int .u8 13), .lit (.int .u8 8), .lit (.int .u8 7), .lit (.int .u8 6)]
def laid_phasor_gate_table {H : Type} : DataW H := .agg [.agg [.lit (.string []), .lit (.int .i64 0), .lit (.int .i64 0), .lit (.int .i64 0), .lit (.int .i64 0), .lit (.int .i64 0)], .agg [.lit (.string [105, 100]), .lit (.int .i64 1), .lit (.int .i64 0), .lit (.int .i64 6), .lit (.int .i64 1), .lit (.int .i64 1)], .agg [.lit (.string [120]), .lit (.int .i64 1), .lit (.int .i64 0), .lit (.int .i64 2), .lit (.int .i64 2), .lit (.int .i64 2)], .agg [.lit (.string [121]), .lit (.int .i64 1), .lit (.int .i64 0), .lit (.int .i64 2), .lit (.int .i64 3), .lit (.int .i64 3)], .agg [.lit (.string [122]), .lit (.int .i64 1), .lit (.int .i64 0), .lit (.int .i64 6), .lit (.int .i64 4), .lit (.int .i64 4)], .agg [.lit (.string [115]), .lit (.int .i64 1), .lit (.int .i64 0), .lit (.int .i64 6), .lit (.int .i64 6), .lit (.int .i64 5)], .agg [.lit (.string [115, 100, 103]), .lit (.int .i64 1), .lit (.int .i64 0), .lit (.int .i64 6), .lit (.int .i64 5), .lit (.int .i64 6)], .agg [.lit (.string [115, 120]), .lit (.int .i64 1), .lit (.int .i64 0), .lit (.int .i64 3), .lit (.int .i64 8), .lit (.int .i64 7)], .agg [.lit (.string [115, 120, 100, 103]), .lit (.int .i64 1), .lit (.int .i64 0), .lit (.int .i64 3), .lit (.int .i64 7), .lit (.int .i64 8)], .agg [.lit (.string [115, 121]), .lit (.int .i64 1), .lit (.int .i64 0), .lit (.int .i64 3), .lit (.int .i64 10), .lit (.int .i64 9)], .agg [.lit (.string [115, 121, 100, 103]), .lit (.int .i64 1), .lit (.int .i64 0), .lit (.int .i64 3), .lit (.int .i64 9), .lit (.int .i64 10)], .agg [.lit (.string [99, 120]), .lit (.int .i64 2), .lit (.int .i64 1), .lit (.int .i64 2), .lit (.int .i64 11), .lit (.int .i64 2)], .agg [.lit (.string [99, 121]), .lit (.int .i64 2), .lit (.int .i64 1), .lit (.int .i64 2), .lit (.int .i64 12), .lit (.int .i64 3)], .agg [.lit (.string [99, 122]), .lit (.int .i64 2), .lit (.int .i64 0), .lit (.int .i64 6), .lit (.int .i64 13), .lit (.int .i64 4)], .agg [.lit (.string [115, 119, 97, 112]), .lit (.int .i64 2), .lit (.int .i64 0), .lit (.int .i64 2), .lit (.int .i64 14), .lit (.int .i64 14)], .agg [.lit (.string [105, 115, 119, 97, 112]), .lit (.int .i64 2), .lit (.int .i64 0), .lit (.int .i64 2), .lit (.int .i64 16), .lit (.int .i64 15)], .agg [.lit (.string [105, 115, 119, 97, 112, 100, 103]), .lit (.int .i64 2), .lit (.int .i64 0), .lit (.int .i64 2), .lit (.int .i64 15), .lit (.int .i64 16)], .agg [.lit (.string [104, 104]), .lit (.int .i64 2), .lit (.int .i64 0), .lit (.int .i64 3), .lit (.int .i64 17), .lit (.int .i64 17)], .agg [.lit (.string [99, 99, 120]), .lit (.int .i64 3), .lit (.int .i64 2), .lit (.int .i64 0), .lit (.int .i64 18), .lit (.int .i64 2)], .agg [.lit (.string [99, 99, 122]), .lit (.int .i64 3), .lit (.int .i64 0), .lit (.int .i64 4), .lit (.int .i64 19), .lit (.int .i64 4)], .agg [.lit (.string [99, 115, 119, 97, 112]), .lit (.int .i64 3), .lit (.int .i64 1), .lit (.int .i64 0), .lit (.int .i64 20), .lit (.int .i64 14)]]
def laid_phasor_pauli_signs {H : Type} : DataW H := .agg [.lit (.string [43]), .lit (.string [43, 105]), .lit (.string [45]), .lit (.string [45, 105])]
def laid_phasor_pauli_images {H : Type} : DataW H := .agg [.agg [.agg [.lit (.string []), .lit (.string []), .lit (.string [])], .agg [.lit (.string []), .lit (.string []), .lit (.string [])]], .agg [.agg [.lit (.string [43, 88]), .lit (.string [43, 89]), .lit (.string [43, 90])], .agg [.lit (.string []), .lit (.string []), .lit (.string [])]], .agg [.agg [.lit (.string [43, 88]), .lit (.string [45, 89]), .lit (.string [45, 90])], .agg [.lit (.string []), .lit (.string []), .lit (.string [])]], .agg [.agg [.lit (.string [45, 88]), .lit (.string [43, 89]), .lit (.string [45, 90])], .agg [.lit (.string []), .lit (.string []), .lit (.string [])]], .agg [.agg [.lit (.string [45, 88]), .lit (.string [45, 89]), .lit (.string [43, 90])], .agg [.lit (.string []), .lit (.string []), .lit (.string [])]], .agg [.agg [.lit (.string [43, 89]), .lit (.string [45, 88]), .lit (.string [43, 90])], .agg [.lit (.string []), .lit (.string []), .lit (.string [])]], .agg [.agg [.lit (.string [45, 89]), .lit (.string [43, 88]), .lit (.string [43, 90])], .agg [.lit (.string []), .lit (.string []), .lit (.string [])]], .agg [.agg [.lit (.string [43, 88]), .lit (.string [43, 90]), .lit (.string [45, 89])], .agg [.lit (.string []), .lit (.string []), .lit (.string [])]], .agg [.agg [.lit (.string [43, 88]), .lit (.string [45, 90]), .lit (.string [43, 89])], .agg [.lit (.string []), .lit (.string []), .lit (.string [])]], .agg [.agg [.lit (.string [45, 90]), .lit (.string [43, 89]), .lit (.string [43, 88])], .agg [.lit (.string []), .lit (.string []), .lit (.string [])]], .agg [.agg [.lit (.string [43, 90]), .lit (.string [43, 89]), .lit (.string [45, 88])], .agg [.lit (.string []), .lit (.string []), .lit (.string [])]], .agg [.agg [.lit (.string [43, 88, 88]), .lit (.string [43, 89, 88]), .lit (.string [43, 90, 73])], .agg [.lit (.string [43, 73, 88]), .lit (.string [43, 90, 89]), .lit (.string [43, 90, 90])]], .agg [.agg [.lit (.string [43, 88, 89]), .lit (.string [43, 89, 89]), .lit (.string [43, 90, 73])], .agg [.lit (.string [43, 90, 88]), .lit (.string [43, 73, 89]), .lit (.string [43, 90, 90])]], .agg [.agg [.lit (.string [43, 88, 90]), .lit (.string [43, 89, 90]), .lit (.string [43, 90, 73])], .agg [.lit (.string [43, 90, 88]), .lit (.string [43, 90, 89]), .lit (.string [43, 73, 90])]], .agg [.agg [.lit (.string [43, 73, 88]), .lit (.string [43, 73, 89]), .lit (.string [43, 73, 90])], .agg [.lit (.string [43, 88, 73]), .lit (.string [43, 89, 73]), .lit (.string [43, 90, 73])]], .agg [.agg [.lit (.string [43, 90, 89]), .lit (.string [45, 90, 88]), .lit (.string [43, 73, 90])], .agg [.lit (.string [43, 89, 90]), .lit (.string [45, 88, 90]), .lit (.string [43, 90, 73])]], .agg [.agg [.lit (.string [45, 90, 89]), .lit (.string [43, 90, 88]), .lit (.string [43, 73, 90])], .agg [.lit (.string [45, 89, 90]), .lit (.string [43, 88, 90]), .lit (.string [43, 90, 73])]], .agg [.agg [.lit (.string [43, 90, 73]), .lit (.string [45, 89, 73]), .lit (.string [43, 88, 73])], .agg [.lit (.string [43, 73, 90]), .lit (.string [45, 73, 89]), .lit (.string [43, 73, 88])]]]

/-- 'phasorlaw13.PauliGroup': WHATEVER THE INPUT: true; the input reads as it did. -/
def pauliGroupSpec : ChangeSpec := { name := "pauliGroup", fn := fun _ => fun
  | [d1, d2, d3] => { results := [.lit (.bool true)], args := [d1, d2, d3] }
  | _ => none }
def pauliGroupRow : OpenClaim := { program := "yteknpejkooemjabdoor", sum := "4281ceb4a995a3c3b85acfef912935b869e3bf7ab4b3fc1441e73a5c24fcdabe", func := "phasor/phasorlaw13.PauliGroup", spec := "pauliGroup", inPlace := ["internal/bytealg.IndexByteString", "internal/abi.NoEscape"], named := ["phasor/pauli.signs", "math/bits.deBruijn32tab", "math/bits.deBruijn64tab", "phasor/gate.table", "phasor/pauli.images"], apart := false, laid := [("math/bits.deBruijn32tab", laid_math_bits_deBruijn32tab), ("math/bits.deBruijn64tab", laid_math_bits_deBruijn64tab), ("phasor/gate.table", laid_phasor_gate_table), ("phasor/pauli.signs", laid_phasor_pauli_signs), ("phasor/pauli.images", laid_phasor_pauli_images)] }
def PauliGroupSaid : Prop := pauliGroupRow.holds Tryd.pinned (OpenSpec.ofChange pauliGroupSpec)

/-- ITS FALSE NEIGHBOUR: 'it returns false'. Refute it at one input. -/
def pauliGroupWrong : ChangeSpec := { name := "pauliGroup", fn := fun _ => fun
  | [d1, d2, d3] => { results := [.lit (.bool false)], args := [d1, d2, d3] }
  | _ => none }
def PauliGroupWrongFalsely : Prop := pauliGroupRow.holds Tryd.pinned (OpenSpec.ofChange pauliGroupWrong)

/-- 'phasorlaw13.PauliCarries': WHATEVER THE INPUT: true; the input reads as it did. -/
def pauliCarriesSpec : ChangeSpec := { name := "pauliCarries", fn := fun _ => fun
  | [d1, d2, d3, d4] => { results := [.lit (.bool true)], args := [d1, d2, d3, d4] }
  | _ => none }
def pauliCarriesRow : OpenClaim := { program := "yteknpejkooemjabdoor", sum := "4281ceb4a995a3c3b85acfef912935b869e3bf7ab4b3fc1441e73a5c24fcdabe", func := "phasor/phasorlaw13.PauliCarries", spec := "pauliCarries", inPlace := ["internal/bytealg.IndexByteString", "internal/abi.NoEscape"], named := ["phasor/gate.table", "phasor/pauli.images", "phasor/pauli.signs", "math/bits.deBruijn32tab", "math/bits.deBruijn64tab"], apart := false, laid := [("math/bits.deBruijn32tab", laid_math_bits_deBruijn32tab), ("math/bits.deBruijn64tab", laid_math_bits_deBruijn64tab), ("phasor/gate.table", laid_phasor_gate_table), ("phasor/pauli.signs", laid_phasor_pauli_signs), ("phasor/pauli.images", laid_phasor_pauli_images)] }
def PauliCarriesSaid : Prop := pauliCarriesRow.holds Tryd.pinned (OpenSpec.ofChange pauliCarriesSpec)

/-- ITS FALSE NEIGHBOUR: 'it returns false'. Refute it at one input. -/
def pauliCarriesWrong : ChangeSpec := { name := "pauliCarries", fn := fun _ => fun
  | [d1, d2, d3, d4] => { results := [.lit (.bool false)], args := [d1, d2, d3, d4] }
  | _ => none }
def PauliCarriesWrongFalsely : Prop := pauliCarriesRow.holds Tryd.pinned (OpenSpec.ofChange pauliCarriesWrong)

/- THE SECOND FORM. 'bulk': how many values and letters a reading holds, each counted each time it is reached (what is shared counts as often as it is met; a slice's spare places count too). A statement '..UptoSaid' is the law's where the arguments, and the package variables that the reading takes, are together of bulk at most 1048576: NARROWER than '..Said'. Prove '..Said' where nothing that the law and all that it calls make is longer than what came in: it says more and counts as full. Else prove '..UptoSaid'. A law counts once. -/
mutual
def uptoBulk {H : Type} : DataW H → Nat
  | .lit (.string bytes) => bytes.length + 1
  | .lit _ => 1
  | .nil => 1
  | .ptr d => uptoBulk d + 1
  | .slice elems spare => uptoBulkAll elems + uptoBulkAll spare + 1
  | .agg parts => uptoBulkAll parts + 1
  | .iface _ d => uptoBulk d + 1
  | .map entries => uptoBulkEntries entries + 1
  | .held _ => 1
def uptoBulkAll {H : Type} : List (DataW H) → Nat
  | [] => 0
  | d :: r => uptoBulk d + uptoBulkAll r
def uptoBulkEntries {H : Type} : List (Lit × DataW H) → Nat
  | [] => 0
  | x :: r => uptoBulkEntry x + uptoBulkEntries r
def uptoBulkEntry {H : Type} : Lit × DataW H → Nat
  | (.string bytes, d) => bytes.length + uptoBulk d + 1
  | (_, d) => uptoBulk d + 1
 end
def uptoSmall : (H : Type) → List (DataW H) → Bool := fun _ ds => decide (uptoBulkAll ds ≤ 1048576)
def OpenSpec.upto (s : _root_.Go.ChangeSpec) : _root_.Go.OpenSpec := { _root_.Go.OpenSpec.ofChange s with cond := some uptoSmall }

/-- 'phasorlaw13.PauliGroup', WHERE WHAT IT READS IS OF BULK AT MOST 1048576: true; the input reads as it did. -/
def pauliGroupUptoRow : OpenClaim := { program := "yteknpejkooemjabdoor", sum := "4281ceb4a995a3c3b85acfef912935b869e3bf7ab4b3fc1441e73a5c24fcdabe", func := "phasor/phasorlaw13.PauliGroup", spec := "pauliGroup", inPlace := ["internal/bytealg.IndexByteString", "internal/abi.NoEscape"], named := ["phasor/pauli.signs", "math/bits.deBruijn32tab", "math/bits.deBruijn64tab", "phasor/gate.table", "phasor/pauli.images"], apart := false, laid := [("math/bits.deBruijn32tab", laid_math_bits_deBruijn32tab), ("math/bits.deBruijn64tab", laid_math_bits_deBruijn64tab), ("phasor/gate.table", laid_phasor_gate_table), ("phasor/pauli.signs", laid_phasor_pauli_signs), ("phasor/pauli.images", laid_phasor_pauli_images)], narrowed := true }
def PauliGroupUptoSaid : Prop := pauliGroupUptoRow.holds Tryd.pinned (OpenSpec.upto pauliGroupSpec)

/-- 'phasorlaw13.PauliCarries', WHERE WHAT IT READS IS OF BULK AT MOST 1048576: true; the input reads as it did. -/
def pauliCarriesUptoRow : OpenClaim := { program := "yteknpejkooemjabdoor", sum := "4281ceb4a995a3c3b85acfef912935b869e3bf7ab4b3fc1441e73a5c24fcdabe", func := "phasor/phasorlaw13.PauliCarries", spec := "pauliCarries", inPlace := ["internal/bytealg.IndexByteString", "internal/abi.NoEscape"], named := ["phasor/gate.table", "phasor/pauli.images", "phasor/pauli.signs", "math/bits.deBruijn32tab", "math/bits.deBruijn64tab"], apart := false, laid := [("math/bits.deBruijn32tab", laid_math_bits_deBruijn32tab), ("math/bits.deBruijn64tab", laid_math_bits_deBruijn64tab), ("phasor/gate.table", laid_phasor_gate_table), ("phasor/pauli.signs", laid_phasor_pauli_signs), ("phasor/pauli.images", laid_phasor_pauli_images)], narrowed := true }
def PauliCarriesUptoSaid : Prop := pauliCarriesUptoRow.holds Tryd.pinned (OpenSpec.upto pauliCarriesSpec)

end Rows
end Go.Proofs.YteknpejkooemjabDoor
