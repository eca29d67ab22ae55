/-
  NARROWER THAN 'FOR EVERY INPUT', by the rows' own cells (each row's printed sentence says how): GateMatrices: laid · GateComposes: laid · GateCommutes: laid · GateApart: laid · GateSpells: laid.
  DERIVED. THE GIVEN ROWS OF THIS SEAT. 5 by the template 'for every input the law returns true; each argument reads behind the call as it read before'; 0 by the template 'total and deterministic' (their statements: YtnhdgellckcnbaaDoorTotals.lean).
  GIVEN WITH THE SEED: the statements are not yours to turn. If you find one false, say at which input.
  Laid BY PROGRAM, IN A SANDBOX (cutbox-rows.mjs): the forced cells as the released guide's own fill.sh prints them over the translation 392998f302cc71d5… (all of the seat's roots in one cut). By AI agents, Wed Nov 11 2026. No macro, syntax, notation, axiom, sorry.
-/
import Derived.Test.YtnhdgellckcnbaaDoorChecked
import GoSem.Claim
import GoSem.ClaimJoined
import GoSem.ClaimMapViews
import Derived.JoinedTies
import Derived.KernelRfl
namespace Go.Proofs.YtnhdgellckcnbaaDoor
/- THE CELL 'sum', in the pinned program and in every row, IS THE sha256 OF THE DUMP (.gsa) THAT YtnhdgellckcnbaaDoorProg.lean LOADS. Nothing in Lean hashes anything: it is a label: what it is worth is what the hold of that sum in a sandbox is worth. -/
noncomputable def Tryd.pinned : Pinned := { name := "ytnhdgellckcnbaadoor", sum := "392998f302cc71d554e08505332a65e41e9e1a8db424cfb1d7a73cc8ba6eea0c", checked := Tryd.checked }
namespace Rows
def none {H : Type} : Left H := { results := [], args := [] }

/- WHAT THE LISTED PACKAGE-LEVEL VARIABLES READ AS WHEN THE CALL BEGINS. Each datum BY PROGRAM (the guide's laid-datum.mjs) off the statement by which the dump's own 'gosem.cut.vars' lays the variable. In a bare row this is a premise. The card (YtnhdgellckcnbaaDoorCards.lean) ties it to the program's text. -/
def laid_phasor_gate_table {H : Type} : DataW H := .agg [.agg [.lit (.string []), .lit (.int .i64 0), .lit (.int .i64 0), .lit (.int .i64 0), .lit (.int .i64 0), .lit (.int .i64 0)], .agg [.lit (.string [105, 100]), .lit (.int .i64 1), .lit (.int .i64 0), .lit (.int .i64 6), .lit (.int .i64 1), .lit (.int .i64 1)], .agg [.lit (.string [120]), .lit (.int .i64 1), .lit (.int .i64 0), .lit (.int .i64 2), .lit (.int .i64 2), .lit (.int .i64 2)], .agg [.lit (.string [121]), .lit (.int .i64 1), .lit (.int .i64 0), .lit (.int .i64 2), .lit (.int .i64 3), .lit (.int .i64 3)], .agg [.lit (.string [122]), .lit (.int .i64 1), .lit (.int .i64 0), .lit (.int .i64 6), .lit (.int .i64 4), .lit (.int .i64 4)], .agg [.lit (.string [115]), .lit (.int .i64 1), .lit (.int .i64 0), .lit (.int .i64 6), .lit (.int .i64 6), .lit (.int .i64 5)], .agg [.lit (.string [115, 100, 103]), .lit (.int .i64 1), .lit (.int .i64 0), .lit (.int .i64 6), .lit (.int .i64 5), .lit (.int .i64 6)], .agg [.lit (.string [115, 120]), .lit (.int .i64 1), .lit (.int .i64 0), .lit (.int .i64 3), .lit (.int .i64 8), .lit (.int .i64 7)], .agg [.lit (.string [115, 120, 100, 103]), .lit (.int .i64 1), .lit (.int .i64 0), .lit (.int .i64 3), .lit (.int .i64 7), .lit (.int .i64 8)], .agg [.lit (.string [115, 121]), .lit (.int .i64 1), .lit (.int .i64 0), .lit (.int .i64 3), .lit (.int .i64 10), .lit (.int .i64 9)], .agg [.lit (.string [115, 121, 100, 103]), .lit (.int .i64 1), .lit (.int .i64 0), .lit (.int .i64 3), .lit (.int .i64 9), .lit (.int .i64 10)], .agg [.lit (.string [99, 120]), .lit (.int .i64 2), .lit (.int .i64 1), .lit (.int .i64 2), .lit (.int .i64 11), .lit (.int .i64 2)], .agg [.lit (.string [99, 121]), .lit (.int .i64 2), .lit (.int .i64 1), .lit (.int .i64 2), .lit (.int .i64 12), .lit (.int .i64 3)], .agg [.lit (.string [99, 122]), .lit (.int .i64 2), .lit (.int .i64 0), .lit (.int .i64 6), .lit (.int .i64 13), .lit (.int .i64 4)], .agg [.lit (.string [115, 119, 97, 112]), .lit (.int .i64 2), .lit (.int .i64 0), .lit (.int .i64 2), .lit (.int .i64 14), .lit (.int .i64 14)], .agg [.lit (.string [105, 115, 119, 97, 112]), .lit (.int .i64 2), .lit (.int .i64 0), .lit (.int .i64 2), .lit (.int .i64 16), .lit (.int .i64 15)], .agg [.lit (.string [105, 115, 119, 97, 112, 100, 103]), .lit (.int .i64 2), .lit (.int .i64 0), .lit (.int .i64 2), .lit (.int .i64 15), .lit (.int .i64 16)], .agg [.lit (.string [104, 104]), .lit (.int .i64 2), .lit (.int .i64 0), .lit (.int .i64 3), .lit (.int .i64 17), .lit (.int .i64 17)], .agg [.lit (.string [99, 99, 120]), .lit (.int .i64 3), .lit (.int .i64 2), .lit (.int .i64 0), .lit (.int .i64 18), .lit (.int .i64 2)], .agg [.lit (.string [99, 99, 122]), .lit (.int .i64 3), .lit (.int .i64 0), .lit (.int .i64 4), .lit (.int .i64 19), .lit (.int .i64 4)], .agg [.lit (.string [99, 115, 119, 97, 112]), .lit (.int .i64 3), .lit (.int .i64 1), .lit (.int .i64 0), .lit (.int .i64 20), .lit (.int .i64 14)]]
def laid_phasor_gate_deeds {H : Type} : DataW H := .agg [.agg [.agg [.lit (.int .i64 0), .lit (.int .i64 0), .lit (.int .i64 0), .lit (.int .i64 0)], .agg [.lit (.int .i64 0), .lit (.int .i64 0), .lit (.int .i64 0), .lit (.int .i64 0)]], .agg [.agg [.lit (.int .i64 0), .lit (.int .i64 1), .lit (.int .i64 0), .lit (.int .i64 0)], .agg [.lit (.int .i64 0), .lit (.int .i64 0), .lit (.int .i64 0), .lit (.int .i64 0)]], .agg [.agg [.lit (.int .i64 1), .lit (.int .i64 0), .lit (.int .i64 0), .lit (.int .i64 0)], .agg [.lit (.int .i64 0), .lit (.int .i64 0), .lit (.int .i64 0), .lit (.int .i64 0)]], .agg [.agg [.lit (.int .i64 1), .lit (.int .i64 0), .lit (.int .i64 0), .lit (.int .i64 0)], .agg [.lit (.int .i64 1), .lit (.int .i64 3), .lit (.int .i64 0), .lit (.int .i64 0)]], .agg [.agg [.lit (.int .i64 0), .lit (.int .i64 1), .lit (.int .i64 0), .lit (.int .i64 0)], .agg [.lit (.int .i64 0), .lit (.int .i64 2), .lit (.int .i64 0), .lit (.int .i64 0)]], .agg [.agg [.lit (.int .i64 0), .lit (.int .i64 1), .lit (.int .i64 0), .lit (.int .i64 0)], .agg [.lit (.int .i64 0), .lit (.int .i64 1), .lit (.int .i64 0), .lit (.int .i64 0)]], .agg [.agg [.lit (.int .i64 0), .lit (.int .i64 1), .lit (.int .i64 0), .lit (.int .i64 0)], .agg [.lit (.int .i64 0), .lit (.int .i64 3), .lit (.int .i64 0), .lit (.int .i64 0)]], .agg [.agg [.lit (.int .i64 0), .lit (.int .i64 0), .lit (.int .i64 0), .lit (.int .i64 0)], .agg [.lit (.int .i64 0), .lit (.int .i64 0), .lit (.int .i64 0), .lit (.int .i64 0)]], .agg [.agg [.lit (.int .i64 0), .lit (.int .i64 0), .lit (.int .i64 0), .lit (.int .i64 0)], .agg [.lit (.int .i64 0), .lit (.int .i64 0), .lit (.int .i64 0), .lit (.int .i64 0)]], .agg [.agg [.lit (.int .i64 0), .lit (.int .i64 0), .lit (.int .i64 0), .lit (.int .i64 0)], .agg [.lit (.int .i64 0), .lit (.int .i64 0), .lit (.int .i64 0), .lit (.int .i64 0)]], .agg [.agg [.lit (.int .i64 0), .lit (.int .i64 0), .lit (.int .i64 0), .lit (.int .i64 0)], .agg [.lit (.int .i64 0), .lit (.int .i64 0), .lit (.int .i64 0), .lit (.int .i64 0)]], .agg [.agg [.lit (.int .i64 0), .lit (.int .i64 0), .lit (.int .i64 0), .lit (.int .i64 0)], .agg [.lit (.int .i64 0), .lit (.int .i64 0), .lit (.int .i64 0), .lit (.int .i64 0)]], .agg [.agg [.lit (.int .i64 0), .lit (.int .i64 0), .lit (.int .i64 0), .lit (.int .i64 0)], .agg [.lit (.int .i64 0), .lit (.int .i64 0), .lit (.int .i64 0), .lit (.int .i64 0)]], .agg [.agg [.lit (.int .i64 0), .lit (.int .i64 0), .lit (.int .i64 0), .lit (.int .i64 0)], .agg [.lit (.int .i64 0), .lit (.int .i64 0), .lit (.int .i64 0), .lit (.int .i64 0)]], .agg [.agg [.lit (.int .i64 0), .lit (.int .i64 2), .lit (.int .i64 1), .lit (.int .i64 3)], .agg [.lit (.int .i64 0), .lit (.int .i64 0), .lit (.int .i64 0), .lit (.int .i64 0)]], .agg [.agg [.lit (.int .i64 0), .lit (.int .i64 2), .lit (.int .i64 1), .lit (.int .i64 3)], .agg [.lit (.int .i64 0), .lit (.int .i64 1), .lit (.int .i64 1), .lit (.int .i64 0)]], .agg [.agg [.lit (.int .i64 0), .lit (.int .i64 2), .lit (.int .i64 1), .lit (.int .i64 3)], .agg [.lit (.int .i64 0), .lit (.int .i64 3), .lit (.int .i64 3), .lit (.int .i64 0)]]]

/-- 'phasorlaw06.GateMatrices': WHATEVER THE INPUT: true; the input reads as it did. -/
def gateMatricesSpec : ChangeSpec := { name := "gateMatrices", fn := fun _ => fun
  | [d1, d2] => { results := [.lit (.bool true)], args := [d1, d2] }
  | _ => none }
def gateMatricesRow : OpenClaim := { program := "ytnhdgellckcnbaadoor", sum := "392998f302cc71d554e08505332a65e41e9e1a8db424cfb1d7a73cc8ba6eea0c", func := "phasor/phasorlaw06.GateMatrices", spec := "gateMatrices", inPlace := ["math.Float64bits"], unfollowed := true, recurses := true, named := ["phasor/gate.table", "phasor/gate.deeds"], apart := false, laid := [("phasor/gate.table", laid_phasor_gate_table), ("phasor/gate.deeds", laid_phasor_gate_deeds)] }
def GateMatricesSaid : Prop := gateMatricesRow.holds Tryd.pinned (OpenSpec.ofChange gateMatricesSpec)

/-- ITS FALSE NEIGHBOUR: 'it returns false'. Refute it at one input. -/
def gateMatricesWrong : ChangeSpec := { name := "gateMatrices", fn := fun _ => fun
  | [d1, d2] => { results := [.lit (.bool false)], args := [d1, d2] }
  | _ => none }
def GateMatricesWrongFalsely : Prop := gateMatricesRow.holds Tryd.pinned (OpenSpec.ofChange gateMatricesWrong)

/-- 'phasorlaw06.GateComposes': WHATEVER THE INPUT: true; the input reads as it did. -/
def gateComposesSpec : ChangeSpec := { name := "gateComposes", fn := fun _ => fun
  | [d1, d2] => { results := [.lit (.bool true)], args := [d1, d2] }
  | _ => none }
def gateComposesRow : OpenClaim := { program := "ytnhdgellckcnbaadoor", sum := "392998f302cc71d554e08505332a65e41e9e1a8db424cfb1d7a73cc8ba6eea0c", func := "phasor/phasorlaw06.GateComposes", spec := "gateComposes", unfollowed := true, recurses := true, named := ["phasor/gate.table", "phasor/gate.deeds"], apart := false, laid := [("phasor/gate.table", laid_phasor_gate_table), ("phasor/gate.deeds", laid_phasor_gate_deeds)] }
def GateComposesSaid : Prop := gateComposesRow.holds Tryd.pinned (OpenSpec.ofChange gateComposesSpec)

/-- ITS FALSE NEIGHBOUR: 'it returns false'. Refute it at one input. -/
def gateComposesWrong : ChangeSpec := { name := "gateComposes", fn := fun _ => fun
  | [d1, d2] => { results := [.lit (.bool false)], args := [d1, d2] }
  | _ => none }
def GateComposesWrongFalsely : Prop := gateComposesRow.holds Tryd.pinned (OpenSpec.ofChange gateComposesWrong)

/-- 'phasorlaw06.GateCommutes': WHATEVER THE INPUT: true; the input reads as it did. -/
def gateCommutesSpec : ChangeSpec := { name := "gateCommutes", fn := fun _ => fun
  | [d1, d2, d3, d4] => { results := [.lit (.bool true)], args := [d1, d2, d3, d4] }
  | _ => none }
def gateCommutesRow : OpenClaim := { program := "ytnhdgellckcnbaadoor", sum := "392998f302cc71d554e08505332a65e41e9e1a8db424cfb1d7a73cc8ba6eea0c", func := "phasor/phasorlaw06.GateCommutes", spec := "gateCommutes", unfollowed := true, recurses := true, named := ["phasor/gate.table", "phasor/gate.deeds"], apart := false, laid := [("phasor/gate.table", laid_phasor_gate_table), ("phasor/gate.deeds", laid_phasor_gate_deeds)] }
def GateCommutesSaid : Prop := gateCommutesRow.holds Tryd.pinned (OpenSpec.ofChange gateCommutesSpec)

/-- ITS FALSE NEIGHBOUR: 'it returns false'. Refute it at one input. -/
def gateCommutesWrong : ChangeSpec := { name := "gateCommutes", fn := fun _ => fun
  | [d1, d2, d3, d4] => { results := [.lit (.bool false)], args := [d1, d2, d3, d4] }
  | _ => none }
def GateCommutesWrongFalsely : Prop := gateCommutesRow.holds Tryd.pinned (OpenSpec.ofChange gateCommutesWrong)

/-- 'phasorlaw06.GateApart': WHATEVER THE INPUT: true; the input reads as it did. -/
def gateApartSpec : ChangeSpec := { name := "gateApart", fn := fun _ => fun
  | [d1, d2, d3, d4] => { results := [.lit (.bool true)], args := [d1, d2, d3, d4] }
  | _ => none }
def gateApartRow : OpenClaim := { program := "ytnhdgellckcnbaadoor", sum := "392998f302cc71d554e08505332a65e41e9e1a8db424cfb1d7a73cc8ba6eea0c", func := "phasor/phasorlaw06.GateApart", spec := "gateApart", unfollowed := true, recurses := true, named := ["phasor/gate.table", "phasor/gate.deeds"], apart := false, laid := [("phasor/gate.table", laid_phasor_gate_table), ("phasor/gate.deeds", laid_phasor_gate_deeds)] }
def GateApartSaid : Prop := gateApartRow.holds Tryd.pinned (OpenSpec.ofChange gateApartSpec)

/-- ITS FALSE NEIGHBOUR: 'it returns false'. Refute it at one input. -/
def gateApartWrong : ChangeSpec := { name := "gateApart", fn := fun _ => fun
  | [d1, d2, d3, d4] => { results := [.lit (.bool false)], args := [d1, d2, d3, d4] }
  | _ => none }
def GateApartWrongFalsely : Prop := gateApartRow.holds Tryd.pinned (OpenSpec.ofChange gateApartWrong)

/-- 'phasorlaw06.GateSpells': WHATEVER THE INPUT: true; the input reads as it did. -/
def gateSpellsSpec : ChangeSpec := { name := "gateSpells", fn := fun _ => fun
  | [d] => { results := [.lit (.bool true)], args := [d] }
  | _ => none }
def gateSpellsRow : OpenClaim := { program := "ytnhdgellckcnbaadoor", sum := "392998f302cc71d554e08505332a65e41e9e1a8db424cfb1d7a73cc8ba6eea0c", func := "phasor/phasorlaw06.GateSpells", spec := "gateSpells", unfollowed := true, recurses := true, named := ["phasor/gate.table", "phasor/gate.deeds"], apart := false, laid := [("phasor/gate.table", laid_phasor_gate_table), ("phasor/gate.deeds", laid_phasor_gate_deeds)] }
def GateSpellsSaid : Prop := gateSpellsRow.holds Tryd.pinned (OpenSpec.ofChange gateSpellsSpec)

/-- ITS FALSE NEIGHBOUR: 'it returns false'. Refute it at one input. -/
def gateSpellsWrong : ChangeSpec := { name := "gateSpells", fn := fun _ => fun
  | [d] => { results := [.lit (.bool false)], args := [d] }
  | _ => none }
def GateSpellsWrongFalsely : Prop := gateSpellsRow.holds Tryd.pinned (OpenSpec.ofChange gateSpellsWrong)

/- THE SECOND FORM. 'bulk': how many values and letters a reading holds, each counted each time it is reached (what is shared counts as often as it is met; a slice's spare places count too). A statement '..UptoSaid' is the law's where the arguments, and the package variables that the reading takes, are together of bulk at most 1048576: NARROWER than '..Said'. Prove '..Said' where nothing that the law and all that it calls make is longer than what came in: it says more and counts as full. Else prove '..UptoSaid'. A law counts once. -/
mutual
def uptoBulk {H : Type} : DataW H → Nat
  | .lit (.string bytes) => bytes.length + 1
  | .lit _ => 1
  | .nil => 1
  | .ptr d => uptoBulk d + 1
  | .slice elems spare => uptoBulkAll elems + uptoBulkAll spare + 1
  | .agg parts => uptoBulkAll parts + 1
  | .iface _ d => uptoBulk d + 1
  | .map entries => uptoBulkEntries entries + 1
  | .held _ => 1
def uptoBulkAll {H : Type} : List (DataW H) → Nat
  | [] => 0
  | d :: r => uptoBulk d + uptoBulkAll r
def uptoBulkEntries {H : Type} : List (Lit × DataW H) → Nat
  | [] => 0
  | x :: r => uptoBulkEntry x + uptoBulkEntries r
def uptoBulkEntry {H : Type} : Lit × DataW H → Nat
  | (.string bytes, d) => bytes.length + uptoBulk d + 1
  | (_, d) => uptoBulk d + 1
 end
def uptoSmall : (H : Type) → List (DataW H) → Bool := fun _ ds => decide (uptoBulkAll ds ≤ 1048576)
def OpenSpec.upto (s : _root_.Go.ChangeSpec) : _root_.Go.OpenSpec := { _root_.Go.OpenSpec.ofChange s with cond := some uptoSmall }

/-- 'phasorlaw06.GateMatrices', WHERE WHAT IT READS IS OF BULK AT MOST 1048576: true; the input reads as it did. -/
def gateMatricesUptoRow : OpenClaim := { program := "ytnhdgellckcnbaadoor", sum := "392998f302cc71d554e08505332a65e41e9e1a8db424cfb1d7a73cc8ba6eea0c", func := "phasor/phasorlaw06.GateMatrices", spec := "gateMatrices", inPlace := ["math.Float64bits"], unfollowed := true, recurses := true, named := ["phasor/gate.table", "phasor/gate.deeds"], apart := false, laid := [("phasor/gate.table", laid_phasor_gate_table), ("phasor/gate.deeds", laid_phasor_gate_deeds)], narrowed := true }
def GateMatricesUptoSaid : Prop := gateMatricesUptoRow.holds Tryd.pinned (OpenSpec.upto gateMatricesSpec)

/-- 'phasorlaw06.GateComposes', WHERE WHAT IT READS IS OF BULK AT MOST 1048576: true; the input reads as it did. -/
def gateComposesUptoRow : OpenClaim := { program := "ytnhdgellckcnbaadoor", sum := "392998f302cc71d554e08505332a65e41e9e1a8db424cfb1d7a73cc8ba6eea0c", func := "phasor/phasorlaw06.GateComposes", spec := "gateComposes", unfollowed := true, recurses := true, named := ["phasor/gate.table", "phasor/gate.deeds"], apart := false, laid := [("phasor/gate.table", laid_phasor_gate_table), ("phasor/gate.deeds", laid_phasor_gate_deeds)], narrowed := true }
def GateComposesUptoSaid : Prop := gateComposesUptoRow.holds Tryd.pinned (OpenSpec.upto gateComposesSpec)

/-- 'phasorlaw06.GateCommutes', WHERE WHAT IT READS IS OF BULK AT MOST 1048576: true; the input reads as it did. -/
def gateCommutesUptoRow : OpenClaim := { program := "ytnhdgellckcnbaadoor", sum := "392998f302cc71d554e08505332a65e41e9e1a8db424cfb1d7a73cc8ba6eea0c", func := "phasor/phasorlaw06.GateCommutes", spec := "gateCommutes", unfollowed := true, recurses := true, named := ["phasor/gate.table", "phasor/gate.deeds"], apart := false, laid := [("phasor/gate.table", laid_phasor_gate_table), ("phasor/gate.deeds", laid_phasor_gate_deeds)], narrowed := true }
def GateCommutesUptoSaid : Prop := gateCommutesUptoRow.holds Tryd.pinned (OpenSpec.upto gateCommutesSpec)

/-- 'phasorlaw06.GateApart', WHERE WHAT IT READS IS OF BULK AT MOST 1048576: true; the input reads as it did. -/
def gateApartUptoRow : OpenClaim := { program := "ytnhdgellckcnbaadoor", sum := "392998f302cc71d554e08505332a65e41e9e1a8db424cfb1d7a73cc8ba6eea0c", func := "phasor/phasorlaw06.GateApart", spec := "gateApart", unfollowed := true, recurses := true, named := ["phasor/gate.table", "phasor/gate.deeds"], apart := false, laid := [("phasor/gate.table", laid_phasor_gate_table), ("phasor/gate.deeds", laid_phasor_gate_deeds)], narrowed := true }
def GateApartUptoSaid : Prop := gateApartUptoRow.holds Tryd.pinned (OpenSpec.upto gateApartSpec)

/-- 'phasorlaw06.GateSpells', WHERE WHAT IT READS IS OF BULK AT MOST 1048576: true; the input reads as it did. -/
def gateSpellsUptoRow : OpenClaim := { program := "ytnhdgellckcnbaadoor", sum := "392998f302cc71d554e08505332a65e41e9e1a8db424cfb1d7a73cc8ba6eea0c", func := "phasor/phasorlaw06.GateSpells", spec := "gateSpells", unfollowed := true, recurses := true, named := ["phasor/gate.table", "phasor/gate.deeds"], apart := false, laid := [("phasor/gate.table", laid_phasor_gate_table), ("phasor/gate.deeds", laid_phasor_gate_deeds)], narrowed := true }
def GateSpellsUptoSaid : Prop := gateSpellsUptoRow.holds Tryd.pinned (OpenSpec.upto gateSpellsSpec)

end Rows
end Go.Proofs.YtnhdgellckcnbaaDoor
