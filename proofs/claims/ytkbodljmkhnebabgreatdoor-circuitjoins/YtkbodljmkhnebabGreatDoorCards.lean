/-
  DERIVED. GIVEN WITH THE SEED: THE CARDS: each row of YtkbodljmkhnebabGreatDoorRows.lean that lists a variable, with what it lists TIED to the program's text (the seventh form; the later family's looks); each row that meets fmt, with fmt's text TOLD by the authors' own Lean function (tested against real Go, not proved from fmt's source: count such statements apart). THE CARD IS WHAT COUNTS. Prove the row's statement (the work); the ties are given (YtkbodljmkhnebabGreatDoorTie.lean); close each card by the builder's one call (the guide's Derived/Test/ToyasCard.lean, 'card_holds'). Laid BY PROGRAM, IN A SANDBOX (cutbox-door.mjs). By AI agents, Wed Nov 11 2026. No macro, syntax, notation, axiom, sorry.
-/
import Derived.Test.YtkbodljmkhnebabGreatDoorRows
import GoSem.ClaimSeven
namespace Go.Proofs.YtkbodljmkhnebabGreatDoor
namespace Rows

/-- THE TIED CARD OF 'phasorlaw08.CircuitJoins'. -/
def circuitJoinsCard : Claim7 := { stood := { row := circuitJoinsRow, standIns := [], harness := (true, "91db6a0609a27dbc069ec92178268fc4a9599eb0b2d3bb9eb901ba00466f1a03"), looks := true }, kinds := [], alts := [], laidByText := true, laidKinds := [.data, .data, .data, .handle, .sentinel, .sentinel, .data, .data], laidTests := true, laidLooks := .later }
def CircuitJoinsCardSaid : Prop := Claim7.holds Tryz.pinned (.plain (OpenSpec.ofChange circuitJoinsSpec)) circuitJoinsCard

/-- THE TIED CARD OF 'phasorlaw08.CircuitDefines'. -/
def circuitDefinesCard : Claim7 := { stood := { row := circuitDefinesRow, standIns := [], harness := (true, "91db6a0609a27dbc069ec92178268fc4a9599eb0b2d3bb9eb901ba00466f1a03"), looks := true }, kinds := [], alts := [], laidByText := true, laidKinds := [.data, .data, .data, .handle, .sentinel, .sentinel, .data, .data], laidTests := true, laidLooks := .later }
def CircuitDefinesCardSaid : Prop := Claim7.holds Tryz.pinned (.plain (OpenSpec.ofChange circuitDefinesSpec)) circuitDefinesCard

/-- THE TIED CARD OF 'phasorlaw08.CircuitCompacts'. -/
def circuitCompactsCard : Claim7 := { stood := { row := circuitCompactsRow, standIns := [], harness := (true, "91db6a0609a27dbc069ec92178268fc4a9599eb0b2d3bb9eb901ba00466f1a03"), looks := true }, kinds := [], alts := [], laidByText := true, laidKinds := [.data, .data, .data, .handle, .sentinel, .sentinel, .data, .data], laidTests := true, laidLooks := .later }
def CircuitCompactsCardSaid : Prop := Claim7.holds Tryz.pinned (.plain (OpenSpec.ofChange circuitCompactsSpec)) circuitCompactsCard

/-- THE SECOND FORM's CARD OF 'phasorlaw08.CircuitJoins'. -/
def circuitJoinsUptoCard : Claim7 := { stood := { row := circuitJoinsUptoRow, standIns := [], harness := (true, "91db6a0609a27dbc069ec92178268fc4a9599eb0b2d3bb9eb901ba00466f1a03"), looks := true }, kinds := [], alts := [], laidByText := true, laidKinds := [.data, .data, .data, .handle, .sentinel, .sentinel, .data, .data], laidTests := true, laidLooks := .later }
def CircuitJoinsUptoCardSaid : Prop := Claim7.holds Tryz.pinned (.plain (OpenSpec.upto circuitJoinsSpec)) circuitJoinsUptoCard

/-- THE SECOND FORM's CARD OF 'phasorlaw08.CircuitDefines'. -/
def circuitDefinesUptoCard : Claim7 := { stood := { row := circuitDefinesUptoRow, standIns := [], harness := (true, "91db6a0609a27dbc069ec92178268fc4a9599eb0b2d3bb9eb901ba00466f1a03"), looks := true }, kinds := [], alts := [], laidByText := true, laidKinds := [.data, .data, .data, .handle, .sentinel, .sentinel, .data, .data], laidTests := true, laidLooks := .later }
def CircuitDefinesUptoCardSaid : Prop := Claim7.holds Tryz.pinned (.plain (OpenSpec.upto circuitDefinesSpec)) circuitDefinesUptoCard

/-- THE SECOND FORM's CARD OF 'phasorlaw08.CircuitCompacts'. -/
def circuitCompactsUptoCard : Claim7 := { stood := { row := circuitCompactsUptoRow, standIns := [], harness := (true, "91db6a0609a27dbc069ec92178268fc4a9599eb0b2d3bb9eb901ba00466f1a03"), looks := true }, kinds := [], alts := [], laidByText := true, laidKinds := [.data, .data, .data, .handle, .sentinel, .sentinel, .data, .data], laidTests := true, laidLooks := .later }
def CircuitCompactsUptoCardSaid : Prop := Claim7.holds Tryz.pinned (.plain (OpenSpec.upto circuitCompactsSpec)) circuitCompactsUptoCard
end Rows
end Go.Proofs.YtkbodljmkhnebabGreatDoor
