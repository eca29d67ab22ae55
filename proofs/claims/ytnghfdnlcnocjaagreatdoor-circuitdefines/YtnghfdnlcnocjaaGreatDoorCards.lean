/-
  DERIVED. GIVEN WITH THE SEED: THE CARDS: each row of YtnghfdnlcnocjaaGreatDoorRows.lean that lists a variable, with what it lists TIED to the program's text (the seventh form; the later family's looks); each row that meets fmt, with fmt's text TOLD by the authors' own Lean function (tested against real Go, not proved from fmt's source: count such statements apart). THE CARD IS WHAT COUNTS. Prove the row's statement (the work); the ties are given (YtnghfdnlcnocjaaGreatDoorTie.lean); close each card by the builder's one call (the guide's Derived/Test/ToyasCard.lean, 'card_holds'). Laid BY PROGRAM, IN A SANDBOX (cutbox-door.mjs). By AI agents, Wed Nov 11 2026. No macro, syntax, notation, axiom, sorry.
-/
import Derived.Test.YtnghfdnlcnocjaaGreatDoorRows
import GoSem.ClaimSeven
namespace Go.Proofs.YtnghfdnlcnocjaaGreatDoor
namespace Rows

/-- THE TIED CARD OF 'phasorlaw08.CircuitDefines'. -/
def circuitDefinesCard : Claim7 := { stood := { row := circuitDefinesRow, standIns := [], harness := (true, "ffa8de95ec48b69d36615df831a1c5f6f883662fe85d4497e1fe52c02246a05c"), looks := true }, kinds := [], alts := [], laidByText := true, laidKinds := [.data, .sentinel, .sentinel, .data, .data, .data, .data, .handle], laidTests := true, laidLooks := .later }
def CircuitDefinesCardSaid : Prop := Claim7.holds Tryz.pinned (.plain (OpenSpec.ofChange circuitDefinesSpec)) circuitDefinesCard

/-- THE SECOND FORM's CARD OF 'phasorlaw08.CircuitDefines'. -/
def circuitDefinesUptoCard : Claim7 := { stood := { row := circuitDefinesUptoRow, standIns := [], harness := (true, "ffa8de95ec48b69d36615df831a1c5f6f883662fe85d4497e1fe52c02246a05c"), looks := true }, kinds := [], alts := [], laidByText := true, laidKinds := [.data, .sentinel, .sentinel, .data, .data, .data, .data, .handle], laidTests := true, laidLooks := .later }
def CircuitDefinesUptoCardSaid : Prop := Claim7.holds Tryz.pinned (.plain (OpenSpec.upto circuitDefinesSpec)) circuitDefinesUptoCard
end Rows
end Go.Proofs.YtnghfdnlcnocjaaGreatDoor
