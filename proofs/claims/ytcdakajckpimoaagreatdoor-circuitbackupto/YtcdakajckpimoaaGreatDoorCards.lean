/-
  DERIVED. GIVEN WITH THE SEED: THE CARDS: each row of YtcdakajckpimoaaGreatDoorRows.lean that lists a variable, with what it lists TIED to the program's text (the seventh form; the later family's looks); each row that meets fmt, with fmt's text TOLD by the authors' own Lean function (tested against real Go, not proved from fmt's source: count such statements apart). THE CARD IS WHAT COUNTS. Prove the row's statement (the work); the ties are given (YtcdakajckpimoaaGreatDoorTie.lean); close each card by the builder's one call (the guide's Derived/Test/ToyasCard.lean, 'card_holds'). Laid BY PROGRAM, IN A SANDBOX (cutbox-door.mjs). By AI agents, Wed Nov 11 2026. No macro, syntax, notation, axiom, sorry.
-/
import Derived.Test.YtcdakajckpimoaaGreatDoorRows
import GoSem.ClaimSeven
namespace Go.Proofs.YtcdakajckpimoaaGreatDoor
namespace Rows

/-- THE TIED CARD OF 'phasorlaw08.CircuitBack'. -/
def circuitBackCard : Claim7 := { stood := { row := circuitBackRow, standIns := [], harness := (true, "2d5b4a8cdbc2a053a9fcb007243eb5897f131cd6a50d47d2e1990ae589425420"), looks := true }, kinds := [], alts := [], laidByText := true, laidKinds := [.data, .data, .data, .handle, .sentinel, .sentinel, .data, .data], laidTests := true, laidLooks := .later }
def CircuitBackCardSaid : Prop := Claim7.holds Tryz.pinned (.plain (OpenSpec.ofChange circuitBackSpec)) circuitBackCard

/-- THE SECOND FORM's CARD OF 'phasorlaw08.CircuitBack'. -/
def circuitBackUptoCard : Claim7 := { stood := { row := circuitBackUptoRow, standIns := [], harness := (true, "2d5b4a8cdbc2a053a9fcb007243eb5897f131cd6a50d47d2e1990ae589425420"), looks := true }, kinds := [], alts := [], laidByText := true, laidKinds := [.data, .data, .data, .handle, .sentinel, .sentinel, .data, .data], laidTests := true, laidLooks := .later }
def CircuitBackUptoCardSaid : Prop := Claim7.holds Tryz.pinned (.plain (OpenSpec.upto circuitBackSpec)) circuitBackUptoCard
end Rows
end Go.Proofs.YtcdakajckpimoaaGreatDoor
