/-
  DERIVED. GIVEN WITH THE SEED: THE CARDS: each row of YtijemaahibjejaaGreatDoorRows.lean that lists a variable, with what it lists TIED to the program's text (the seventh form; the later family's looks); each row that meets fmt, with fmt's text TOLD by the authors' own Lean function (tested against real Go, not proved from fmt's source: count such statements apart). THE CARD IS WHAT COUNTS. Prove the row's statement (the work); the ties are given (YtijemaahibjejaaGreatDoorTie.lean); close each card by the builder's one call (the guide's Derived/Test/ToyasCard.lean, 'card_holds'). Laid BY PROGRAM, IN A SANDBOX (cutbox-door.mjs). By AI agents, Wed Nov 11 2026. No macro, syntax, notation, axiom, sorry.
-/
import Derived.Test.YtijemaahibjejaaGreatDoorRows
import GoSem.ClaimSeven
namespace Go.Proofs.YtijemaahibjejaaGreatDoor
namespace Rows

/-- THE TIED CARD OF 'phasorlaw08.CircuitCompacts'. -/
def circuitCompactsCard : Claim7 := { stood := { row := circuitCompactsRow, standIns := [], harness := (true, "86435b7e22d0573ddb53fd0a7e07838b9f7631d24a265ffbe86661920685d317"), looks := true }, kinds := [], alts := [], laidByText := true, laidKinds := [.data, .data, .data, .handle, .sentinel, .sentinel, .data, .data], laidTests := true, laidLooks := .later }
def CircuitCompactsCardSaid : Prop := Claim7.holds Tryz.pinned (.plain (OpenSpec.ofChange circuitCompactsSpec)) circuitCompactsCard

/-- THE SECOND FORM's CARD OF 'phasorlaw08.CircuitCompacts'. -/
def circuitCompactsUptoCard : Claim7 := { stood := { row := circuitCompactsUptoRow, standIns := [], harness := (true, "86435b7e22d0573ddb53fd0a7e07838b9f7631d24a265ffbe86661920685d317"), looks := true }, kinds := [], alts := [], laidByText := true, laidKinds := [.data, .data, .data, .handle, .sentinel, .sentinel, .data, .data], laidTests := true, laidLooks := .later }
def CircuitCompactsUptoCardSaid : Prop := Claim7.holds Tryz.pinned (.plain (OpenSpec.upto circuitCompactsSpec)) circuitCompactsUptoCard
end Rows
end Go.Proofs.YtijemaahibjejaaGreatDoor
