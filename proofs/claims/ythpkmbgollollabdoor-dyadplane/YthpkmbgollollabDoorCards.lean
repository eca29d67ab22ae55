/-
  DERIVED. GIVEN WITH THE SEED: THE CARDS: each row of YthpkmbgollollabDoorRows.lean that lists a variable, with what it lists TIED to the program's text (the seventh form; the later family's looks); each row that meets fmt, with fmt's text TOLD by the authors' own Lean function (tested against real Go, not proved from fmt's source: count such statements apart). THE CARD IS WHAT COUNTS. Prove the row's statement (the work); the ties are given (YthpkmbgollollabDoorTie.lean); close each card by the builder's one call (the guide's Derived/Test/ToyasCard.lean, 'card_holds'). Laid BY PROGRAM, IN A SANDBOX (cutbox-door.mjs). By AI agents, Wed Nov 11 2026. No macro, syntax, notation, axiom, sorry.
-/
import Derived.Test.YthpkmbgollollabDoorRows
import GoSem.ClaimSeven
namespace Go.Proofs.YthpkmbgollollabDoor
namespace Rows

/-- THE TIED CARD OF 'phasorlaw05.DyadPlane'. -/
def dyadPlaneCard : Claim7 := { stood := { row := dyadPlaneRow, standIns := [], harness := (true, "88e4501f98e1618403f508656ffd96ebaa274b4c24dedc979b047676514d0185"), looks := true }, kinds := [], alts := [], laidByText := true, laidKinds := [.data, .data, .data, .data, .sentinel, .sentinel, .pinned], laidTests := true, laidLooks := .later }
def DyadPlaneCardSaid : Prop := Claim7.holds Tryd.pinned (.plain (OpenSpec.ofChange dyadPlaneSpec)) dyadPlaneCard

/-- THE SECOND FORM's CARD OF 'phasorlaw05.DyadPlane'. -/
def dyadPlaneUptoCard : Claim7 := { stood := { row := dyadPlaneUptoRow, standIns := [], harness := (true, "88e4501f98e1618403f508656ffd96ebaa274b4c24dedc979b047676514d0185"), looks := true }, kinds := [], alts := [], laidByText := true, laidKinds := [.data, .data, .data, .data, .sentinel, .sentinel, .pinned], laidTests := true, laidLooks := .later }
def DyadPlaneUptoCardSaid : Prop := Claim7.holds Tryd.pinned (.plain (OpenSpec.upto dyadPlaneSpec)) dyadPlaneUptoCard
end Rows
end Go.Proofs.YthpkmbgollollabDoor
