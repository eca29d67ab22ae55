/-
  DERIVED. GIVEN WITH THE SEED: THE CARDS: each row of YtiikacjihagolaaGreatDoorRows.lean that lists a variable, with what it lists TIED to the program's text (the seventh form; the later family's looks); each row that meets fmt, with fmt's text TOLD by the authors' own Lean function (tested against real Go, not proved from fmt's source: count such statements apart). THE CARD IS WHAT COUNTS. Prove the row's statement (the work); the ties are given (YtiikacjihagolaaGreatDoorTie.lean); close each card by the builder's one call (the guide's Derived/Test/ToyasCard.lean, 'card_holds'). Laid BY PROGRAM, IN A SANDBOX (cutbox-door.mjs). By AI agents, Wed Nov 11 2026. No macro, syntax, notation, axiom, sorry.
-/
import Derived.Test.YtiikacjihagolaaGreatDoorRows
import GoSem.ClaimSeven
namespace Go.Proofs.YtiikacjihagolaaGreatDoor
namespace Rows

/-- THE TIED CARD OF 'phasorlaw12.RunNobody'. -/
def runNobodyCard : Claim7 := { stood := { row := runNobodyRow, standIns := [], harness := (true, "90ec2321214cbaa922b7413cbc77f2734b8ee020e3c1b9b70438b46747ab6dcf"), looks := false }, kinds := [], alts := [], laidByText := true, laidKinds := [.data, .data, .data, .data], laidTests := true, laidLooks := .later }
def RunNobodyCardSaid : Prop := Claim7.holds Tryz.pinned (.plain (OpenSpec.ofChange runNobodySpec)) runNobodyCard

/-- THE SECOND FORM's CARD OF 'phasorlaw12.RunNobody'. -/
def runNobodyUptoCard : Claim7 := { stood := { row := runNobodyUptoRow, standIns := [], harness := (true, "90ec2321214cbaa922b7413cbc77f2734b8ee020e3c1b9b70438b46747ab6dcf"), looks := false }, kinds := [], alts := [], laidByText := true, laidKinds := [.data, .data, .data, .data], laidTests := true, laidLooks := .later }
def RunNobodyUptoCardSaid : Prop := Claim7.holds Tryz.pinned (.plain (OpenSpec.upto runNobodySpec)) runNobodyUptoCard
end Rows
end Go.Proofs.YtiikacjihagolaaGreatDoor
