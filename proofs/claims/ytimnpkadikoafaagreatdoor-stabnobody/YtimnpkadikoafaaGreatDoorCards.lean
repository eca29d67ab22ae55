/-
  DERIVED. GIVEN WITH THE SEED: THE CARDS: each row of YtimnpkadikoafaaGreatDoorRows.lean that lists a variable, with what it lists TIED to the program's text (the seventh form; the later family's looks); each row that meets fmt, with fmt's text TOLD by the authors' own Lean function (tested against real Go, not proved from fmt's source: count such statements apart). THE CARD IS WHAT COUNTS. Prove the row's statement (the work); the ties are given (YtimnpkadikoafaaGreatDoorTie.lean); close each card by the builder's one call (the guide's Derived/Test/ToyasCard.lean, 'card_holds'). Laid BY PROGRAM, IN A SANDBOX (cutbox-door.mjs). By AI agents, Wed Nov 11 2026. No macro, syntax, notation, axiom, sorry.
-/
import Derived.Test.YtimnpkadikoafaaGreatDoorRows
import GoSem.ClaimSeven
namespace Go.Proofs.YtimnpkadikoafaaGreatDoor
namespace Rows

/-- THE TIED CARD OF 'phasorlaw12.RunNobody'. -/
def runNobodyCard : Claim7 := { stood := { row := runNobodyRow, standIns := [], harness := (true, "04ae7048e00b30f2693365e0269226796329192a42cc8a2018433fe1cc053c0c"), looks := false }, kinds := [], alts := [], laidByText := true, laidKinds := [.data, .data, .data, .data], laidTests := true, laidLooks := .later }
def RunNobodyCardSaid : Prop := Claim7.holds Tryz.pinned (.plain (OpenSpec.ofChange runNobodySpec)) runNobodyCard

/-- THE TIED CARD OF 'phasorlaw15.StabNobody'. -/
def stabNobodyCard : Claim7 := { stood := { row := stabNobodyRow, standIns := [], harness := (true, "04ae7048e00b30f2693365e0269226796329192a42cc8a2018433fe1cc053c0c"), looks := false }, kinds := [], alts := [], laidByText := true, laidKinds := [.data, .data, .data, .data, .data], laidTests := true, laidLooks := .later }
def StabNobodyCardSaid : Prop := Claim7.holds Tryz.pinned (.plain (OpenSpec.ofChange stabNobodySpec)) stabNobodyCard

/-- THE SECOND FORM's CARD OF 'phasorlaw12.RunNobody'. -/
def runNobodyUptoCard : Claim7 := { stood := { row := runNobodyUptoRow, standIns := [], harness := (true, "04ae7048e00b30f2693365e0269226796329192a42cc8a2018433fe1cc053c0c"), looks := false }, kinds := [], alts := [], laidByText := true, laidKinds := [.data, .data, .data, .data], laidTests := true, laidLooks := .later }
def RunNobodyUptoCardSaid : Prop := Claim7.holds Tryz.pinned (.plain (OpenSpec.upto runNobodySpec)) runNobodyUptoCard

/-- THE SECOND FORM's CARD OF 'phasorlaw15.StabNobody'. -/
def stabNobodyUptoCard : Claim7 := { stood := { row := stabNobodyUptoRow, standIns := [], harness := (true, "04ae7048e00b30f2693365e0269226796329192a42cc8a2018433fe1cc053c0c"), looks := false }, kinds := [], alts := [], laidByText := true, laidKinds := [.data, .data, .data, .data, .data], laidTests := true, laidLooks := .later }
def StabNobodyUptoCardSaid : Prop := Claim7.holds Tryz.pinned (.plain (OpenSpec.upto stabNobodySpec)) stabNobodyUptoCard
end Rows
end Go.Proofs.YtimnpkadikoafaaGreatDoor
