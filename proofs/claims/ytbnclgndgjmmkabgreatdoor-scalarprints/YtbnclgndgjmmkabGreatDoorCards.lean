/-
  DERIVED. GIVEN WITH THE SEED: THE CARDS: each row of YtbnclgndgjmmkabGreatDoorRows.lean that lists a variable, with what it lists TIED to the program's text (the seventh form; the later family's looks); each row that meets fmt, with fmt's text TOLD by the authors' own Lean function (tested against real Go, not proved from fmt's source: count such statements apart). THE CARD IS WHAT COUNTS. Prove the row's statement (the work); the ties are given (YtbnclgndgjmmkabGreatDoorTie.lean); close each card by the builder's one call (the guide's Derived/Test/ToyasCard.lean, 'card_holds'). Laid BY PROGRAM, IN A SANDBOX (cutbox-door.mjs). By AI agents, Wed Nov 11 2026. No macro, syntax, notation, axiom, sorry.
-/
import Derived.Test.YtbnclgndgjmmkabGreatDoorRows
import GoSem.ClaimSeven
namespace Go.Proofs.YtbnclgndgjmmkabGreatDoor
namespace Rows

/-- THE TIED CARD OF 'phasorlaw02.ScalarSums'. -/
def scalarSumsCard : Claim7 := { stood := { row := scalarSumsRow, standIns := [], harness := (true, "ff2f6f5625ee9c2c494208e46102125342ad32a3e2f8cc7c62709b4b8afb4860"), looks := true }, kinds := [], alts := [], laidByText := true, laidKinds := [.data, .data, .data, .data, .sentinel, .sentinel, .pinned, .pinned], laidTests := true, laidLooks := .later }
def ScalarSumsCardSaid : Prop := Claim7.holds Tryz.pinned (.plain (OpenSpec.ofChange scalarSumsSpec)) scalarSumsCard

/-- THE TIED CARD OF 'phasorlaw02.ScalarWhole'. -/
def scalarWholeCard : Claim7 := { stood := { row := scalarWholeRow, standIns := [], harness := (true, "ff2f6f5625ee9c2c494208e46102125342ad32a3e2f8cc7c62709b4b8afb4860"), looks := true }, kinds := [], alts := [], laidByText := true, laidKinds := [.data, .data, .data, .data, .sentinel, .sentinel, .pinned, .pinned], laidTests := true, laidLooks := .later }
def ScalarWholeCardSaid : Prop := Claim7.holds Tryz.pinned (.plain (OpenSpec.ofChange scalarWholeSpec)) scalarWholeCard

/-- THE TIED CARD OF 'phasorlaw02.ScalarPrints'. -/
def scalarPrintsCard : Claim7 := { stood := { row := scalarPrintsRow, standIns := [], harness := (true, "ff2f6f5625ee9c2c494208e46102125342ad32a3e2f8cc7c62709b4b8afb4860"), looks := true }, kinds := [], alts := [], laidByText := true, laidKinds := [.data, .data, .data, .data, .sentinel, .sentinel, .pinned, .pinned], laidTests := true, laidLooks := .later }
def ScalarPrintsCardSaid : Prop := Claim7.holds Tryz.pinned (.plain (OpenSpec.ofChange scalarPrintsSpec)) scalarPrintsCard

/-- THE TIED CARD OF 'phasorlaw02.ScalarParses'. -/
def scalarParsesCard : Claim7 := { stood := { row := scalarParsesRow, standIns := [], harness := (true, "ff2f6f5625ee9c2c494208e46102125342ad32a3e2f8cc7c62709b4b8afb4860"), looks := true }, kinds := [], alts := [], laidByText := true, laidKinds := [.data, .data, .data, .data, .sentinel, .sentinel, .pinned, .pinned], laidTests := true, laidLooks := .later }
def ScalarParsesCardSaid : Prop := Claim7.holds Tryz.pinned (.plain (OpenSpec.ofChange scalarParsesSpec)) scalarParsesCard

/-- THE TIED CARD OF 'phasorlaw02.ScalarFixed'. -/
def scalarFixedCard : Claim7 := { stood := { row := scalarFixedRow, standIns := [], harness := (true, "ff2f6f5625ee9c2c494208e46102125342ad32a3e2f8cc7c62709b4b8afb4860"), looks := true }, kinds := [], alts := [], laidByText := true, laidKinds := [.data, .data, .data, .data, .sentinel, .sentinel, .pinned, .pinned], laidTests := true, laidLooks := .later }
def ScalarFixedCardSaid : Prop := Claim7.holds Tryz.pinned (.plain (OpenSpec.ofChange scalarFixedSpec)) scalarFixedCard

/-- THE SECOND FORM's CARD OF 'phasorlaw02.ScalarSums'. -/
def scalarSumsUptoCard : Claim7 := { stood := { row := scalarSumsUptoRow, standIns := [], harness := (true, "ff2f6f5625ee9c2c494208e46102125342ad32a3e2f8cc7c62709b4b8afb4860"), looks := true }, kinds := [], alts := [], laidByText := true, laidKinds := [.data, .data, .data, .data, .sentinel, .sentinel, .pinned, .pinned], laidTests := true, laidLooks := .later }
def ScalarSumsUptoCardSaid : Prop := Claim7.holds Tryz.pinned (.plain (OpenSpec.upto scalarSumsSpec)) scalarSumsUptoCard

/-- THE SECOND FORM's CARD OF 'phasorlaw02.ScalarWhole'. -/
def scalarWholeUptoCard : Claim7 := { stood := { row := scalarWholeUptoRow, standIns := [], harness := (true, "ff2f6f5625ee9c2c494208e46102125342ad32a3e2f8cc7c62709b4b8afb4860"), looks := true }, kinds := [], alts := [], laidByText := true, laidKinds := [.data, .data, .data, .data, .sentinel, .sentinel, .pinned, .pinned], laidTests := true, laidLooks := .later }
def ScalarWholeUptoCardSaid : Prop := Claim7.holds Tryz.pinned (.plain (OpenSpec.upto scalarWholeSpec)) scalarWholeUptoCard

/-- THE SECOND FORM's CARD OF 'phasorlaw02.ScalarPrints'. -/
def scalarPrintsUptoCard : Claim7 := { stood := { row := scalarPrintsUptoRow, standIns := [], harness := (true, "ff2f6f5625ee9c2c494208e46102125342ad32a3e2f8cc7c62709b4b8afb4860"), looks := true }, kinds := [], alts := [], laidByText := true, laidKinds := [.data, .data, .data, .data, .sentinel, .sentinel, .pinned, .pinned], laidTests := true, laidLooks := .later }
def ScalarPrintsUptoCardSaid : Prop := Claim7.holds Tryz.pinned (.plain (OpenSpec.upto scalarPrintsSpec)) scalarPrintsUptoCard

/-- THE SECOND FORM's CARD OF 'phasorlaw02.ScalarParses'. -/
def scalarParsesUptoCard : Claim7 := { stood := { row := scalarParsesUptoRow, standIns := [], harness := (true, "ff2f6f5625ee9c2c494208e46102125342ad32a3e2f8cc7c62709b4b8afb4860"), looks := true }, kinds := [], alts := [], laidByText := true, laidKinds := [.data, .data, .data, .data, .sentinel, .sentinel, .pinned, .pinned], laidTests := true, laidLooks := .later }
def ScalarParsesUptoCardSaid : Prop := Claim7.holds Tryz.pinned (.plain (OpenSpec.upto scalarParsesSpec)) scalarParsesUptoCard

/-- THE SECOND FORM's CARD OF 'phasorlaw02.ScalarFixed'. -/
def scalarFixedUptoCard : Claim7 := { stood := { row := scalarFixedUptoRow, standIns := [], harness := (true, "ff2f6f5625ee9c2c494208e46102125342ad32a3e2f8cc7c62709b4b8afb4860"), looks := true }, kinds := [], alts := [], laidByText := true, laidKinds := [.data, .data, .data, .data, .sentinel, .sentinel, .pinned, .pinned], laidTests := true, laidLooks := .later }
def ScalarFixedUptoCardSaid : Prop := Claim7.holds Tryz.pinned (.plain (OpenSpec.upto scalarFixedSpec)) scalarFixedUptoCard
end Rows
end Go.Proofs.YtbnclgndgjmmkabGreatDoor
