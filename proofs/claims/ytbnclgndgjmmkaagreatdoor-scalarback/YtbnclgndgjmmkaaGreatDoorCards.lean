/-
  DERIVED. GIVEN WITH THE SEED: THE CARDS: each row of YtbnclgndgjmmkaaGreatDoorRows.lean that lists a variable, with what it lists TIED to the program's text (the seventh form; the later family's looks); each row that meets fmt, with fmt's text TOLD by the authors' own Lean function (tested against real Go, not proved from fmt's source: count such statements apart). THE CARD IS WHAT COUNTS. Prove the row's statement (the work); the ties are given (YtbnclgndgjmmkaaGreatDoorTie.lean); close each card by the builder's one call (the guide's Derived/Test/ToyasCard.lean, 'card_holds'). Laid BY PROGRAM, IN A SANDBOX (cutbox-door.mjs). By AI agents, Wed Nov 11 2026. No macro, syntax, notation, axiom, sorry.
-/
import Derived.Test.YtbnclgndgjmmkaaGreatDoorRows
import GoSem.ClaimSeven
namespace Go.Proofs.YtbnclgndgjmmkaaGreatDoor
namespace Rows

/-- THE TIED CARD OF 'phasorlaw02.ScalarLooks'. -/
def scalarLooksCard : Claim7 := { stood := { row := scalarLooksRow, standIns := [], harness := (true, "4a5131bf8acaa467eaf862adec4c466b2cabf3468425fd212e03b77d8e410cbc"), looks := true }, kinds := [], alts := [], laidByText := true, laidKinds := [.data, .data, .data, .data, .sentinel, .sentinel, .pinned, .pinned], laidTests := true, laidLooks := .later }
def ScalarLooksCardSaid : Prop := Claim7.holds Tryz.pinned (.plain (OpenSpec.ofChange scalarLooksSpec)) scalarLooksCard

/-- THE TIED CARD OF 'phasorlaw02.ScalarOrder'. -/
def scalarOrderCard : Claim7 := { stood := { row := scalarOrderRow, standIns := [], harness := (true, "4a5131bf8acaa467eaf862adec4c466b2cabf3468425fd212e03b77d8e410cbc"), looks := true }, kinds := [], alts := [], laidByText := true, laidKinds := [.data, .data, .data, .data, .sentinel, .sentinel, .pinned, .pinned], laidTests := true, laidLooks := .later }
def ScalarOrderCardSaid : Prop := Claim7.holds Tryz.pinned (.plain (OpenSpec.ofChange scalarOrderSpec)) scalarOrderCard

/-- THE TIED CARD OF 'phasorlaw02.ScalarTotal'. -/
def scalarTotalCard : Claim7 := { stood := { row := scalarTotalRow, standIns := [], harness := (true, "4a5131bf8acaa467eaf862adec4c466b2cabf3468425fd212e03b77d8e410cbc"), looks := true }, kinds := [], alts := [], laidByText := true, laidKinds := [.data, .data, .data, .data, .sentinel, .sentinel, .pinned, .pinned], laidTests := true, laidLooks := .later }
def ScalarTotalCardSaid : Prop := Claim7.holds Tryz.pinned (.plain (OpenSpec.ofChange scalarTotalSpec)) scalarTotalCard

/-- THE TIED CARD OF 'phasorlaw02.ScalarJoins'. -/
def scalarJoinsCard : Claim7 := { stood := { row := scalarJoinsRow, standIns := [], harness := (true, "4a5131bf8acaa467eaf862adec4c466b2cabf3468425fd212e03b77d8e410cbc"), looks := true }, kinds := [], alts := [], laidByText := true, laidKinds := [.data, .data, .data, .data, .sentinel, .sentinel, .pinned, .pinned], laidTests := true, laidLooks := .later }
def ScalarJoinsCardSaid : Prop := Claim7.holds Tryz.pinned (.plain (OpenSpec.ofChange scalarJoinsSpec)) scalarJoinsCard

/-- THE TIED CARD OF 'phasorlaw02.ScalarBack'. -/
def scalarBackCard : Claim7 := { stood := { row := scalarBackRow, standIns := [], harness := (true, "4a5131bf8acaa467eaf862adec4c466b2cabf3468425fd212e03b77d8e410cbc"), looks := true }, kinds := [], alts := [], laidByText := true, laidKinds := [.data, .data, .data, .data, .sentinel, .sentinel, .pinned, .pinned], laidTests := true, laidLooks := .later }
def ScalarBackCardSaid : Prop := Claim7.holds Tryz.pinned (.plain (OpenSpec.ofChange scalarBackSpec)) scalarBackCard

/-- THE TIED CARD OF 'phasorlaw02.ScalarExact'. -/
def scalarExactCard : Claim7 := { stood := { row := scalarExactRow, standIns := [], harness := (true, "4a5131bf8acaa467eaf862adec4c466b2cabf3468425fd212e03b77d8e410cbc"), looks := true }, kinds := [], alts := [], laidByText := true, laidKinds := [.data, .data, .data, .data, .sentinel, .sentinel, .pinned, .pinned], laidTests := true, laidLooks := .later }
def ScalarExactCardSaid : Prop := Claim7.holds Tryz.pinned (.plain (OpenSpec.ofChange scalarExactSpec)) scalarExactCard

/-- THE SECOND FORM's CARD OF 'phasorlaw02.ScalarLooks'. -/
def scalarLooksUptoCard : Claim7 := { stood := { row := scalarLooksUptoRow, standIns := [], harness := (true, "4a5131bf8acaa467eaf862adec4c466b2cabf3468425fd212e03b77d8e410cbc"), looks := true }, kinds := [], alts := [], laidByText := true, laidKinds := [.data, .data, .data, .data, .sentinel, .sentinel, .pinned, .pinned], laidTests := true, laidLooks := .later }
def ScalarLooksUptoCardSaid : Prop := Claim7.holds Tryz.pinned (.plain (OpenSpec.upto scalarLooksSpec)) scalarLooksUptoCard

/-- THE SECOND FORM's CARD OF 'phasorlaw02.ScalarOrder'. -/
def scalarOrderUptoCard : Claim7 := { stood := { row := scalarOrderUptoRow, standIns := [], harness := (true, "4a5131bf8acaa467eaf862adec4c466b2cabf3468425fd212e03b77d8e410cbc"), looks := true }, kinds := [], alts := [], laidByText := true, laidKinds := [.data, .data, .data, .data, .sentinel, .sentinel, .pinned, .pinned], laidTests := true, laidLooks := .later }
def ScalarOrderUptoCardSaid : Prop := Claim7.holds Tryz.pinned (.plain (OpenSpec.upto scalarOrderSpec)) scalarOrderUptoCard

/-- THE SECOND FORM's CARD OF 'phasorlaw02.ScalarTotal'. -/
def scalarTotalUptoCard : Claim7 := { stood := { row := scalarTotalUptoRow, standIns := [], harness := (true, "4a5131bf8acaa467eaf862adec4c466b2cabf3468425fd212e03b77d8e410cbc"), looks := true }, kinds := [], alts := [], laidByText := true, laidKinds := [.data, .data, .data, .data, .sentinel, .sentinel, .pinned, .pinned], laidTests := true, laidLooks := .later }
def ScalarTotalUptoCardSaid : Prop := Claim7.holds Tryz.pinned (.plain (OpenSpec.upto scalarTotalSpec)) scalarTotalUptoCard

/-- THE SECOND FORM's CARD OF 'phasorlaw02.ScalarJoins'. -/
def scalarJoinsUptoCard : Claim7 := { stood := { row := scalarJoinsUptoRow, standIns := [], harness := (true, "4a5131bf8acaa467eaf862adec4c466b2cabf3468425fd212e03b77d8e410cbc"), looks := true }, kinds := [], alts := [], laidByText := true, laidKinds := [.data, .data, .data, .data, .sentinel, .sentinel, .pinned, .pinned], laidTests := true, laidLooks := .later }
def ScalarJoinsUptoCardSaid : Prop := Claim7.holds Tryz.pinned (.plain (OpenSpec.upto scalarJoinsSpec)) scalarJoinsUptoCard

/-- THE SECOND FORM's CARD OF 'phasorlaw02.ScalarBack'. -/
def scalarBackUptoCard : Claim7 := { stood := { row := scalarBackUptoRow, standIns := [], harness := (true, "4a5131bf8acaa467eaf862adec4c466b2cabf3468425fd212e03b77d8e410cbc"), looks := true }, kinds := [], alts := [], laidByText := true, laidKinds := [.data, .data, .data, .data, .sentinel, .sentinel, .pinned, .pinned], laidTests := true, laidLooks := .later }
def ScalarBackUptoCardSaid : Prop := Claim7.holds Tryz.pinned (.plain (OpenSpec.upto scalarBackSpec)) scalarBackUptoCard

/-- THE SECOND FORM's CARD OF 'phasorlaw02.ScalarExact'. -/
def scalarExactUptoCard : Claim7 := { stood := { row := scalarExactUptoRow, standIns := [], harness := (true, "4a5131bf8acaa467eaf862adec4c466b2cabf3468425fd212e03b77d8e410cbc"), looks := true }, kinds := [], alts := [], laidByText := true, laidKinds := [.data, .data, .data, .data, .sentinel, .sentinel, .pinned, .pinned], laidTests := true, laidLooks := .later }
def ScalarExactUptoCardSaid : Prop := Claim7.holds Tryz.pinned (.plain (OpenSpec.upto scalarExactSpec)) scalarExactUptoCard
end Rows
end Go.Proofs.YtbnclgndgjmmkaaGreatDoor
