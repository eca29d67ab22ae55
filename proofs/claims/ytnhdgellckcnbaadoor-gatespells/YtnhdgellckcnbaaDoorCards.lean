/-
  DERIVED. GIVEN WITH THE SEED: THE CARDS: each row of YtnhdgellckcnbaaDoorRows.lean that lists a variable, with what it lists TIED to the program's text (the seventh form; the later family's looks); each row that meets fmt, with fmt's text TOLD by the authors' own Lean function (tested against real Go, not proved from fmt's source: count such statements apart). THE CARD IS WHAT COUNTS. Prove the row's statement (the work); the ties are given (YtnhdgellckcnbaaDoorTie.lean); close each card by the builder's one call (the guide's Derived/Test/ToyasCard.lean, 'card_holds'). Laid BY PROGRAM, IN A SANDBOX (cutbox-door.mjs). By AI agents, Wed Nov 11 2026. No macro, syntax, notation, axiom, sorry.
-/
import Derived.Test.YtnhdgellckcnbaaDoorRows
import GoSem.ClaimSeven
namespace Go.Proofs.YtnhdgellckcnbaaDoor
namespace Rows

/-- THE TIED CARD OF 'phasorlaw06.GateMatrices'. -/
def gateMatricesCard : Claim7 := { stood := { row := gateMatricesRow, standIns := [], harness := (true, "eb16c543e9aeab05565d0db83bbcdc8dccd6a51e547f09625c70d09806cca841"), looks := false }, kinds := [], alts := [], laidByText := true, laidKinds := [.data, .data], laidTests := true, laidLooks := .later }
def GateMatricesCardSaid : Prop := Claim7.holds Tryd.pinned (.plain (OpenSpec.ofChange gateMatricesSpec)) gateMatricesCard

/-- THE TIED CARD OF 'phasorlaw06.GateComposes'. -/
def gateComposesCard : Claim7 := { stood := { row := gateComposesRow, standIns := [], harness := (true, "eb16c543e9aeab05565d0db83bbcdc8dccd6a51e547f09625c70d09806cca841"), looks := false }, kinds := [], alts := [], laidByText := true, laidKinds := [.data, .data], laidTests := true, laidLooks := .later }
def GateComposesCardSaid : Prop := Claim7.holds Tryd.pinned (.plain (OpenSpec.ofChange gateComposesSpec)) gateComposesCard

/-- THE TIED CARD OF 'phasorlaw06.GateCommutes'. -/
def gateCommutesCard : Claim7 := { stood := { row := gateCommutesRow, standIns := [], harness := (true, "eb16c543e9aeab05565d0db83bbcdc8dccd6a51e547f09625c70d09806cca841"), looks := false }, kinds := [], alts := [], laidByText := true, laidKinds := [.data, .data], laidTests := true, laidLooks := .later }
def GateCommutesCardSaid : Prop := Claim7.holds Tryd.pinned (.plain (OpenSpec.ofChange gateCommutesSpec)) gateCommutesCard

/-- THE TIED CARD OF 'phasorlaw06.GateApart'. -/
def gateApartCard : Claim7 := { stood := { row := gateApartRow, standIns := [], harness := (true, "eb16c543e9aeab05565d0db83bbcdc8dccd6a51e547f09625c70d09806cca841"), looks := false }, kinds := [], alts := [], laidByText := true, laidKinds := [.data, .data], laidTests := true, laidLooks := .later }
def GateApartCardSaid : Prop := Claim7.holds Tryd.pinned (.plain (OpenSpec.ofChange gateApartSpec)) gateApartCard

/-- THE TIED CARD OF 'phasorlaw06.GateSpells'. -/
def gateSpellsCard : Claim7 := { stood := { row := gateSpellsRow, standIns := [], harness := (true, "eb16c543e9aeab05565d0db83bbcdc8dccd6a51e547f09625c70d09806cca841"), looks := false }, kinds := [], alts := [], laidByText := true, laidKinds := [.data, .data], laidTests := true, laidLooks := .later }
def GateSpellsCardSaid : Prop := Claim7.holds Tryd.pinned (.plain (OpenSpec.ofChange gateSpellsSpec)) gateSpellsCard

/-- THE SECOND FORM's CARD OF 'phasorlaw06.GateMatrices'. -/
def gateMatricesUptoCard : Claim7 := { stood := { row := gateMatricesUptoRow, standIns := [], harness := (true, "eb16c543e9aeab05565d0db83bbcdc8dccd6a51e547f09625c70d09806cca841"), looks := false }, kinds := [], alts := [], laidByText := true, laidKinds := [.data, .data], laidTests := true, laidLooks := .later }
def GateMatricesUptoCardSaid : Prop := Claim7.holds Tryd.pinned (.plain (OpenSpec.upto gateMatricesSpec)) gateMatricesUptoCard

/-- THE SECOND FORM's CARD OF 'phasorlaw06.GateComposes'. -/
def gateComposesUptoCard : Claim7 := { stood := { row := gateComposesUptoRow, standIns := [], harness := (true, "eb16c543e9aeab05565d0db83bbcdc8dccd6a51e547f09625c70d09806cca841"), looks := false }, kinds := [], alts := [], laidByText := true, laidKinds := [.data, .data], laidTests := true, laidLooks := .later }
def GateComposesUptoCardSaid : Prop := Claim7.holds Tryd.pinned (.plain (OpenSpec.upto gateComposesSpec)) gateComposesUptoCard

/-- THE SECOND FORM's CARD OF 'phasorlaw06.GateCommutes'. -/
def gateCommutesUptoCard : Claim7 := { stood := { row := gateCommutesUptoRow, standIns := [], harness := (true, "eb16c543e9aeab05565d0db83bbcdc8dccd6a51e547f09625c70d09806cca841"), looks := false }, kinds := [], alts := [], laidByText := true, laidKinds := [.data, .data], laidTests := true, laidLooks := .later }
def GateCommutesUptoCardSaid : Prop := Claim7.holds Tryd.pinned (.plain (OpenSpec.upto gateCommutesSpec)) gateCommutesUptoCard

/-- THE SECOND FORM's CARD OF 'phasorlaw06.GateApart'. -/
def gateApartUptoCard : Claim7 := { stood := { row := gateApartUptoRow, standIns := [], harness := (true, "eb16c543e9aeab05565d0db83bbcdc8dccd6a51e547f09625c70d09806cca841"), looks := false }, kinds := [], alts := [], laidByText := true, laidKinds := [.data, .data], laidTests := true, laidLooks := .later }
def GateApartUptoCardSaid : Prop := Claim7.holds Tryd.pinned (.plain (OpenSpec.upto gateApartSpec)) gateApartUptoCard

/-- THE SECOND FORM's CARD OF 'phasorlaw06.GateSpells'. -/
def gateSpellsUptoCard : Claim7 := { stood := { row := gateSpellsUptoRow, standIns := [], harness := (true, "eb16c543e9aeab05565d0db83bbcdc8dccd6a51e547f09625c70d09806cca841"), looks := false }, kinds := [], alts := [], laidByText := true, laidKinds := [.data, .data], laidTests := true, laidLooks := .later }
def GateSpellsUptoCardSaid : Prop := Claim7.holds Tryd.pinned (.plain (OpenSpec.upto gateSpellsSpec)) gateSpellsUptoCard
end Rows
end Go.Proofs.YtnhdgellckcnbaaDoor
