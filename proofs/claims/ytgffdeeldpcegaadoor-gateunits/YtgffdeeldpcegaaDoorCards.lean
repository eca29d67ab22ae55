/-
  DERIVED. GIVEN WITH THE SEED: THE CARDS: each row of YtgffdeeldpcegaaDoorRows.lean that lists a variable, with what it lists TIED to the program's text (the seventh form; the later family's looks); each row that meets fmt, with fmt's text TOLD by the authors' own Lean function (tested against real Go, not proved from fmt's source: count such statements apart). THE CARD IS WHAT COUNTS. Prove the row's statement (the work); the ties are given (YtgffdeeldpcegaaDoorTie.lean); close each card by the builder's one call (the guide's Derived/Test/ToyasCard.lean, 'card_holds'). Laid BY PROGRAM, IN A SANDBOX (cutbox-door.mjs). By AI agents, Wed Nov 11 2026. No macro, syntax, notation, axiom, sorry.
-/
import Derived.Test.YtgffdeeldpcegaaDoorRows
import GoSem.ClaimSeven
namespace Go.Proofs.YtgffdeeldpcegaaDoor
namespace Rows

/-- THE TIED CARD OF 'phasorlaw06.GateNames'. -/
def gateNamesCard : Claim7 := { stood := { row := gateNamesRow, standIns := [], harness := (true, "0e1e36e143c61cd2cb94993505d246dc8faf16f29b307b6d3a12be4811b19b9e"), looks := false }, kinds := [], alts := [], laidByText := true, laidKinds := [.data], laidTests := true, laidLooks := .later }
def GateNamesCardSaid : Prop := Claim7.holds Tryd.pinned (.plain (OpenSpec.ofChange gateNamesSpec)) gateNamesCard

/-- THE TIED CARD OF 'phasorlaw06.GateLooks'. -/
def gateLooksCard : Claim7 := { stood := { row := gateLooksRow, standIns := [], harness := (true, "0e1e36e143c61cd2cb94993505d246dc8faf16f29b307b6d3a12be4811b19b9e"), looks := false }, kinds := [], alts := [], laidByText := true, laidKinds := [.data, .data], laidTests := true, laidLooks := .later }
def GateLooksCardSaid : Prop := Claim7.holds Tryd.pinned (.plain (OpenSpec.ofChange gateLooksSpec)) gateLooksCard

/-- THE TIED CARD OF 'phasorlaw06.GateMatrices'. -/
def gateMatricesCard : Claim7 := { stood := { row := gateMatricesRow, standIns := [], harness := (true, "0e1e36e143c61cd2cb94993505d246dc8faf16f29b307b6d3a12be4811b19b9e"), looks := false }, kinds := [], alts := [], laidByText := true, laidKinds := [.data, .data], laidTests := true, laidLooks := .later }
def GateMatricesCardSaid : Prop := Claim7.holds Tryd.pinned (.plain (OpenSpec.ofChange gateMatricesSpec)) gateMatricesCard

/-- THE TIED CARD OF 'phasorlaw06.GateUnits'. -/
def gateUnitsCard : Claim7 := { stood := { row := gateUnitsRow, standIns := [], harness := (true, "0e1e36e143c61cd2cb94993505d246dc8faf16f29b307b6d3a12be4811b19b9e"), looks := false }, kinds := [], alts := [], laidByText := true, laidKinds := [.data, .data], laidTests := true, laidLooks := .later }
def GateUnitsCardSaid : Prop := Claim7.holds Tryd.pinned (.plain (OpenSpec.ofChange gateUnitsSpec)) gateUnitsCard

/-- THE TIED CARD OF 'phasorlaw06.GateComposes'. -/
def gateComposesCard : Claim7 := { stood := { row := gateComposesRow, standIns := [], harness := (true, "0e1e36e143c61cd2cb94993505d246dc8faf16f29b307b6d3a12be4811b19b9e"), looks := false }, kinds := [], alts := [], laidByText := true, laidKinds := [.data, .data], laidTests := true, laidLooks := .later }
def GateComposesCardSaid : Prop := Claim7.holds Tryd.pinned (.plain (OpenSpec.ofChange gateComposesSpec)) gateComposesCard

/-- THE TIED CARD OF 'phasorlaw06.GateChecks'. -/
def gateChecksCard : Claim7 := { stood := { row := gateChecksRow, standIns := [], harness := (true, "0e1e36e143c61cd2cb94993505d246dc8faf16f29b307b6d3a12be4811b19b9e"), looks := false }, kinds := [], alts := [], laidByText := true, laidKinds := [.data, .data], laidTests := true, laidLooks := .later }
def GateChecksCardSaid : Prop := Claim7.holds Tryd.pinned (.plain (OpenSpec.ofChange gateChecksSpec)) gateChecksCard

/-- THE SECOND FORM's CARD OF 'phasorlaw06.GateNames'. -/
def gateNamesUptoCard : Claim7 := { stood := { row := gateNamesUptoRow, standIns := [], harness := (true, "0e1e36e143c61cd2cb94993505d246dc8faf16f29b307b6d3a12be4811b19b9e"), looks := false }, kinds := [], alts := [], laidByText := true, laidKinds := [.data], laidTests := true, laidLooks := .later }
def GateNamesUptoCardSaid : Prop := Claim7.holds Tryd.pinned (.plain (OpenSpec.upto gateNamesSpec)) gateNamesUptoCard

/-- THE SECOND FORM's CARD OF 'phasorlaw06.GateLooks'. -/
def gateLooksUptoCard : Claim7 := { stood := { row := gateLooksUptoRow, standIns := [], harness := (true, "0e1e36e143c61cd2cb94993505d246dc8faf16f29b307b6d3a12be4811b19b9e"), looks := false }, kinds := [], alts := [], laidByText := true, laidKinds := [.data, .data], laidTests := true, laidLooks := .later }
def GateLooksUptoCardSaid : Prop := Claim7.holds Tryd.pinned (.plain (OpenSpec.upto gateLooksSpec)) gateLooksUptoCard

/-- THE SECOND FORM's CARD OF 'phasorlaw06.GateMatrices'. -/
def gateMatricesUptoCard : Claim7 := { stood := { row := gateMatricesUptoRow, standIns := [], harness := (true, "0e1e36e143c61cd2cb94993505d246dc8faf16f29b307b6d3a12be4811b19b9e"), looks := false }, kinds := [], alts := [], laidByText := true, laidKinds := [.data, .data], laidTests := true, laidLooks := .later }
def GateMatricesUptoCardSaid : Prop := Claim7.holds Tryd.pinned (.plain (OpenSpec.upto gateMatricesSpec)) gateMatricesUptoCard

/-- THE SECOND FORM's CARD OF 'phasorlaw06.GateUnits'. -/
def gateUnitsUptoCard : Claim7 := { stood := { row := gateUnitsUptoRow, standIns := [], harness := (true, "0e1e36e143c61cd2cb94993505d246dc8faf16f29b307b6d3a12be4811b19b9e"), looks := false }, kinds := [], alts := [], laidByText := true, laidKinds := [.data, .data], laidTests := true, laidLooks := .later }
def GateUnitsUptoCardSaid : Prop := Claim7.holds Tryd.pinned (.plain (OpenSpec.upto gateUnitsSpec)) gateUnitsUptoCard

/-- THE SECOND FORM's CARD OF 'phasorlaw06.GateComposes'. -/
def gateComposesUptoCard : Claim7 := { stood := { row := gateComposesUptoRow, standIns := [], harness := (true, "0e1e36e143c61cd2cb94993505d246dc8faf16f29b307b6d3a12be4811b19b9e"), looks := false }, kinds := [], alts := [], laidByText := true, laidKinds := [.data, .data], laidTests := true, laidLooks := .later }
def GateComposesUptoCardSaid : Prop := Claim7.holds Tryd.pinned (.plain (OpenSpec.upto gateComposesSpec)) gateComposesUptoCard

/-- THE SECOND FORM's CARD OF 'phasorlaw06.GateChecks'. -/
def gateChecksUptoCard : Claim7 := { stood := { row := gateChecksUptoRow, standIns := [], harness := (true, "0e1e36e143c61cd2cb94993505d246dc8faf16f29b307b6d3a12be4811b19b9e"), looks := false }, kinds := [], alts := [], laidByText := true, laidKinds := [.data, .data], laidTests := true, laidLooks := .later }
def GateChecksUptoCardSaid : Prop := Claim7.holds Tryd.pinned (.plain (OpenSpec.upto gateChecksSpec)) gateChecksUptoCard
end Rows
end Go.Proofs.YtgffdeeldpcegaaDoor
