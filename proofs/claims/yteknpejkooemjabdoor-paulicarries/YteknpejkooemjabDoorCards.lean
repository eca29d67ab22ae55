/-
  DERIVED. GIVEN WITH THE SEED: THE CARDS: each row of YteknpejkooemjabDoorRows.lean that lists a variable, with what it lists TIED to the program's text (the seventh form; the later family's looks); each row that meets fmt, with fmt's text TOLD by the authors' own Lean function (tested against real Go, not proved from fmt's source: count such statements apart). THE CARD IS WHAT COUNTS. Prove the row's statement (the work); the ties are given (YteknpejkooemjabDoorTie.lean); close each card by the builder's one call (the guide's Derived/Test/ToyasCard.lean, 'card_holds'). Laid BY PROGRAM, IN A SANDBOX (cutbox-door.mjs). By AI agents, Wed Nov 11 2026. No macro, syntax, notation, axiom, sorry.
-/
import Derived.Test.YteknpejkooemjabDoorRows
import GoSem.ClaimSeven
namespace Go.Proofs.YteknpejkooemjabDoor
namespace Rows

/-- THE TIED CARD OF 'phasorlaw13.PauliGroup'. -/
def pauliGroupCard : Claim7 := { stood := { row := pauliGroupRow, standIns := [], harness := (true, "dc6a040961ae1f80562ec732c8a5a46684f8ed81debc35a53b77edaf1ffcf681"), looks := false }, kinds := [], alts := [], laidByText := true, laidKinds := [.data, .data, .data, .data, .data], laidTests := true, laidLooks := .later }
def PauliGroupCardSaid : Prop := Claim7.holds Tryd.pinned (.plain (OpenSpec.ofChange pauliGroupSpec)) pauliGroupCard

/-- THE TIED CARD OF 'phasorlaw13.PauliCarries'. -/
def pauliCarriesCard : Claim7 := { stood := { row := pauliCarriesRow, standIns := [], harness := (true, "dc6a040961ae1f80562ec732c8a5a46684f8ed81debc35a53b77edaf1ffcf681"), looks := false }, kinds := [], alts := [], laidByText := true, laidKinds := [.data, .data, .data, .data, .data], laidTests := true, laidLooks := .later }
def PauliCarriesCardSaid : Prop := Claim7.holds Tryd.pinned (.plain (OpenSpec.ofChange pauliCarriesSpec)) pauliCarriesCard

/-- THE SECOND FORM's CARD OF 'phasorlaw13.PauliGroup'. -/
def pauliGroupUptoCard : Claim7 := { stood := { row := pauliGroupUptoRow, standIns := [], harness := (true, "dc6a040961ae1f80562ec732c8a5a46684f8ed81debc35a53b77edaf1ffcf681"), looks := false }, kinds := [], alts := [], laidByText := true, laidKinds := [.data, .data, .data, .data, .data], laidTests := true, laidLooks := .later }
def PauliGroupUptoCardSaid : Prop := Claim7.holds Tryd.pinned (.plain (OpenSpec.upto pauliGroupSpec)) pauliGroupUptoCard

/-- THE SECOND FORM's CARD OF 'phasorlaw13.PauliCarries'. -/
def pauliCarriesUptoCard : Claim7 := { stood := { row := pauliCarriesUptoRow, standIns := [], harness := (true, "dc6a040961ae1f80562ec732c8a5a46684f8ed81debc35a53b77edaf1ffcf681"), looks := false }, kinds := [], alts := [], laidByText := true, laidKinds := [.data, .data, .data, .data, .data], laidTests := true, laidLooks := .later }
def PauliCarriesUptoCardSaid : Prop := Claim7.holds Tryd.pinned (.plain (OpenSpec.upto pauliCarriesSpec)) pauliCarriesUptoCard
end Rows
end Go.Proofs.YteknpejkooemjabDoor
