/-
  DERIVED. GIVEN WITH THE SEED: THE CARDS: each row of YteknpejkooemjaaDoorRows.lean that lists a variable, with what it lists TIED to the program's text (the seventh form; the later family's looks); each row that meets fmt, with fmt's text TOLD by the authors' own Lean function (tested against real Go, not proved from fmt's source: count such statements apart). THE CARD IS WHAT COUNTS. Prove the row's statement (the work); the ties are given (YteknpejkooemjaaDoorTie.lean); close each card by the builder's one call (the guide's Derived/Test/ToyasCard.lean, 'card_holds'). Laid BY PROGRAM, IN A SANDBOX (cutbox-door.mjs). By AI agents, Wed Nov 11 2026. No macro, syntax, notation, axiom, sorry.
-/
import Derived.Test.YteknpejkooemjaaDoorRows
import GoSem.ClaimSeven
namespace Go.Proofs.YteknpejkooemjaaDoor
namespace Rows

/-- THE TIED CARD OF 'phasorlaw13.PauliAsks'. -/
def pauliAsksCard : Claim7 := { stood := { row := pauliAsksRow, standIns := [], harness := (true, "01e0efe1efaa81aebf4a890d3ef316fed95ea56288a8d600120b7a44edbdb253"), looks := false }, kinds := [], alts := [], laidByText := true, laidKinds := [.data, .data, .data, .data, .data], laidTests := true, laidLooks := .later }
def PauliAsksCardSaid : Prop := Claim7.holds Tryd.pinned (.plain (OpenSpec.ofChange pauliAsksSpec)) pauliAsksCard

/-- THE TIED CARD OF 'phasorlaw13.PauliThrough'. -/
def pauliThroughCard : Claim7 := { stood := { row := pauliThroughRow, standIns := [], harness := (true, "01e0efe1efaa81aebf4a890d3ef316fed95ea56288a8d600120b7a44edbdb253"), looks := false }, kinds := [], alts := [], laidByText := true, laidKinds := [.data, .data, .data, .data, .data], laidTests := true, laidLooks := .later }
def PauliThroughCardSaid : Prop := Claim7.holds Tryd.pinned (.plain (OpenSpec.ofChange pauliThroughSpec)) pauliThroughCard

/-- THE TIED CARD OF 'phasorlaw13.PauliTexts'. -/
def pauliTextsCard : Claim7 := { stood := { row := pauliTextsRow, standIns := [], harness := (true, "01e0efe1efaa81aebf4a890d3ef316fed95ea56288a8d600120b7a44edbdb253"), looks := false }, kinds := [], alts := [], laidByText := true, laidKinds := [.data, .data, .data, .data, .data], laidTests := true, laidLooks := .later }
def PauliTextsCardSaid : Prop := Claim7.holds Tryd.pinned (.plain (OpenSpec.ofChange pauliTextsSpec)) pauliTextsCard

/-- THE SECOND FORM's CARD OF 'phasorlaw13.PauliAsks'. -/
def pauliAsksUptoCard : Claim7 := { stood := { row := pauliAsksUptoRow, standIns := [], harness := (true, "01e0efe1efaa81aebf4a890d3ef316fed95ea56288a8d600120b7a44edbdb253"), looks := false }, kinds := [], alts := [], laidByText := true, laidKinds := [.data, .data, .data, .data, .data], laidTests := true, laidLooks := .later }
def PauliAsksUptoCardSaid : Prop := Claim7.holds Tryd.pinned (.plain (OpenSpec.upto pauliAsksSpec)) pauliAsksUptoCard

/-- THE SECOND FORM's CARD OF 'phasorlaw13.PauliThrough'. -/
def pauliThroughUptoCard : Claim7 := { stood := { row := pauliThroughUptoRow, standIns := [], harness := (true, "01e0efe1efaa81aebf4a890d3ef316fed95ea56288a8d600120b7a44edbdb253"), looks := false }, kinds := [], alts := [], laidByText := true, laidKinds := [.data, .data, .data, .data, .data], laidTests := true, laidLooks := .later }
def PauliThroughUptoCardSaid : Prop := Claim7.holds Tryd.pinned (.plain (OpenSpec.upto pauliThroughSpec)) pauliThroughUptoCard

/-- THE SECOND FORM's CARD OF 'phasorlaw13.PauliTexts'. -/
def pauliTextsUptoCard : Claim7 := { stood := { row := pauliTextsUptoRow, standIns := [], harness := (true, "01e0efe1efaa81aebf4a890d3ef316fed95ea56288a8d600120b7a44edbdb253"), looks := false }, kinds := [], alts := [], laidByText := true, laidKinds := [.data, .data, .data, .data, .data], laidTests := true, laidLooks := .later }
def PauliTextsUptoCardSaid : Prop := Claim7.holds Tryd.pinned (.plain (OpenSpec.upto pauliTextsSpec)) pauliTextsUptoCard
end Rows
end Go.Proofs.YteknpejkooemjaaDoor
