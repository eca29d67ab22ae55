/-
  DERIVED. GIVEN WITH THE SEED: THE CARDS: each row of YtedmdeifjmconaaDoorRows.lean that lists a variable, with what it lists TIED to the program's text (the seventh form; the later family's looks); each row that meets fmt, with fmt's text TOLD by the authors' own Lean function (tested against real Go, not proved from fmt's source: count such statements apart). THE CARD IS WHAT COUNTS. Prove the row's statement (the work); the ties are given (YtedmdeifjmconaaDoorTie.lean); close each card by the builder's one call (the guide's Derived/Test/ToyasCard.lean, 'card_holds'). Laid BY PROGRAM, IN A SANDBOX (cutbox-door.mjs). By AI agents, Wed Nov 11 2026. No macro, syntax, notation, axiom, sorry.
-/
import Derived.Test.YtedmdeifjmconaaDoorRows
import GoSem.ClaimSeven
namespace Go.Proofs.YtedmdeifjmconaaDoor
namespace Rows

/-- THE TIED CARD OF 'phasorlaw11.OddsChoose'. -/
def oddsChooseCard : Claim7 := { stood := { row := oddsChooseRow, standIns := [], harness := (true, "93bd83d79c5a9e144cb2c6dad76655318c432f3828a866a41e89c039d50455ba"), looks := false }, kinds := [], alts := [], laidByText := true, laidKinds := [.data, .data], laidTests := true, laidLooks := .later }
def OddsChooseCardSaid : Prop := Claim7.holds Tryd.pinned (.plain (OpenSpec.ofChange oddsChooseSpec)) oddsChooseCard

/-- THE SECOND FORM's CARD OF 'phasorlaw11.OddsChoose'. -/
def oddsChooseUptoCard : Claim7 := { stood := { row := oddsChooseUptoRow, standIns := [], harness := (true, "93bd83d79c5a9e144cb2c6dad76655318c432f3828a866a41e89c039d50455ba"), looks := false }, kinds := [], alts := [], laidByText := true, laidKinds := [.data, .data], laidTests := true, laidLooks := .later }
def OddsChooseUptoCardSaid : Prop := Claim7.holds Tryd.pinned (.plain (OpenSpec.upto oddsChooseSpec)) oddsChooseUptoCard
end Rows
end Go.Proofs.YtedmdeifjmconaaDoor
