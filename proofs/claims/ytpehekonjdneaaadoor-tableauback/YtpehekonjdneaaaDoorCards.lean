/-
  DERIVED. GIVEN WITH THE SEED: THE CARDS: each row of YtpehekonjdneaaaDoorRows.lean that lists a variable, with what it lists TIED to the program's text (the seventh form; the later family's looks); each row that meets fmt, with fmt's text TOLD by the authors' own Lean function (tested against real Go, not proved from fmt's source: count such statements apart). THE CARD IS WHAT COUNTS. Prove the row's statement (the work); the ties are given (YtpehekonjdneaaaDoorTie.lean); close each card by the builder's one call (the guide's Derived/Test/ToyasCard.lean, 'card_holds'). Laid BY PROGRAM, IN A SANDBOX (cutbox-door.mjs). By AI agents, Wed Nov 11 2026. No macro, syntax, notation, axiom, sorry.
-/
import Derived.Test.YtpehekonjdneaaaDoorRows
import GoSem.ClaimSeven
namespace Go.Proofs.YtpehekonjdneaaaDoor
namespace Rows

/-- THE TIED CARD OF 'phasorlaw14.TableauBack'. -/
def tableauBackCard : Claim7 := { stood := { row := tableauBackRow, standIns := [], harness := (true, "6fb958ec5102f84c115d6bf18ab9dab022a4e2198f9ed1b1d54a0f35a568ae6e"), looks := false }, kinds := [], alts := [], laidByText := true, laidKinds := [.data, .data, .data], laidTests := true, laidLooks := .later }
def TableauBackCardSaid : Prop := Claim7.holds Tryd.pinned (.plain (OpenSpec.ofChange tableauBackSpec)) tableauBackCard

/-- THE SECOND FORM's CARD OF 'phasorlaw14.TableauBack'. -/
def tableauBackUptoCard : Claim7 := { stood := { row := tableauBackUptoRow, standIns := [], harness := (true, "6fb958ec5102f84c115d6bf18ab9dab022a4e2198f9ed1b1d54a0f35a568ae6e"), looks := false }, kinds := [], alts := [], laidByText := true, laidKinds := [.data, .data, .data], laidTests := true, laidLooks := .later }
def TableauBackUptoCardSaid : Prop := Claim7.holds Tryd.pinned (.plain (OpenSpec.upto tableauBackSpec)) tableauBackUptoCard
end Rows
end Go.Proofs.YtpehekonjdneaaaDoor
