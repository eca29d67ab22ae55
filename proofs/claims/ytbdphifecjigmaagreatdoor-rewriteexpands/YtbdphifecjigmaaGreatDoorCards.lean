/-
  DERIVED. GIVEN WITH THE SEED: THE CARDS: each row of YtbdphifecjigmaaGreatDoorRows.lean that lists a variable, with what it lists TIED to the program's text (the seventh form; the later family's looks); each row that meets fmt, with fmt's text TOLD by the authors' own Lean function (tested against real Go, not proved from fmt's source: count such statements apart). THE CARD IS WHAT COUNTS. Prove the row's statement (the work); the ties are given (YtbdphifecjigmaaGreatDoorTie.lean); close each card by the builder's one call (the guide's Derived/Test/ToyasCard.lean, 'card_holds'). Laid BY PROGRAM, IN A SANDBOX (cutbox-door.mjs). By AI agents, Wed Nov 11 2026. No macro, syntax, notation, axiom, sorry.
-/
import Derived.Test.YtbdphifecjigmaaGreatDoorRows
import GoSem.ClaimSeven
namespace Go.Proofs.YtbdphifecjigmaaGreatDoor
namespace Rows

/-- THE TIED CARD OF 'phasorlaw18.RewriteExpands'. -/
def rewriteExpandsCard : Claim7 := { stood := { row := rewriteExpandsRow, standIns := [], harness := (true, "a014f675162a64eb72a54293c9dbdeb06322d05f823871da84f876bac8ca46e5"), looks := false }, kinds := [], alts := [], laidByText := true, laidKinds := [.data, .data, .data], laidTests := true, laidLooks := .later }
def RewriteExpandsCardSaid : Prop := Claim7.holds Tryz.pinned (.plain (OpenSpec.ofChange rewriteExpandsSpec)) rewriteExpandsCard

/-- THE SECOND FORM's CARD OF 'phasorlaw18.RewriteExpands'. -/
def rewriteExpandsUptoCard : Claim7 := { stood := { row := rewriteExpandsUptoRow, standIns := [], harness := (true, "a014f675162a64eb72a54293c9dbdeb06322d05f823871da84f876bac8ca46e5"), looks := false }, kinds := [], alts := [], laidByText := true, laidKinds := [.data, .data, .data], laidTests := true, laidLooks := .later }
def RewriteExpandsUptoCardSaid : Prop := Claim7.holds Tryz.pinned (.plain (OpenSpec.upto rewriteExpandsSpec)) rewriteExpandsUptoCard
end Rows
end Go.Proofs.YtbdphifecjigmaaGreatDoor
