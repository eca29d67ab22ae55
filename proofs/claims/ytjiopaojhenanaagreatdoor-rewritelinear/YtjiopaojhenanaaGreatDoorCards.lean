/-
  DERIVED. GIVEN WITH THE SEED: THE CARDS: each row of YtjiopaojhenanaaGreatDoorRows.lean that lists a variable, with what it lists TIED to the program's text (the seventh form; the later family's looks); each row that meets fmt, with fmt's text TOLD by the authors' own Lean function (tested against real Go, not proved from fmt's source: count such statements apart). THE CARD IS WHAT COUNTS. Prove the row's statement (the work); the ties are given (YtjiopaojhenanaaGreatDoorTie.lean); close each card by the builder's one call (the guide's Derived/Test/ToyasCard.lean, 'card_holds'). Laid BY PROGRAM, IN A SANDBOX (cutbox-door.mjs). By AI agents, Wed Nov 11 2026. No macro, syntax, notation, axiom, sorry.
-/
import Derived.Test.YtjiopaojhenanaaGreatDoorRows
import GoSem.ClaimSeven
namespace Go.Proofs.YtjiopaojhenanaaGreatDoor
namespace Rows

/-- THE TIED CARD OF 'phasorlaw18.RewriteLinear'. -/
def rewriteLinearCard : Claim7 := { stood := { row := rewriteLinearRow, standIns := [], harness := (true, "9fc294804013b953fb9805eb78c6b679d92f5d7dbf72d04fd903df5adc8cd05d"), looks := false }, kinds := [], alts := [], laidByText := true, laidKinds := [.data, .data, .data], laidTests := true, laidLooks := .later }
def RewriteLinearCardSaid : Prop := Claim7.holds Tryz.pinned (.plain (OpenSpec.ofChange rewriteLinearSpec)) rewriteLinearCard

/-- THE SECOND FORM's CARD OF 'phasorlaw18.RewriteLinear'. -/
def rewriteLinearUptoCard : Claim7 := { stood := { row := rewriteLinearUptoRow, standIns := [], harness := (true, "9fc294804013b953fb9805eb78c6b679d92f5d7dbf72d04fd903df5adc8cd05d"), looks := false }, kinds := [], alts := [], laidByText := true, laidKinds := [.data, .data, .data], laidTests := true, laidLooks := .later }
def RewriteLinearUptoCardSaid : Prop := Claim7.holds Tryz.pinned (.plain (OpenSpec.upto rewriteLinearSpec)) rewriteLinearUptoCard
end Rows
end Go.Proofs.YtjiopaojhenanaaGreatDoor
