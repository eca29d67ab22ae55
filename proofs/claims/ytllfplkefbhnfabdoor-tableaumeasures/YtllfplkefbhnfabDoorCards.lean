/-
  DERIVED. GIVEN WITH THE SEED: THE CARDS: each row of YtllfplkefbhnfabDoorRows.lean that lists a variable, with what it lists TIED to the program's text (the seventh form; the later family's looks); each row that meets fmt, with fmt's text TOLD by the authors' own Lean function (tested against real Go, not proved from fmt's source: count such statements apart). THE CARD IS WHAT COUNTS. Prove the row's statement (the work); the ties are given (YtllfplkefbhnfabDoorTie.lean); close each card by the builder's one call (the guide's Derived/Test/ToyasCard.lean, 'card_holds'). Laid BY PROGRAM, IN A SANDBOX (cutbox-door.mjs). By AI agents, Wed Nov 11 2026. No macro, syntax, notation, axiom, sorry.
-/
import Derived.Test.YtllfplkefbhnfabDoorRows
import GoSem.ClaimSeven
namespace Go.Proofs.YtllfplkefbhnfabDoor
namespace Rows

/-- THE TIED CARD OF 'phasorlaw14.TableauMeasures'. -/
def tableauMeasuresCard : Claim7 := { stood := { row := tableauMeasuresRow, standIns := [], harness := (true, "214e639bcba6b79d958c77928ea1e709eaa385bcff5ed41300e21bf2adf38047"), looks := false }, kinds := [], alts := [], laidByText := true, laidKinds := [.data, .data, .data], laidTests := true, laidLooks := .later }
def TableauMeasuresCardSaid : Prop := Claim7.holds Tryd.pinned (.plain (OpenSpec.ofChange tableauMeasuresSpec)) tableauMeasuresCard

/-- THE TIED CARD OF 'phasorlaw14.TableauForces'. -/
def tableauForcesCard : Claim7 := { stood := { row := tableauForcesRow, standIns := [], harness := (true, "214e639bcba6b79d958c77928ea1e709eaa385bcff5ed41300e21bf2adf38047"), looks := false }, kinds := [], alts := [], laidByText := true, laidKinds := [.data, .data, .data], laidTests := true, laidLooks := .later }
def TableauForcesCardSaid : Prop := Claim7.holds Tryd.pinned (.plain (OpenSpec.ofChange tableauForcesSpec)) tableauForcesCard

/-- THE SECOND FORM's CARD OF 'phasorlaw14.TableauMeasures'. -/
def tableauMeasuresUptoCard : Claim7 := { stood := { row := tableauMeasuresUptoRow, standIns := [], harness := (true, "214e639bcba6b79d958c77928ea1e709eaa385bcff5ed41300e21bf2adf38047"), looks := false }, kinds := [], alts := [], laidByText := true, laidKinds := [.data, .data, .data], laidTests := true, laidLooks := .later }
def TableauMeasuresUptoCardSaid : Prop := Claim7.holds Tryd.pinned (.plain (OpenSpec.upto tableauMeasuresSpec)) tableauMeasuresUptoCard

/-- THE SECOND FORM's CARD OF 'phasorlaw14.TableauForces'. -/
def tableauForcesUptoCard : Claim7 := { stood := { row := tableauForcesUptoRow, standIns := [], harness := (true, "214e639bcba6b79d958c77928ea1e709eaa385bcff5ed41300e21bf2adf38047"), looks := false }, kinds := [], alts := [], laidByText := true, laidKinds := [.data, .data, .data], laidTests := true, laidLooks := .later }
def TableauForcesUptoCardSaid : Prop := Claim7.holds Tryd.pinned (.plain (OpenSpec.upto tableauForcesSpec)) tableauForcesUptoCard
end Rows
end Go.Proofs.YtllfplkefbhnfabDoor
