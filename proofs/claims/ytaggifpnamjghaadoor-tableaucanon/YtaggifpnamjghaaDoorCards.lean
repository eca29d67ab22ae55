/-
  DERIVED. GIVEN WITH THE SEED: THE CARDS: each row of YtaggifpnamjghaaDoorRows.lean that lists a variable, with what it lists TIED to the program's text (the seventh form; the later family's looks); each row that meets fmt, with fmt's text TOLD by the authors' own Lean function (tested against real Go, not proved from fmt's source: count such statements apart). THE CARD IS WHAT COUNTS. Prove the row's statement (the work); the ties are given (YtaggifpnamjghaaDoorTie.lean); close each card by the builder's one call (the guide's Derived/Test/ToyasCard.lean, 'card_holds'). Laid BY PROGRAM, IN A SANDBOX (cutbox-door.mjs). By AI agents, Wed Nov 11 2026. No macro, syntax, notation, axiom, sorry.
-/
import Derived.Test.YtaggifpnamjghaaDoorRows
import GoSem.ClaimSeven
namespace Go.Proofs.YtaggifpnamjghaaDoor
namespace Rows

/-- THE TIED CARD OF 'phasorlaw14.TableauCanon'. -/
def tableauCanonCard : Claim7 := { stood := { row := tableauCanonRow, standIns := [], harness := (true, "a00f6de245e9bb0e6e416587fe36fcb63850cae15722c1c565dcaaa55a2793b3"), looks := false }, kinds := [], alts := [], laidByText := true, laidKinds := [.data, .data, .data], laidTests := true, laidLooks := .later }
def TableauCanonCardSaid : Prop := Claim7.holds Tryd.pinned (.plain (OpenSpec.ofChange tableauCanonSpec)) tableauCanonCard

/-- THE TIED CARD OF 'phasorlaw14.TableauForces'. -/
def tableauForcesCard : Claim7 := { stood := { row := tableauForcesRow, standIns := [], harness := (true, "a00f6de245e9bb0e6e416587fe36fcb63850cae15722c1c565dcaaa55a2793b3"), looks := false }, kinds := [], alts := [], laidByText := true, laidKinds := [.data, .data, .data], laidTests := true, laidLooks := .later }
def TableauForcesCardSaid : Prop := Claim7.holds Tryd.pinned (.plain (OpenSpec.ofChange tableauForcesSpec)) tableauForcesCard

/-- THE SECOND FORM's CARD OF 'phasorlaw14.TableauCanon'. -/
def tableauCanonUptoCard : Claim7 := { stood := { row := tableauCanonUptoRow, standIns := [], harness := (true, "a00f6de245e9bb0e6e416587fe36fcb63850cae15722c1c565dcaaa55a2793b3"), looks := false }, kinds := [], alts := [], laidByText := true, laidKinds := [.data, .data, .data], laidTests := true, laidLooks := .later }
def TableauCanonUptoCardSaid : Prop := Claim7.holds Tryd.pinned (.plain (OpenSpec.upto tableauCanonSpec)) tableauCanonUptoCard

/-- THE SECOND FORM's CARD OF 'phasorlaw14.TableauForces'. -/
def tableauForcesUptoCard : Claim7 := { stood := { row := tableauForcesUptoRow, standIns := [], harness := (true, "a00f6de245e9bb0e6e416587fe36fcb63850cae15722c1c565dcaaa55a2793b3"), looks := false }, kinds := [], alts := [], laidByText := true, laidKinds := [.data, .data, .data], laidTests := true, laidLooks := .later }
def TableauForcesUptoCardSaid : Prop := Claim7.holds Tryd.pinned (.plain (OpenSpec.upto tableauForcesSpec)) tableauForcesUptoCard
end Rows
end Go.Proofs.YtaggifpnamjghaaDoor
