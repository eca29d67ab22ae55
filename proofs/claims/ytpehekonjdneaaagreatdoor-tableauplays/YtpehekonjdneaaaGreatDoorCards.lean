/-
  DERIVED. GIVEN WITH THE SEED: THE CARDS: each row of YtpehekonjdneaaaGreatDoorRows.lean that lists a variable, with what it lists TIED to the program's text (the seventh form; the later family's looks); each row that meets fmt, with fmt's text TOLD by the authors' own Lean function (tested against real Go, not proved from fmt's source: count such statements apart). THE CARD IS WHAT COUNTS. Prove the row's statement (the work); the ties are given (YtpehekonjdneaaaGreatDoorTie.lean); close each card by the builder's one call (the guide's Derived/Test/ToyasCard.lean, 'card_holds'). Laid BY PROGRAM, IN A SANDBOX (cutbox-door.mjs). By AI agents, Wed Nov 11 2026. No macro, syntax, notation, axiom, sorry.
-/
import Derived.Test.YtpehekonjdneaaaGreatDoorRows
import GoSem.ClaimSeven
namespace Go.Proofs.YtpehekonjdneaaaGreatDoor
namespace Rows

/-- THE TIED CARD OF 'phasorlaw14.TableauPlays'. -/
def tableauPlaysCard : Claim7 := { stood := { row := tableauPlaysRow, standIns := [], harness := (true, "94091df10929f1f247fad871ccf2a10b40c599796ee6305fafc6443a74d96017"), looks := false }, kinds := [], alts := [], laidByText := true, laidKinds := [.data, .data, .data], laidTests := true, laidLooks := .later }
def TableauPlaysCardSaid : Prop := Claim7.holds Tryz.pinned (.plain (OpenSpec.ofChange tableauPlaysSpec)) tableauPlaysCard

/-- THE TIED CARD OF 'phasorlaw14.TableauHands'. -/
def tableauHandsCard : Claim7 := { stood := { row := tableauHandsRow, standIns := [], harness := (true, "94091df10929f1f247fad871ccf2a10b40c599796ee6305fafc6443a74d96017"), looks := false }, kinds := [], alts := [], laidByText := true, laidKinds := [.data, .data, .data], laidTests := true, laidLooks := .later }
def TableauHandsCardSaid : Prop := Claim7.holds Tryz.pinned (.plain (OpenSpec.ofChange tableauHandsSpec)) tableauHandsCard

/-- THE SECOND FORM's CARD OF 'phasorlaw14.TableauPlays'. -/
def tableauPlaysUptoCard : Claim7 := { stood := { row := tableauPlaysUptoRow, standIns := [], harness := (true, "94091df10929f1f247fad871ccf2a10b40c599796ee6305fafc6443a74d96017"), looks := false }, kinds := [], alts := [], laidByText := true, laidKinds := [.data, .data, .data], laidTests := true, laidLooks := .later }
def TableauPlaysUptoCardSaid : Prop := Claim7.holds Tryz.pinned (.plain (OpenSpec.upto tableauPlaysSpec)) tableauPlaysUptoCard

/-- THE SECOND FORM's CARD OF 'phasorlaw14.TableauHands'. -/
def tableauHandsUptoCard : Claim7 := { stood := { row := tableauHandsUptoRow, standIns := [], harness := (true, "94091df10929f1f247fad871ccf2a10b40c599796ee6305fafc6443a74d96017"), looks := false }, kinds := [], alts := [], laidByText := true, laidKinds := [.data, .data, .data], laidTests := true, laidLooks := .later }
def TableauHandsUptoCardSaid : Prop := Claim7.holds Tryz.pinned (.plain (OpenSpec.upto tableauHandsSpec)) tableauHandsUptoCard
end Rows
end Go.Proofs.YtpehekonjdneaaaGreatDoor
