/-
  DERIVED. GIVEN WITH THE SEED: THE CARDS: each row of YtjniiobhcnjgbaaDoorRows.lean that lists a variable, with what it lists TIED to the program's text (the seventh form; the later family's looks); each row that meets fmt, with fmt's text TOLD by the authors' own Lean function (tested against real Go, not proved from fmt's source: count such statements apart). THE CARD IS WHAT COUNTS. Prove the row's statement (the work); the ties are given (YtjniiobhcnjgbaaDoorTie.lean); close each card by the builder's one call (the guide's Derived/Test/ToyasCard.lean, 'card_holds'). Laid BY PROGRAM, IN A SANDBOX (cutbox-door.mjs). By AI agents, Wed Nov 11 2026. No macro, syntax, notation, axiom, sorry.
-/
import Derived.Test.YtjniiobhcnjgbaaDoorRows
import GoSem.ClaimSeven
namespace Go.Proofs.YtjniiobhcnjgbaaDoor
namespace Rows

/-- THE TIED CARD OF 'phasorlaw20.RouteMaps'. -/
def routeMapsCard : Claim7 := { stood := { row := routeMapsRow, standIns := [], harness := (true, "678ffa38366f32e91c41a0184e5461c747035bb9e5aef0c35ca07d9d8464465e"), looks := false }, kinds := [], alts := [], laidByText := true, laidKinds := [.data], laidTests := true, laidLooks := .later }
def RouteMapsCardSaid : Prop := Claim7.holds Tryd.pinned (.plain (OpenSpec.ofChange routeMapsSpec)) routeMapsCard

/-- THE SECOND FORM's CARD OF 'phasorlaw20.RouteMaps'. -/
def routeMapsUptoCard : Claim7 := { stood := { row := routeMapsUptoRow, standIns := [], harness := (true, "678ffa38366f32e91c41a0184e5461c747035bb9e5aef0c35ca07d9d8464465e"), looks := false }, kinds := [], alts := [], laidByText := true, laidKinds := [.data], laidTests := true, laidLooks := .later }
def RouteMapsUptoCardSaid : Prop := Claim7.holds Tryd.pinned (.plain (OpenSpec.upto routeMapsSpec)) routeMapsUptoCard
end Rows
end Go.Proofs.YtjniiobhcnjgbaaDoor
