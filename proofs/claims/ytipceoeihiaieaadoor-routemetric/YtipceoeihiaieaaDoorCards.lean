/-
  DERIVED. GIVEN WITH THE SEED: THE CARDS: each row of YtipceoeihiaieaaDoorRows.lean that lists a variable, with what it lists TIED to the program's text (the seventh form; the later family's looks); each row that meets fmt, with fmt's text TOLD by the authors' own Lean function (tested against real Go, not proved from fmt's source: count such statements apart). THE CARD IS WHAT COUNTS. Prove the row's statement (the work); the ties are given (YtipceoeihiaieaaDoorTie.lean); close each card by the builder's one call (the guide's Derived/Test/ToyasCard.lean, 'card_holds'). Laid BY PROGRAM, IN A SANDBOX (cutbox-door.mjs). By AI agents, Wed Nov 11 2026. No macro, syntax, notation, axiom, sorry.
-/
import Derived.Test.YtipceoeihiaieaaDoorRows
import GoSem.ClaimSeven
namespace Go.Proofs.YtipceoeihiaieaaDoor
namespace Rows

/-- THE TIED CARD OF 'phasorlaw20.RouteMetric'. -/
def routeMetricCard : Claim7 := { stood := { row := routeMetricRow, standIns := [], harness := (true, "860a3dbf837068d8f18359ba210353ad80a7062dfd871e216eed00e5afdc979c"), looks := false }, kinds := [], alts := [], laidByText := true, laidKinds := [.data], laidTests := true, laidLooks := .later }
def RouteMetricCardSaid : Prop := Claim7.holds Tryd.pinned (.plain (OpenSpec.ofChange routeMetricSpec)) routeMetricCard

/-- THE SECOND FORM's CARD OF 'phasorlaw20.RouteMetric'. -/
def routeMetricUptoCard : Claim7 := { stood := { row := routeMetricUptoRow, standIns := [], harness := (true, "860a3dbf837068d8f18359ba210353ad80a7062dfd871e216eed00e5afdc979c"), looks := false }, kinds := [], alts := [], laidByText := true, laidKinds := [.data], laidTests := true, laidLooks := .later }
def RouteMetricUptoCardSaid : Prop := Claim7.holds Tryd.pinned (.plain (OpenSpec.upto routeMetricSpec)) routeMetricUptoCard
end Rows
end Go.Proofs.YtipceoeihiaieaaDoor
