/- The law PauliAsks, as it is walked. -/
import Derived.Test.YteknpejkooemjaaDoorV13
import Derived.Deep.Quiet
namespace Go.Proofs.YteknpejkooemjaaDoor.Pau
open Go.RowKit Go.Shelf Go.Proofs.YteknpejkooemjaaDoor.Oct Go.Proofs.YteknpejkooemjaaDoor.Gt

theorem wp_region_quiet_C {P : Program} {C : World → Prop} {id : Nat} {Q : Exit → Act → World → Prop} {a : Act} {w : World} {l : List Oper} (hm : P.follows .mixedOrders = true) (hB : Region.lexB .any l.toArray = true) (hC : C { w with drawn := w.drawn + 1 })
    (h : wpQuiet P l.toArray C (fun a' => ∀ w', C w' → Q .normal a' w') l a) : (Code.region id l.toArray true).wp P Q a w :=
  wp_region_quiet hm hB hC (by simpa using h)
end Go.Proofs.YteknpejkooemjaaDoor.Pau
