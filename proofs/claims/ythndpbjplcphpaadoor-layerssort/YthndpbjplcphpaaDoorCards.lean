/-
  DERIVED. GIVEN WITH THE SEED: THE CARDS: each row of YthndpbjplcphpaaDoorRows.lean that lists a variable, with what it lists TIED to the program's text (the seventh form; the later family's looks); each row that meets fmt, with fmt's text TOLD by the authors' own Lean function (tested against real Go, not proved from fmt's source: count such statements apart). THE CARD IS WHAT COUNTS. Prove the row's statement (the work); the ties are given (YthndpbjplcphpaaDoorTie.lean); close each card by the builder's one call (the guide's Derived/Test/ToyasCard.lean, 'card_holds'). Laid BY PROGRAM, IN A SANDBOX (cutbox-door.mjs). By AI agents, Wed Nov 11 2026. No macro, syntax, notation, axiom, sorry.
-/
import Derived.Test.YthndpbjplcphpaaDoorRows
import GoSem.ClaimSeven
namespace Go.Proofs.YthndpbjplcphpaaDoor
namespace Rows

/-- THE TIED CARD OF 'phasorlaw19.LayersTell'. -/
def layersTellCard : Claim7 := { stood := { row := layersTellRow, standIns := [], harness := (true, "4735587e2ef2a66a89a678528a6ab1c19d7b355e29b88620799f4b4556b0f666"), looks := false }, kinds := [], alts := [], laidByText := true, laidKinds := [.data], laidTests := true, laidLooks := .later }
def LayersTellCardSaid : Prop := Claim7.holds Tryd.pinned (.plain (OpenSpec.ofChange layersTellSpec)) layersTellCard

/-- THE TIED CARD OF 'phasorlaw19.LayersSort'. -/
def layersSortCard : Claim7 := { stood := { row := layersSortRow, standIns := [], harness := (true, "4735587e2ef2a66a89a678528a6ab1c19d7b355e29b88620799f4b4556b0f666"), looks := false }, kinds := [], alts := [], laidByText := true, laidKinds := [.data], laidTests := true, laidLooks := .later }
def LayersSortCardSaid : Prop := Claim7.holds Tryd.pinned (.plain (OpenSpec.ofChange layersSortSpec)) layersSortCard

/-- THE TIED CARD OF 'phasorlaw19.LayersOrder'. -/
def layersOrderCard : Claim7 := { stood := { row := layersOrderRow, standIns := [], harness := (true, "4735587e2ef2a66a89a678528a6ab1c19d7b355e29b88620799f4b4556b0f666"), looks := false }, kinds := [], alts := [], laidByText := true, laidKinds := [.data], laidTests := true, laidLooks := .later }
def LayersOrderCardSaid : Prop := Claim7.holds Tryd.pinned (.plain (OpenSpec.ofChange layersOrderSpec)) layersOrderCard

/-- THE SECOND FORM's CARD OF 'phasorlaw19.LayersTell'. -/
def layersTellUptoCard : Claim7 := { stood := { row := layersTellUptoRow, standIns := [], harness := (true, "4735587e2ef2a66a89a678528a6ab1c19d7b355e29b88620799f4b4556b0f666"), looks := false }, kinds := [], alts := [], laidByText := true, laidKinds := [.data], laidTests := true, laidLooks := .later }
def LayersTellUptoCardSaid : Prop := Claim7.holds Tryd.pinned (.plain (OpenSpec.upto layersTellSpec)) layersTellUptoCard

/-- THE SECOND FORM's CARD OF 'phasorlaw19.LayersSort'. -/
def layersSortUptoCard : Claim7 := { stood := { row := layersSortUptoRow, standIns := [], harness := (true, "4735587e2ef2a66a89a678528a6ab1c19d7b355e29b88620799f4b4556b0f666"), looks := false }, kinds := [], alts := [], laidByText := true, laidKinds := [.data], laidTests := true, laidLooks := .later }
def LayersSortUptoCardSaid : Prop := Claim7.holds Tryd.pinned (.plain (OpenSpec.upto layersSortSpec)) layersSortUptoCard

/-- THE SECOND FORM's CARD OF 'phasorlaw19.LayersOrder'. -/
def layersOrderUptoCard : Claim7 := { stood := { row := layersOrderUptoRow, standIns := [], harness := (true, "4735587e2ef2a66a89a678528a6ab1c19d7b355e29b88620799f4b4556b0f666"), looks := false }, kinds := [], alts := [], laidByText := true, laidKinds := [.data], laidTests := true, laidLooks := .later }
def LayersOrderUptoCardSaid : Prop := Claim7.holds Tryd.pinned (.plain (OpenSpec.upto layersOrderSpec)) layersOrderUptoCard
end Rows
end Go.Proofs.YthndpbjplcphpaaDoor
