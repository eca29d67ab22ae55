/- Layer 20: the document's Right (gen_am20.py). -/
import Derived.Test.YtipceoeihiaieaaDoorAl20
namespace Go.Proofs.YtipceoeihiaieaaDoor.Rou
open Go.RowKit

/-- A map is right. -/
def RtP (N : Int) (ps : List Pr) : Prop := 1 ≤ N ∧ N ≤ 64 ∧ (∀ p ∈ ps, 0 ≤ p.1 ∧ p.1 < N ∧ 0 ≤ p.2 ∧ p.2 < N ∧ p.1 ≠ p.2) ∧ ∀ k, k < N.toNat → 0 ≤ (dRow N.toNat ps 0).getD k 0
/-- An answer tells. -/
def TellP (e : Ending) (X : Prop) : Prop := ∃ b : Bool, e = .returned (.bool b) ∧ (b = true ↔ X)
theorem tells_no {X : Prop} (h : ¬ X) : TellP (.returned (.bool false)) X := ⟨false, rfl, fun e => absurd e (by decide), fun e => absurd e h⟩
theorem tells_yes {X : Prop} (h : X) : TellP (.returned (.bool true)) X := ⟨true, rfl, fun _ => h, fun _ => rfl⟩
end Go.Proofs.YtipceoeihiaieaaDoor.Rou
