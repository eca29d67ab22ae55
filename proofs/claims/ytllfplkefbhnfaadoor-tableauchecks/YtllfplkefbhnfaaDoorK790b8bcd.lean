import Derived.Test.YtllfplkefbhnfaaDoorK8b7b74c0
namespace Go.Proofs.YtllfplkefbhnfaaDoor.Pau
open Go.RowKit Go.Proofs.YtllfplkefbhnfaaDoor.Gt
def nz (p : P) (j : Nat) : Nat := if letP p (j : Int) = 0 ∨ letP p (j : Int) = 73 then 0 else 1
theorem letP_in {p : P} (h : rt p = true) {q : Nat} (hq : (q : Int) < p.n) : letP p (q : Int) = lt (bt p.x q) (bt p.z q) := by
  unfold letP
  rw [if_pos ⟨h, by omega, hq⟩, Int.toNat_natCast]
end Go.Proofs.YtllfplkefbhnfaaDoor.Pau
