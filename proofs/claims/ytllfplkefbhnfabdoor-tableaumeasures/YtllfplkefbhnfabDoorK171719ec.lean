import Derived.Test.YtllfplkefbhnfabDoorK7358e9d9
namespace Go.Proofs.YtllfplkefbhnfabDoor.Pau
open Go.RowKit Go.Proofs.YtllfplkefbhnfabDoor.Gt
theorem letP_in {p : P} (h : rt p = true) {q : Nat} (hq : (q : Int) < p.n) : letP p (q : Int) = lt (bt p.x q) (bt p.z q) := by
  unfold letP
  rw [if_pos ⟨h, by omega, hq⟩, Int.toNat_natCast]
end Go.Proofs.YtllfplkefbhnfabDoor.Pau
