import Derived.Test.YtaggifpnamjghaaDoorK3bb81ef1
namespace Go.Proofs.YtaggifpnamjghaaDoor.Pau
open Go.RowKit Go.Proofs.YtaggifpnamjghaaDoor.Gt
theorem letP_in {p : P} (h : rt p = true) {q : Nat} (hq : (q : Int) < p.n) : letP p (q : Int) = lt (bt p.x q) (bt p.z q) := by
  unfold letP
  rw [if_pos ⟨h, by omega, hq⟩, Int.toNat_natCast]
end Go.Proofs.YtaggifpnamjghaaDoor.Pau
