import Derived.Test.YtbdphifecjigmaaGreatDoorRn0eec8cd8
import Derived.Stop.Asserts
namespace Go.Proofs.YtbdphifecjigmaaGreatDoor.Gt
end Go.Proofs.YtbdphifecjigmaaGreatDoor.Gt
namespace Go.Proofs.YtbdphifecjigmaaGreatDoor.Oct
end Go.Proofs.YtbdphifecjigmaaGreatDoor.Oct
namespace Go.Proofs.YtbdphifecjigmaaGreatDoor.Tok
end Go.Proofs.YtbdphifecjigmaaGreatDoor.Tok
namespace Go.Proofs.YtbdphifecjigmaaGreatDoor.Cir
open Go.RowKit Go.Shelf Go.Proofs.YtbdphifecjigmaaGreatDoor.Oct Go.Proofs.YtbdphifecjigmaaGreatDoor.Tok Go.Proofs.YtbdphifecjigmaaGreatDoor.Gt
theorem opC_one {w : World} {ys : List (COp × Value)} (h : ∀ x ∈ ys, IsI w x.2 x.1.qs) : ∀ u ∈ ys.flatMap opC, u.oneCell' = true := by
  intro u hu
  obtain ⟨x, hx, hux⟩ := List.mem_flatMap.1 hu
  obtain ⟨aq, cq, hv, _⟩ := (h x hx).ns
  unfold opC at hux
  rw [hv] at hux
  simp only [List.mem_cons, List.not_mem_nil, or_false] at hux
  rcases hux with rfl | rfl | rfl | rfl | rfl | rfl <;> rfl
end Go.Proofs.YtbdphifecjigmaaGreatDoor.Cir
