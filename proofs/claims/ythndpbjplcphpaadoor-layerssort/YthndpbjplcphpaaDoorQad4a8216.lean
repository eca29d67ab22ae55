import Derived.Test.YthndpbjplcphpaaDoorQbeff6751
import Derived.Test.YthndpbjplcphpaaDoorQc1ed6dac
import Derived.Test.YthndpbjplcphpaaDoorQec9601ab
namespace Go.Proofs.YthndpbjplcphpaaDoor.Cir
open Go.RowKit Go.Shelf Go.Proofs.YthndpbjplcphpaaDoor.Oct Go.Proofs.YthndpbjplcphpaaDoor.Tok Go.Proofs.YthndpbjplcphpaaDoor.Gt
theorem OpsAt.keptM {w w' : World} {B : Nat} {ao : Option Addr} {n c : Nat} {ops : List COp} {M : List Nat} (h : OpsAt w B ao n c ops) (hk : Kb M w w') (hM : ∀ m, m ∈ M -> ∀ cs t fr, w.heap[m]? = some (.cells cs t fr) -> t ≠ 57 /\ t ≠ 3) : OpsAt w' B ao n c ops := by
  obtain ⟨xs, h1, h2, h3, h4⟩ := h
  refine ⟨xs, h1, h2, own_of_block h3 (fun k hk' => hk.block k (own_lt h3 k hk').2 (fun e => ?_)), fun x hx => (h4 x hx).block fun g _ _ hg => hk.block g (Array.getElem?_eq_some_iff.1 hg).1 (fun e => (hM g e _ _ _ hg).2 rfl)⟩
  obtain ⟨cs, fr, hg⟩ := own_cells' h3 hk'
  exact (hM k e _ _ _ hg).1 rfl
end Go.Proofs.YthndpbjplcphpaaDoor.Cir
