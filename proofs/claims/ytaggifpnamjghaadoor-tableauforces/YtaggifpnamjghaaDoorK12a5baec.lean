import Derived.Test.YtaggifpnamjghaaDoorK27a76083
namespace Go.Proofs.YtaggifpnamjghaaDoor.Tbl
open Go.RowKit Go.Shelf Go.Proofs.YtaggifpnamjghaaDoor.Pau Go.Proofs.YtaggifpnamjghaaDoor.Gt
theorem one_mul {N : Nat} {a : P} (ha : Rr N a) : mulP ⟨(N : Int), 0, 0, 0⟩ a = a := by
  obtain ⟨-, -, -, -, h4, h5⟩ := rt_iff.1 ha.1
  refine P.ext' ha.2.symm (Nat.zero_xor _) (Nat.zero_xor _) ?_
  show mulPh _ a = a.ph
  unfold mulPh
  simp only
  rw [Nat.zero_xor, Nat.zero_xor, Nat.zero_and, Nat.zero_and, pc_zero]
  omega
theorem sg_of {t : TT} {N : Nat} (hc : chB t = true) (hN : t.n = (N : Int)) {i : Nat} (hi : i < N) : sgB (t.s.getD i oP) (N : Int) = true /\ sgB (t.d.getD i oP) (N : Int) = true := by
  have := (ch_iff.1 hc).2.1 i (by rw [hN]; omega)
  unfold sg2 at this
  rw [hN, Bool.and_eq_true] at this
  exact this
end Go.Proofs.YtaggifpnamjghaaDoor.Tbl
