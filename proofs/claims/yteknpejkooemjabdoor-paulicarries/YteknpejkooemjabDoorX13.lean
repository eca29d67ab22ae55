/- A string that came in, opened. -/
import Derived.Test.YteknpejkooemjabDoorFr13
namespace Go.Proofs.YteknpejkooemjabDoor.Pau
open Go.ChangeShapes Go.WideShapes Go.ChangeAt Go.RowKit Go.Shelf Go.Proofs.YteknpejkooemjabDoor.Oct Go.Proofs.YteknpejkooemjabDoor.Gt

theorem cellsP : Tryd.prog.cellsOf 24 = 4 := by kernel_rfl
theorem cellsU : Tryd.prog.cellsOf 22 = 1 := by kernel_rfl
theorem u64_nat {n : Int} (h : (Lit.int .u64 n).wf = true) : ∃ k : Nat, n = (k : Int) ∧ k < 18446744073709551616 := by
  have hb := bounds_u64 h
  exact ⟨n.toNat, by omega, by omega⟩
set_option maxRecDepth 100000 in
theorem pauli_open {H : Type} {enc : TypeId × Value → H} {W : World} {base : Nat} {v : Value} {d : DataW H} {p : List MemPlace} (hval : Value.okWide Tryd.prog W .any base 24 v)
    (h : DataW.Trod enc Tryd.prog W 0 (fun _ => true) true 24 v d p) : ∃ q : P, v = pV q ∧ Wd q := by
  obtain ⟨cs, rfl, _⟩ := okWide_struct Tryd.underlying24 hval
  obtain ⟨fuel, hf⟩ := h
  obtain ⟨y0, y1, y2, y3, n, hx, hl, h0, h1, h2, h3⟩ := Go.Joins.trod_struct4 Tryd.underlying24 hf
  rw [cellsP] at hl
  simp only [cellsI, cellsU] at h0 h1 h2 h3
  have hc : ∃ a b c e, cs = #[a, b, c, e] := by
    have hl' : cs.toList.length = 4 := by simpa [Value.cells] using hl
    match hcs : cs.toList, hl' with
    | [a, b, c, e], _ => exact ⟨a, b, c, e, by apply Array.ext'; rw [hcs]⟩
  obtain ⟨a, b, c, e, rfl⟩ := hc
  simp only [Value.cells, List.drop_zero, List.drop_succ_cons, List.take_succ_cons, List.take_zero] at h0 h1 h2 h3
  obtain ⟨z0, e0, -, -⟩ := DataW.trod_int Tryd.underlying3 h0
  obtain ⟨z1, e1, -, w1⟩ := DataW.trod_int Tryd.underlying22 h1
  obtain ⟨z2, e2, -, w2⟩ := DataW.trod_int Tryd.underlying22 h2
  obtain ⟨z3, e3, -, -⟩ := DataW.trod_int Tryd.underlying3 h3
  cases e0; cases e1; cases e2; cases e3
  obtain ⟨k1, rfl, l1⟩ := u64_nat w1
  obtain ⟨k2, rfl, l2⟩ := u64_nat w2
  exact ⟨⟨z0, k1, k2, z3⟩, rfl, l1, l2⟩
end Go.Proofs.YteknpejkooemjabDoor.Pau
