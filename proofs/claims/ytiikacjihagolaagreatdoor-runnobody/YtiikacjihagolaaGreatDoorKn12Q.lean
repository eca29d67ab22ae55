/- The reckoned law as a call of the model, in a world that holds the listed variables. -/
import Derived.Test.YtiikacjihagolaaGreatDoorKn12
import Derived.Test.YtiikacjihagolaaGreatDoorFrN12
namespace Go.Proofs.YtiikacjihagolaaGreatDoor.Nob
open Go Go.Lib Go.RowKit Go.Proofs.YtiikacjihagolaaGreatDoor.Ev
theorem cells1 {W : World} (h : laidMet Tryz.prog laid8 W) : ∀ i v, lv1[i]? = some v → W.cell? ⟨1, i, none⟩ = some v :=
  cells_of_reads (P := Tryz.prog) (vs := lv1) (t := (Tryz.prog.globals[1]?.map (·.type)).getD 0) 8 (Lib.laidMet.reads h (n := "phasor/gate.table") (d := Rows.laid_phasor_gate_table) (.tail _ (.tail _ (.head _)))) (by kernel_rfl) (by kernel_rfl) (by kernel_rfl)
theorem cells3 {W : World} (h : laidMet Tryz.prog laid8 W) : ∀ i v, lv3[i]? = some v → W.cell? ⟨3, i, none⟩ = some v :=
  cells_of_reads (P := Tryz.prog) (vs := lv3) (t := (Tryz.prog.globals[3]?.map (·.type)).getD 0) 8 (Lib.laidMet.reads h (n := "math/bits.deBruijn64tab") (d := Rows.laid_math_bits_deBruijn64tab) (.tail _ (.head _))) (by kernel_rfl) (by kernel_rfl) (by kernel_rfl)
theorem cells4 {W : World} (h : laidMet Tryz.prog laid8 W) : ∀ i v, lv4[i]? = some v → W.cell? ⟨4, i, none⟩ = some v :=
  cells_of_reads (P := Tryz.prog) (vs := lv4) (t := (Tryz.prog.globals[4]?.map (·.type)).getD 0) 8 (Lib.laidMet.reads h (n := "phasor/gate.deeds") (d := Rows.laid_phasor_gate_deeds) (.tail _ (.tail _ (.tail _ (.head _))))) (by kernel_rfl) (by kernel_rfl) (by kernel_rfl)
theorem cell_lt {W : World} {a : Addr} {v : Value} (h : W.cell? a = some v) : a.block < W.heap.size := by
  rcases Nat.lt_or_ge a.block W.heap.size with h1 | h1
  · exact h1
  · exfalso
    unfold World.cell? at h
    rw [Array.getElem?_eq_none h1] at h
    simp at h
theorem GL_le {b : Nat} (h : GL b = true) : b ≤ 4 := by
  simp only [GL, Bool.or_eq_true, Nat.beq_eq] at h
  omega
theorem root_wr (u : Nat) : ∀ b, b ≤ 4 → (root0 u).wr.testBit b = false := by
  have h : (List.range 5).all (fun b => !(root0 0).wr.testBit b) = true := by decide +kernel
  intro b hb
  have := List.all_eq_true.1 h b (by simp; omega)
  change (root0 0).wr.testBit b = false
  simpa using this
theorem root_calls {W : World} (h : laidMet Tryz.prog laid8 W) (u : Nat) : Calls Tryz.prog 3 #[.float .f64 u] W fun e W' => e = .returned (.bool true) ∧ Below W.heap.size W W' := by
  have h6 : 4 < W.heap.size := cell_lt (cells4 h 0 _ rfl)
  refine SumOk.calls (root0_ok u) rfl rfl rfl (fun b hb => ?_) (fun b vs hm i v hi => ?_)
  · have hb := GL_le hb
    refine ⟨?_, root_wr u b hb, by omega⟩
    change b < 1000
    omega
  · change (b, Blk.ro vs) ∈ [(1, Blk.ro lv1), (3, Blk.ro lv3), (4, Blk.ro lv4)] at hm
    simp only [List.mem_cons, Prod.mk.injEq, Blk.ro.injEq, List.not_mem_nil, or_false] at hm
    rcases hm with ⟨rfl, rfl⟩ | ⟨rfl, rfl⟩ | ⟨rfl, rfl⟩
    · exact cells1 h i v hi
    · exact cells3 h i v hi
    · exact cells4 h i v hi
end Go.Proofs.YtiikacjihagolaaGreatDoor.Nob
