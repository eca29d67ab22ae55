/- A slice of ints that came in. -/
import Derived.Test.YtckcdgobgpjdkaaDoorOpens
import Derived.Test.YtckcdgobgpjdkaaDoorRs7
namespace Go.Proofs.YtckcdgobgpjdkaaDoor.Oct
open Go.ChangeShapes Go.WideShapes Go.ChangeAt Go.RowKit

theorem cellsInt : Tryd.prog.cellsOf 3 = 1 := by kernel_rfl
set_option maxRecDepth 100000 in
theorem ints_open {H : Type} {enc : TypeId × Value → H} {W : World} {base : Nat} {v : Value} {d : DataW H} {p : List MemPlace} (hval : Value.okWide Tryd.prog W .any base 50 v)
    (h : DataW.Trod enc Tryd.prog W 0 (fun _ => true) true 50 v d p) :
    ∃ ao c ks, v = .slice ao (List.length ks) c ∧ Is W ao ks ∧ ks.length ≤ 9223372036854775807 := by
  obtain ⟨a0, len, cap, rfl⟩ := okWide_slice Tryd.underlying50 hval
  obtain ⟨fuel, hf⟩ := h
  rcases open_ints Tryd.underlying50 Tryd.underlying3 cellsInt hf with ⟨hcs, hx⟩ | ⟨a, len', cap', zs, hcs, _, hl, hm, hz, hx, hcell, hwz⟩
  · simp [Value.cells] at hcs
    obtain ⟨rfl, rfl, rfl⟩ := hcs
    exact ⟨none, 0, [], rfl, fun j b hj => by simp at hj, Nat.zero_le _⟩
  · simp [Value.cells] at hcs
    obtain ⟨rfl, rfl, rfl⟩ := hcs
    simp only [if_true] at hz
    have hlen : (zs.take len).length = len := by simp; omega
    refine ⟨some a, cap, zs.take len, by rw [hlen], ?_, by rw [hlen]; unfold maxLen at hm; omega⟩
    intro j k hj
    have hjl : j < len := by have := (List.getElem?_eq_some_iff.1 hj).1; rw [hlen] at this; exact this
    obtain ⟨g, off, rfl, hc⟩ := ints_at hcell (by omega)
    refine ⟨g, off, rfl, ?_⟩
    have h1 := hc j (by omega)
    rw [h1]
    simp only [List.getElem?_take, hjl, if_true] at hj
    have e1 : zs.getD j 0 = k := by simp [List.getD, hj]
    rw [e1]
end Go.Proofs.YtckcdgobgpjdkaaDoor.Oct
