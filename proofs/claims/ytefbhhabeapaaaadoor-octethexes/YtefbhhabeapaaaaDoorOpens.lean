/- Arguments, opened: a slice of bytes, numbers. -/
import Derived.Test.YtefbhhabeapaaaaDoorFrame
import Derived.Test.YtefbhhabeapaaaaDoorLib
namespace Go.Proofs.YtefbhhabeapaaaaDoor.Oct
open Go.ChangeShapes Go.WideShapes Go.ChangeAt Go.RowKit

theorem cells5 : Tryd.prog.cellsOf 5 = 1 := by kernel_rfl
theorem bytesOf5 : Tryd.prog.bytesOf 5 = 1 := by kernel_rfl
set_option maxRecDepth 100000 in
/-- A slice of bytes that came in. -/
theorem bytes_open {H : Type} {enc : TypeId × Value → H} {W : World} {base : Nat} {v : Value} {d : DataW H} {p : List MemPlace} (hval : Value.okWide Tryd.prog W .any base 22 v)
    (h : DataW.Trod enc Tryd.prog W 0 (fun _ => true) true 22 v d p) :
    ∃ ao c l, v = .slice ao l.length c ∧ Bs W ao l ∧ l.length ≤ c ∧ c ≤ maxLen ∧ ((d = .nil ∧ l = []) ∨ ∃ elems spare, d = .slice elems spare ∧ elems.length = l.length) := by
  obtain ⟨a0, len, cap, rfl⟩ := okWide_slice Tryd.underlying22 hval
  obtain ⟨fuel, hf⟩ := h
  rcases open_ints Tryd.underlying22 Tryd.underlying5 cells5 hf with ⟨hcs, hx⟩ | ⟨a, len', cap', zs, hcs, _, hl, hm, hz, hx, hcell, hwz⟩
  · simp [Value.cells] at hcs
    obtain ⟨rfl, rfl, rfl⟩ := hcs
    simp only [Prod.mk.injEq] at hx
    exact ⟨none, 0, [], rfl, fun j b hj => by simp at hj, Nat.le_refl _, Nat.zero_le _, .inl ⟨hx.1, rfl⟩⟩
  · simp [Value.cells] at hcs
    obtain ⟨rfl, rfl, rfl⟩ := hcs
    simp only [Prod.mk.injEq] at hx
    simp only [if_true] at hz
    have hlen : ((zs.take len).map fun z => UInt8.ofNat z.toNat).length = len := by simp; omega
    refine ⟨some a, cap, (zs.take len).map fun z => UInt8.ofNat z.toNat, by rw [hlen], ?_, by rw [hlen]; exact hl, hm, .inr ⟨_, _, hx.1, by simp [lits]⟩⟩
    intro j b hj
    have hjl : j < len := by have := (List.getElem?_eq_some_iff.1 hj).1; rw [hlen] at this; exact this
    obtain ⟨g, off, rfl, hc⟩ := ints_at hcell (by omega)
    refine ⟨g, off, rfl, ?_⟩
    have h1 := hc j (by omega)
    rw [h1]
    simp only [List.getElem?_map, List.getElem?_take, hjl, if_true, Option.map_eq_some_iff] at hj
    obtain ⟨z, hz', rfl⟩ := hj
    have hmem : z ∈ zs := List.mem_of_getElem? hz'
    have hb := bounds_u8 (hwz z hmem)
    have e1 : zs.getD j 0 = z := by simp [List.getD, hz']
    rw [e1, UInt8.toNat_ofNat', Nat.mod_eq_of_lt (by omega)]
    congr 2
    omega
end Go.Proofs.YtefbhhabeapaaaaDoor.Oct
