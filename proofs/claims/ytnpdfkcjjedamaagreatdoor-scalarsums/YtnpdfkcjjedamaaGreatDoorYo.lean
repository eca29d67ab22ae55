/- A slice of numbers of 64 bits that came in, opened. -/
import Derived.Test.YtnpdfkcjjedamaaGreatDoorYg
import Derived.Test.YtnpdfkcjjedamaaGreatDoorFr2
namespace Go.Proofs.YtnpdfkcjjedamaaGreatDoor.Sca
open Go.ChangeShapes Go.WideShapes Go.ChangeAt Go.RowKit Go.Lib Go.Shelf

theorem cellsU : Tryz.prog.cellsOf 29 = 1 := by kernel_rfl
theorem bytesOfU : Tryz.prog.bytesOf 29 = 8 := by kernel_rfl
set_option maxRecDepth 100000 in
theorem us_open {H : Type} {enc : TypeId × Value → H} {W : World} {base : Nat} {v : Value} {d : DataW H} {p : List MemPlace} (hval : Value.okWide Tryz.prog W .any base 22 v)
    (h : DataW.Trod enc Tryz.prog W 0 (fun _ => true) true 22 v d p) :
    ∃ ao c us, v = .slice ao us.length c ∧ Us W ao us ∧ (∀ x ∈ us, x < 18446744073709551616) ∧ ((d = .nil ∧ us = []) ∨ ∃ elems spare, d = .slice elems spare ∧ elems.length = us.length) := by
  obtain ⟨a0, len, cap, rfl⟩ := okWide_slice Tryz.underlying22 hval
  obtain ⟨fuel, hf⟩ := h
  rcases open_ints Tryz.underlying22 Tryz.underlying29 cellsU hf with ⟨hcs, hx⟩ | ⟨a, len', cap', zs, hcs, _, hl, hm, hz, hx, hcell, hwz⟩
  · simp [Value.cells] at hcs
    obtain ⟨rfl, rfl, rfl⟩ := hcs
    simp only [Prod.mk.injEq] at hx
    exact ⟨none, 0, [], rfl, .inl rfl, fun x h => by simp at h, .inl ⟨hx.1, rfl⟩⟩
  · simp [Value.cells] at hcs
    obtain ⟨rfl, rfl, rfl⟩ := hcs
    simp only [Prod.mk.injEq] at hx
    simp only [if_true] at hz
    have hlen : ((zs.take len).map fun z => z.toNat).length = len := by simp; omega
    refine ⟨some a, cap, (zs.take len).map fun z => z.toNat, by rw [hlen], ?_, ?_, .inr ⟨_, _, hx.1, by simp [lits]⟩⟩
    · by_cases h0 : len = 0
      · left
        exact List.eq_nil_of_length_eq_zero (by rw [hlen]; exact h0)
      · right
        obtain ⟨g, off, rfl, hc⟩ := ints_at hcell (by omega)
        refine ⟨g, off, rfl, fun j b hj => ?_⟩
        have hjl : j < len := by have := (List.getElem?_eq_some_iff.1 hj).1; rw [hlen] at this; exact this
        have h1 := hc j (by omega)
        rw [h1]
        simp only [List.getElem?_map, List.getElem?_take, hjl, if_true, Option.map_eq_some_iff] at hj
        obtain ⟨z, hz', rfl⟩ := hj
        have hb := bounds_u64 (hwz z (List.mem_of_getElem? hz'))
        have e1 : zs.getD j 0 = z := by simp [List.getD, hz']
        rw [e1, Int.toNat_of_nonneg hb.1]
    · intro x hx
      obtain ⟨z, hz', rfl⟩ := List.mem_map.1 hx
      have hb := bounds_u64 (hwz z (List.mem_of_mem_take hz'))
      omega
end Go.Proofs.YtnpdfkcjjedamaaGreatDoor.Sca
