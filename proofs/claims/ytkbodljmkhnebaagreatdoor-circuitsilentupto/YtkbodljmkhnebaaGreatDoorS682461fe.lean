import Derived.Test.YtkbodljmkhnebaaGreatDoorS4d4c93f0
set_option maxRecDepth 100000
namespace Go.Proofs.YtkbodljmkhnebaaGreatDoor.Cir
open Go.ChangeShapes Go.WideShapes Go.ChangeAt Go.RowKit Go.Shelf Go.Proofs.YtkbodljmkhnebaaGreatDoor.Oct Go.Proofs.YtkbodljmkhnebaaGreatDoor.Tok
theorem bulk_pos {H : Type} (d : DataW H) : 1 <= Rows.uptoBulk d := by
  cases d with
  | lit x => cases x <;> simp [Rows.uptoBulk]
  | _ => simp [Rows.uptoBulk]
theorem bulk_all {H : Type} : ∀ ds : List (DataW H), ds.length <= Rows.uptoBulkAll ds
  | [] => Nat.zero_le _
  | d :: r => by
    have := bulk_all r
    have := bulk_pos d
    rw [Rows.uptoBulkAll, List.length_cons]
    omega
theorem bulk_slice {H : Type} (es sp : List (DataW H)) : es.length <= Rows.uptoBulk (.slice es sp) := by
  have := bulk_all es
  rw [Rows.uptoBulk]
  omega
theorem cells5 : Tryz.prog.cellsOf 5 = 1 := by kernel_rfl
theorem bytes_open {H : Type} {enc : TypeId × Value -> H} {W : World} {base : Nat} {v : Value} {d : DataW H} {p : List MemPlace} (hval : Value.okWide Tryz.prog W .any base 54 v)
    (h : DataW.Trod enc Tryz.prog W 0 (fun _ => true) true 54 v d p) :
    ∃ ao c l, v = .slice ao l.length c /\ Bs W ao l /\ l.length <= Rows.uptoBulk d := by
  obtain ⟨a0, len, cap, rfl⟩ := okWide_slice Tryz.underlying54 hval
  obtain ⟨fuel, hf⟩ := h
  rcases open_ints Tryz.underlying54 Tryz.underlying5 cells5 hf with ⟨hcs, hx⟩ | ⟨a, len', cap', zs, hcs, _, hl, hm, hz, hx, hcell, hwz⟩
  . simp [Value.cells] at hcs
    obtain ⟨rfl, rfl, rfl⟩ := hcs
    simp only [Prod.mk.injEq] at hx
    exact ⟨none, 0, [], rfl, fun j b hj => by simp at hj, Nat.zero_le _⟩
  . simp [Value.cells] at hcs
    obtain ⟨rfl, rfl, rfl⟩ := hcs
    simp only [Prod.mk.injEq] at hx
    simp only [if_true] at hz
    have hlen : ((zs.take len).map fun z => UInt8.ofNat z.toNat).length = len := by simp; omega
    refine ⟨some a, cap, (zs.take len).map fun z => UInt8.ofNat z.toNat, by rw [hlen], ?_, (by
      rw [hlen, hx.1]
      refine Nat.le_trans ?_ (bulk_slice _ _)
      simp [lits]
      omega)⟩
    intro j b hj
    have hjl : j < len := by have := (List.getElem?_eq_some_iff.1 hj).1; rw [hlen] at this; exact this
    obtain ⟨g, off, rfl, hc⟩ := ints_at hcell (by omega)
    refine ⟨g, off, rfl, ?_⟩
    have h1 := hc j (by omega)
    rw [h1]
    simp only [List.getElem?_map, List.getElem?_take, hjl, if_true, Option.map_eq_some_iff] at hj
    obtain ⟨z, hz', rfl⟩ := hj
    have hmem : z ∈ zs := List.mem_of_getElem? hz'
    have hb := bounds_u8 (hwz z hmem)
    have e1 : zs.getD j 0 = z := by simp [List.getD, hz']
    rw [e1, UInt8.toNat_ofNat', Nat.mod_eq_of_lt (by omega)]
    congr 2
    omega
end Go.Proofs.YtkbodljmkhnebaaGreatDoor.Cir
