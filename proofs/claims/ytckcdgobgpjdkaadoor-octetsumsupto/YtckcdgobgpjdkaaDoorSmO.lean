/- Parts, opened. -/
import Derived.Test.YtckcdgobgpjdkaaDoorOpens
import Derived.Test.YtckcdgobgpjdkaaDoorSm1
import Derived.Deep.Slices
namespace Go.Proofs.YtckcdgobgpjdkaaDoor.Oct
open Go.ChangeShapes Go.WideShapes Go.ChangeAt Go.RowKit

theorem cells24 : Tryd.prog.cellsOf 24 = 1 := by kernel_rfl
set_option maxRecDepth 100000 in
theorem bytes_trod {H : Type} {enc : TypeId × Value → H} {W : World} {fuel : Nat} {cs : List Value} {x : DataW H × List MemPlace} (hf : DataW.trod enc Tryd.prog W 0 (fun _ => true) true fuel 24 cs = some x) :
    ∃ ao c l, cs = [.slice ao (List.length l) c] ∧ Bs W ao l ∧ ((x.1 = .nil ∧ l = []) ∨ ∃ elems spare, x.1 = .slice elems spare ∧ elems.length = l.length) := by
  rcases open_ints Tryd.underlying24 Tryd.underlying5 cells5 hf with ⟨hcs, hx⟩ | ⟨a, len, cap, zs, hcs, _, hl, hm, hz, hx, hcell, hwz⟩
  · exact ⟨none, 0, [], hcs, fun j b hj => by simp at hj, .inl ⟨by rw [hx], rfl⟩⟩
  · simp only [if_true] at hz
    have hlen : ((zs.take len).map fun z => UInt8.ofNat z.toNat).length = len := by simp; omega
    refine ⟨some a, cap, (zs.take len).map fun z => UInt8.ofNat z.toNat, by rw [hlen]; exact hcs, ?_, .inr ⟨_, _, by rw [hx], by simp [lits]⟩⟩
    intro j b hj
    have hjl : j < len := by have := (List.getElem?_eq_some_iff.1 hj).1; rw [hlen] at this; exact this
    obtain ⟨g, off, rfl, hc⟩ := ints_at hcell (by omega)
    refine ⟨g, off, rfl, ?_⟩
    have h1 := hc j (by omega)
    rw [h1]
    simp only [List.getElem?_map, List.getElem?_take, hjl, if_true, Option.map_eq_some_iff] at hj
    obtain ⟨z, hz', rfl⟩ := hj
    have hmem : z ∈ zs := List.mem_of_getElem? hz'
    have hb := bounds_u8 (hwz z hmem)
    have e1 : zs.getD j 0 = z := by simp [List.getD, hz']
    rw [e1, UInt8.toNat_ofNat', Nat.mod_eq_of_lt (by omega)]
    congr 2
    omega
theorem bulk_one' {H : Type} (d : DataW H) : 1 ≤ Rows.uptoBulk d := by
  cases d with
  | lit l => cases l <;> simp [Rows.uptoBulk]
  | _ => simp [Rows.uptoBulk]
theorem bulk_len' {H : Type} : ∀ (l : List (DataW H)), l.length ≤ Rows.uptoBulkAll l
  | [] => Nat.zero_le _
  | x :: r => by have := bulk_one' x; have := bulk_len' r; simp only [Rows.uptoBulkAll, List.length_cons]; omega
theorem bulk_app {H : Type} : ∀ (a b : List (DataW H)), Rows.uptoBulkAll (a ++ b) = Rows.uptoBulkAll a + Rows.uptoBulkAll b
  | [], b => by simp [Rows.uptoBulkAll]
  | x :: r, b => by have := bulk_app r b; simp only [List.cons_append, Rows.uptoBulkAll, this]; omega
theorem bulk_sl {H : Type} (elems spare : List (DataW H)) : Rows.uptoBulkAll elems + 1 ≤ Rows.uptoBulk (.slice elems spare) := by
  simp only [Rows.uptoBulk]; omega
theorem exists_parts {H : Type} (D : Nat → DataW H) (Q : Nat → List UInt8 → Prop) : ∀ n, (∀ i, i < n → ∃ p, Q i p ∧ p.length ≤ Rows.uptoBulk (D i)) → ∃ ps : List (List UInt8), ps.length = n ∧ (∀ (i : Nat) (p : List UInt8), ps[i]? = some p → Q i p) ∧ ps.flatten.length ≤ Rows.uptoBulkAll ((List.range n).map D)
  | 0, _ => ⟨[], rfl, fun i x h => by simp at h, by simp⟩
  | n + 1, h => by
    obtain ⟨l, hl, hq, hb⟩ := exists_parts D Q n (fun i hi => h i (by omega))
    obtain ⟨x, hx, hxb⟩ := h n (by omega)
    refine ⟨l ++ [x], by simp [hl], fun i y hy => ?_, ?_⟩
    · by_cases hi : i < l.length
      · rw [List.getElem?_append_left hi] at hy
        exact hq i y hy
      · rw [List.getElem?_append_right (by omega)] at hy
        have hi0 : i - l.length = 0 := by
          have := (List.getElem?_eq_some_iff.1 hy).1
          simp at this
          omega
        rw [hi0] at hy
        simp at hy
        subst hy
        rw [show i = n by omega]
        exact hx
    · rw [List.range_succ, List.map_append, bulk_app, List.flatten_append, List.length_append]
      simp only [List.map_cons, List.map_nil, Rows.uptoBulkAll, List.flatten_cons, List.flatten_nil, List.append_nil]
      omega
set_option maxRecDepth 100000 in
theorem parts_open {H : Type} {enc : TypeId × Value → H} {W : World} {base : Nat} {v : Value} {d : DataW H} {p : List MemPlace} (hval : Value.okWide Tryd.prog W .any base 64 v)
    (h : DataW.Trod enc Tryd.prog W 0 (fun _ => true) true 64 v d p) (hbulk : Rows.uptoBulk d ≤ 1048576) :
    ∃ ao c ps, v = .slice ao (List.length ps) c ∧ Pts W ao ps ∧ ps.length ≤ 1048576 ∧ ps.flatten.length ≤ 1048576 := by
  obtain ⟨a0, len, cap, rfl⟩ := okWide_slice Tryd.underlying64 hval
  obtain ⟨fuel, hf⟩ := h
  rcases Go.Deep.open_slice Tryd.underlying64 hf with ⟨hcs, hx⟩ | ⟨a, len', cap', m, n, D, Pl, hcs, _, hl, hm, hmm, hx, hall⟩
  · simp [Value.cells] at hcs
    obtain ⟨rfl, rfl, rfl⟩ := hcs
    exact ⟨none, 0, [], rfl, fun i x hx => by simp at hx, Nat.zero_le _, Nat.zero_le _⟩
  · simp [Value.cells] at hcs
    obtain ⟨rfl, rfl, rfl⟩ := hcs
    simp only [Prod.mk.injEq] at hx
    simp only [if_true] at hmm
    subst hmm
    have hb1 : Rows.uptoBulkAll ((List.range len).map D) ≤ 1048576 := by
      have := bulk_sl ((List.range len).map D) ((List.range (m - len)).map fun j => D (len + j))
      rw [← hx.1] at this
      omega
    have hlen : len ≤ 1048576 := by
      have := bulk_len' ((List.range len).map D)
      simp at this
      omega
    obtain ⟨ps, hpl, hq, hfl⟩ := exists_parts D (fun i q => ∃ g off, some a = some (⟨g, off, none⟩ : Addr) ∧ ∃ ai ci, W.cell? ⟨g, off + i, none⟩ = some (.slice ai q.length ci) ∧ Bs W ai q) len (fun i hi => by
        obtain ⟨cs', hcells, htr⟩ := hall i (by omega)
        rw [cells24, Nat.mul_one] at hcells
        obtain ⟨ai, ci, q, rfl, hbs, hd⟩ := bytes_trod htr
        obtain ⟨_, _, hcell⟩ := World.cells?_some hcells
        obtain ⟨cs0, hc0, ht0⟩ := hall 0 (by omega)
        rw [cells24, Nat.mul_one] at hc0
        obtain ⟨a1, c1, q1, rfl, _, _⟩ := bytes_trod ht0
        obtain ⟨_, _, hcell0⟩ := World.cells?_some hc0
        obtain ⟨gb, off, spot⟩ := a
        have hspot : spot = none := by
          have := World.cell?_spot (hcell0 0 (by decide))
          simpa [Addr.add] using this
        subst hspot
        refine ⟨q, ⟨gb, off, rfl, ai, ci, ?_, hbs⟩, ?_⟩
        · have := hcell 0 (by decide); rw [Addr.add_lit, Addr.add_lit] at this; exact this
        · rcases hd with ⟨_, rfl⟩ | ⟨elems, spare, he, hel⟩
          · exact Nat.zero_le _
          · have he' : D i = .slice elems spare := he
            have q2 := bulk_sl elems spare
            have q3 := bulk_len' elems
            rw [he']
            omega)
    exact ⟨some a, _, ps, by rw [hpl], hq, by omega, by omega⟩
end Go.Proofs.YtckcdgobgpjdkaaDoor.Oct
