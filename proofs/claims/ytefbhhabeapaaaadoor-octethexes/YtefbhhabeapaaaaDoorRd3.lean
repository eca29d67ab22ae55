/- The Reader's Text. -/
import Derived.Test.YtefbhhabeapaaaaDoorRd2
namespace Go.Proofs.YtefbhhabeapaaaaDoor.Oct
open Go.RowKit Go.Lib

theorem take_grown (pb po g off c n : Nat) (l : List UInt8) (w : World) (h : Rd w pb po g off c l) (hn : n ≤ l.length) (hc : c ≤ 9223372036854775807) :
    Calls Tryd.prog 31 #[.pointer (some ⟨pb, po, none⟩), .int .i64 (n : Int)] w fun e w' => e = .returned (.tuple #[.slice (some ⟨g, off, none⟩) n c, .int .i64 0]) ∧
      (∃ off', Rd w' pb po g off' (c - n) (l.drop n)) ∧ w.grownBy w' (some pb) ∧ w'.heap.size = w.heap.size := by
  refine (take_ok pb po g off c n l w h hn hc).mono ?_
  rintro e w' ⟨rfl, off', rfl, hr⟩
  exact ⟨rfl, ⟨off', hr⟩, grown_setCell _ _ _, by simp [World.setCell]⟩
theorem number_grown (pb po g off c n : Nat) (l : List UInt8) (w : World) (h : Rd w pb po g off c l) (hn : n ≤ l.length) (h8 : n ≤ 8) (hc : c ≤ 9223372036854775807) :
    Calls Tryd.prog 28 #[.pointer (some ⟨pb, po, none⟩), .int .i64 (n : Int)] w fun e w' => e = .returned (.tuple #[.int .u64 (num (l.take n) : Int), .int .i64 0]) ∧
      (∃ off', Rd w' pb po g off' (c - n) (l.drop n)) ∧ w.grownBy w' (some pb) ∧ w'.heap.size = w.heap.size := by
  refine (number_ok pb po g off c n l w h hn h8 hc).mono ?_
  rintro e w' ⟨rfl, off', rfl, hr⟩
  exact ⟨rfl, ⟨off', hr⟩, grown_setCell _ _ _, by simp [World.setCell]⟩
theorem Rd.bs {w : World} {pb po g off c : Nat} {l : List UInt8} (h : Rd w pb po g off c l) : Bs w (some ⟨g, off, none⟩) l := fun j b hj => ⟨g, off, rfl, h.data j b hj⟩
theorem Bs.take {w : World} {ao : Option Addr} {l : List UInt8} (h : Bs w ao l) (n : Nat) : Bs w ao (l.take n) := fun j b hj => by
  rw [List.getElem?_take] at hj
  split at hj
  · exact h j b hj
  · cases hj
theorem Bs.grown {w w' : World} {ao : Option Addr} {l : List UInt8} {r : Option Nat} (h : Bs w ao l) (hg : w.grownBy w' r) (hne : ob ao ≠ r ∨ l = []) : Bs w' ao l := fun j b hj => by
  obtain ⟨g, off, rfl, hc⟩ := h j b hj
  rcases hne with hne | rfl
  · exact ⟨g, off, rfl, hg.cell hc hne⟩
  · cases hj
theorem grown_of_below {w w' : World} (h : Below w.heap.size w w') (r : Option Nat) : w.grownBy w' r := ⟨h.os, h.tape, h.output, h.size, fun k hk _ => h.block k hk⟩
/-- A copy of a Reader's struct in a new block is a Reader too. -/
theorem Rd.copied {w : World} {pb po g off c : Nat} {l : List UInt8} (h : Rd w pb po g off c l) (t : TypeId) (hg : l = [] ∨ g < w.heap.size) (hgn : g ≠ w.heap.size) : Rd (w.alloc (.cells #[.slice (some ⟨g, off, none⟩) l.length c, .bool true] t)) w.heap.size 0 g off c l := by
  refine ⟨by simp, by simp, by simp, by simp, h.le, fun j b hj => ?_, hgn⟩
  rcases hg with rfl | hg
  · cases hj
  · rw [World.cell?_alloc_past _ _ _ hg]; exact h.data j b hj

set_option maxHeartbeats 1000000 in
theorem RText_ok (pb po g off c n : Nat) (l t : List UInt8) (w : World) (h : Rd w pb po g off c l) (h2 : 2 ≤ l.length) (hn : n = num (l.take 2)) (h4 : n ≤ 4096) (hl : 2 + n ≤ l.length) (hc : c ≤ 9223372036854775807) (ht : t = (l.drop 2).take n) (hT : Tabs w)
    (hV : ∀ off1 c1 w1, Tabs w1 → Bs w1 (some ⟨g, off1, none⟩) t → n ≤ c1 → Calls Tryd.prog 32 #[.slice (some ⟨g, off1, none⟩) n c1] w1 fun e w' => e = .returned (.bool true) ∧ Below w1.heap.size w1 w') :
    Calls Tryd.prog 19 #[.pointer (some ⟨pb, po, none⟩)] w fun e w' => e = .returned (.tuple #[.string ⟨t.toArray⟩, .int .i64 0]) ∧
      (∃ off' c', Rd w' pb po g off' c' (l.drop (2 + n)) ∧ c' ≤ c) ∧ w.grownBy w' (some pb) := by
  have h1 := h.rest
  have hm := h.made
  have hf0 := h.fr0
  have hf1 := h.fr1
  have hpb : pb < w.heap.size := World.block_lt_of_cell? w _ h1
  have hg : g < w.heap.size := by
    obtain ⟨b, hb⟩ : ∃ b, l[0]? = some b := ⟨l[0], by simp⟩
    exact World.block_lt_of_cell? w _ (h.data 0 b hb)
  have hcp := h.copied 64 (.inr hg) (by omega)
  have hv : num (l.take 2) < 65536 := by have := num_lt (l.take 2); rw [List.length_take, Nat.min_eq_left h2] at this; exact this
  have cU := U16_of (.pointer (some ⟨w.heap.size, 0, none⟩)) _ (num (l.take 2)) 0 hv _ (number_grown w.heap.size 0 g off c 2 l _ hcp h2 (by omega) hc)
  rw [← hn] at cU
  have h4' : ¬ (4096 : Int) < (n : Int) := by omega
  have hbs := h.bs
  have hap := h.apart
  have HD : Hid (l.drop (2 + n) = (l.drop 2).drop n) := show _ = _ by rw [List.drop_drop]
  have hdl : n ≤ (l.drop 2).length := by rw [List.length_drop]; omega
  have hle2 : (l.drop 2).length ≤ c - 2 := by have := h.le; rw [List.length_drop]; omega
  have htl : t.length = n := by rw [ht, List.length_take]; omega
  have Ht := hide ht
  have Htl := hide htl
  have HB0 : Below w.heap.size w (w.alloc (.cells #[.slice (some ⟨g, off, none⟩) l.length c, .bool true] 64)) := (Below.refl _ _).alloc (Nat.le_refl _) _
  clear hn hv hcp ht htl h
  go_enter Tryd.func19, Tryd.ntmps19
  go_wp2_with (go_at_call 30; refine (nobodys_made pb po _ hm).mono ?_; rintro e w' ⟨rfl, rfl⟩)
  refine cU.mono ?_
  rintro e w2 ⟨rfl, ⟨off2, hr2⟩, hg2, hs2⟩
  have hb2 : Below w'.heap.size w' w2 := HB0.grown hg2 (by simp) (fun k hk => by cases hk; exact Nat.le_refl _)
  clear cU HB0
  go_wp2_with fail
  refine (take_grown w'.heap.size 0 g off2 (c - 2) n (l.drop 2) w2 hr2 hdl (by omega)).mono ?_
  rintro e w3 ⟨rfl, ⟨off3, hr3⟩, hg3, hs3⟩
  have hb3 : Below w'.heap.size w' w3 := hb2.grown hg3 (by simp at hs2; omega) (fun k hk => by cases hk; exact Nat.le_refl _)
  have hbt : Bs w3 (some ⟨g, off2, none⟩) t := by
    rw [Ht.out]
    exact (hr2.bs.take n).grown hg3 (.inl (by simp only [ob, Option.map_some, ne_eq, Option.some.injEq]; omega))
  go_wp2_with fail
  refine (hV off2 (c - 2) w3 (hT.below hb3) hbt (by omega)).mono ?_
  rintro e w4 ⟨rfl, hb4⟩
  have hb4' : Below w'.heap.size w' w4 := hb3.trans (hb4.mono hb3.size)
  have hbt4 := hbt.below hb4
  have hah : w'.heap.size < w3.heap.size := World.block_lt_of_cell? w3 ⟨w'.heap.size, 0, none⟩ hr3.rest
  have k0 := (hb4.cell (p := ⟨w'.heap.size, 0, none⟩) hah).trans hr3.rest
  have k1 := (hb4.cell (p := ⟨w'.heap.size, 1, none⟩) hah).trans hr3.made
  have j0 := (hb4'.cell (p := ⟨pb, po, none⟩) hpb).trans h1
  have j1 := (hb4'.cell (p := ⟨pb, po + 1, none⟩) hpb).trans hm
  have i0 := (hb4'.frozen (p := ⟨pb, po, none⟩) hpb).trans hf0
  have i1 := (hb4'.frozen (p := ⟨pb, po + 1, none⟩) hpb).trans hf1
  have hcv : ∀ u v, (convert 22 9 (.slice (some ⟨g, off2, none⟩) n (c - 2))).run Tryd.prog ((w4.setCell ⟨pb, po, none⟩ u).setCell ⟨pb, po + 1, none⟩ v) = .ok (.string ⟨t.toArray⟩) ((w4.setCell ⟨pb, po, none⟩ u).setCell ⟨pb, po + 1, none⟩ v) := by
    intro u v
    have hb5 : Bs ((w4.setCell ⟨pb, po, none⟩ u).setCell ⟨pb, po + 1, none⟩ v) (some ⟨g, off2, none⟩) t :=
      (hbt4.grown (grown_setCell w4 ⟨pb, po, none⟩ u) (.inl (by simp only [ob, Option.map_some, ne_eq, Option.some.injEq]; exact hap))).grown (grown_setCell _ ⟨pb, po + 1, none⟩ v) (.inl (by simp only [ob, Option.map_some, ne_eq, Option.some.injEq]; exact hap))
    have := conv_bs (P := Tryd.prog) (c := c - 2) 22 9 5 Tryd.underlying22 Tryd.underlying5 Tryd.underlying9 hb5
    rw [Htl.out] at this
    exact this
  go_wp2
  go_ret2
  have hd3 : Bs w4 (some ⟨g, off3, none⟩) (l.drop (2 + n)) := by rw [HD.out]; exact hr3.bs.below hb4
  refine ⟨rfl, ⟨off3, c - 2 - n, ⟨?_, ?_, ?_, ?_, ?_, fun j b hj => ?_, hap⟩, by omega⟩, ?_⟩
  · rw [World.cell?_setCell_other _ _ _ _ (by simp), List.length_drop]
    exact World.cell?_setCell_same _ _ _ j0
  · refine World.cell?_setCell_same (u := .bool true) _ _ _ ?_
    rw [World.cell?_setCell_other _ _ _ _ (by simp)]
    exact j1
  · rw [World.frozen?_setCell, World.frozen?_setCell]; exact i0
  · rw [World.frozen?_setCell, World.frozen?_setCell]; exact i1
  · rw [List.length_drop] at hle2 ⊢; omega
  · obtain ⟨g', o', e, hc'⟩ := hd3 j b hj
    cases e
    rw [cell_far _ _ _ _ hap, cell_far _ _ _ _ hap]
    exact hc'
  · exact ((grown_of_below hb4' _).trans (grown_setCell w4 ⟨pb, po, none⟩ _)).trans (grown_setCell _ ⟨pb, po + 1, none⟩ _)
end Go.Proofs.YtefbhhabeapaaaaDoor.Oct
