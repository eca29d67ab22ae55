/- The Reader's Text where it answers an error; Left and End; whatever is left. -/
import Derived.Test.YtckcdgobgpjdkaaDoorBk1
import Derived.Test.YtckcdgobgpjdkaaDoorBk2
namespace Go.Proofs.YtckcdgobgpjdkaaDoor.Oct
open Go.RowKit
open Go.Lib (validD)

set_option maxHeartbeats 1000000 in
theorem RText_short2 (pb L c : Nat) (ao : Option Addr) (w : World) (h1 : w.cell? ⟨pb, 0, none⟩ = some (.slice ao L c)) (h2 : w.cell? ⟨pb, 1, none⟩ = some (.bool true)) (hL : L < 2) :
    Calls Tryd.prog 48 #[.pointer (some ⟨pb, 0, none⟩)] w fun e w' => e = .returned (.tuple #[.string ⟨#[]⟩, .int .i64 10]) ∧ Below w.heap.size w w' := by
  have hpb : pb < w.heap.size := World.block_lt_of_cell? w _ h1
  have cU := U16_of (.pointer (some ⟨w.heap.size, 0, none⟩)) (w.alloc (.cells #[.slice ao L c, .bool true] 87)) 0 10 (by decide) _ (number_short w.heap.size 0 L c 2 ao (w.alloc (.cells #[.slice ao L c, .bool true] 87)) (by simp) (by simp) hL)
  go_enter Tryd.func48, Tryd.ntmps48
  go_wp2_with (go_at_call 60; refine (nobodys_made pb 0 _ h2).mono ?_; rintro e w' ⟨rfl, rfl⟩)
  refine cU.mono ?_
  rintro e w2 ⟨rfl, rfl⟩
  go_wp2_with fail
  go_ret2
  exact ⟨rfl, (Below.refl _ _).alloc (Nat.le_refl _) _⟩

set_option maxHeartbeats 1000000 in
theorem RText_long (pb g off c n : Nat) (l : List UInt8) (w : World) (h : Rd w pb 0 g off c l) (h2 : 2 ≤ l.length) (hn : n = num (l.take 2)) (h4 : 4096 < n) (hc : c ≤ 9223372036854775807) :
    Calls Tryd.prog 48 #[.pointer (some ⟨pb, 0, none⟩)] w fun e w' => e = .returned (.tuple #[.string ⟨#[]⟩, .int .i64 12]) ∧ Below w.heap.size w w' := by
  have h1 := h.rest
  have hm := h.made
  have hpb : pb < w.heap.size := World.block_lt_of_cell? w _ h1
  have hg : g < w.heap.size := by
    obtain ⟨b, hb⟩ : ∃ b, l[0]? = some b := ⟨l[0], by simp⟩
    exact World.block_lt_of_cell? w _ (h.data 0 b hb)
  have hcp := h.copied 87 (.inr hg) (by omega)
  have hv : num (l.take 2) < 65536 := by have := num_lt (l.take 2); rw [List.length_take, Nat.min_eq_left h2] at this; exact this
  have cU := U16_of (.pointer (some ⟨w.heap.size, 0, none⟩)) _ (num (l.take 2)) 0 hv _ (number_grown w.heap.size 0 g off c 2 l _ hcp h2 (by omega) hc)
  rw [← hn] at cU
  have h4' : (4096 : Int) < (n : Int) := by omega
  have HB0 : Below w.heap.size w (w.alloc (.cells #[.slice (some ⟨g, off, none⟩) l.length c, .bool true] 87)) := (Below.refl _ _).alloc (Nat.le_refl _) _
  clear hn hv hcp h
  go_enter Tryd.func48, Tryd.ntmps48
  go_wp2_with (go_at_call 60; refine (nobodys_made pb 0 _ hm).mono ?_; rintro e w' ⟨rfl, rfl⟩)
  refine cU.mono ?_
  rintro e w2 ⟨rfl, -, hg2, hs2⟩
  have hb2 : Below w'.heap.size w' w2 := HB0.grown hg2 (by simp) (fun k hk => by cases hk; exact Nat.le_refl _)
  clear cU HB0 hg2 hs2
  go_wp2_with fail
  go_ret2
  exact ⟨rfl, hb2⟩

set_option maxHeartbeats 1000000 in
theorem RText_short (pb g off c n : Nat) (l : List UInt8) (w : World) (h : Rd w pb 0 g off c l) (h2 : 2 ≤ l.length) (hn : n = num (l.take 2)) (h4 : n ≤ 4096) (hl : l.length < 2 + n) (hc : c ≤ 9223372036854775807) :
    Calls Tryd.prog 48 #[.pointer (some ⟨pb, 0, none⟩)] w fun e w' => e = .returned (.tuple #[.string ⟨#[]⟩, .int .i64 10]) ∧ Below w.heap.size w w' := by
  have h1 := h.rest
  have hm := h.made
  have hpb : pb < w.heap.size := World.block_lt_of_cell? w _ h1
  have hg : g < w.heap.size := by
    obtain ⟨b, hb⟩ : ∃ b, l[0]? = some b := ⟨l[0], by simp⟩
    exact World.block_lt_of_cell? w _ (h.data 0 b hb)
  have hcp := h.copied 87 (.inr hg) (by omega)
  have hv : num (l.take 2) < 65536 := by have := num_lt (l.take 2); rw [List.length_take, Nat.min_eq_left h2] at this; exact this
  have cU := U16_of (.pointer (some ⟨w.heap.size, 0, none⟩)) _ (num (l.take 2)) 0 hv _ (number_grown w.heap.size 0 g off c 2 l _ hcp h2 (by omega) hc)
  rw [← hn] at cU
  have h4' : ¬ (4096 : Int) < (n : Int) := by omega
  have hdl : (l.drop 2).length < n := by rw [List.length_drop]; omega
  have HB0 : Below w.heap.size w (w.alloc (.cells #[.slice (some ⟨g, off, none⟩) l.length c, .bool true] 87)) := (Below.refl _ _).alloc (Nat.le_refl _) _
  clear hn hv hcp h
  go_enter Tryd.func48, Tryd.ntmps48
  go_wp2_with (go_at_call 60; refine (nobodys_made pb 0 _ hm).mono ?_; rintro e w' ⟨rfl, rfl⟩)
  refine cU.mono ?_
  rintro e w2 ⟨rfl, ⟨off2, hr2⟩, hg2, hs2⟩
  have hb2 : Below w'.heap.size w' w2 := HB0.grown hg2 (by simp) (fun k hk => by cases hk; exact Nat.le_refl _)
  have cT := take_short w'.heap.size 0 _ _ n _ w2 hr2.rest hr2.made hdl
  clear cU HB0 hg2 hs2 hr2
  go_wp2_with fail
  refine cT.mono ?_
  rintro e w3 ⟨rfl, rfl⟩
  clear cT
  go_wp2_with fail
  go_ret2
  exact ⟨rfl, hb2⟩

set_option maxHeartbeats 1000000 in
theorem RText_bad (pb g off c n : Nat) (l t : List UInt8) (w : World) (h : Rd w pb 0 g off c l) (h2 : 2 ≤ l.length) (hn : n = num (l.take 2)) (h4 : n ≤ 4096) (hl : 2 + n ≤ l.length) (hc : c ≤ 9223372036854775807) (ht : t = (l.drop 2).take n) (hT : Tabs w)
    (hV : ∀ off1 c1 w1, Tabs w1 → Bs w1 (some ⟨g, off1, none⟩) t → n ≤ c1 → Calls Tryd.prog 68 #[.slice (some ⟨g, off1, none⟩) n c1] w1 fun e w' => e = .returned (.bool false) ∧ Below w1.heap.size w1 w') :
    Calls Tryd.prog 48 #[.pointer (some ⟨pb, 0, none⟩)] w fun e w' => e = .returned (.tuple #[.string ⟨#[]⟩, .int .i64 14]) ∧ Below w.heap.size w w' := by
  have h1 := h.rest
  have hm := h.made
  have hpb : pb < w.heap.size := World.block_lt_of_cell? w _ h1
  have hg : g < w.heap.size := by
    obtain ⟨b, hb⟩ : ∃ b, l[0]? = some b := ⟨l[0], by simp⟩
    exact World.block_lt_of_cell? w _ (h.data 0 b hb)
  have hcp := h.copied 87 (.inr hg) (by omega)
  have hv : num (l.take 2) < 65536 := by have := num_lt (l.take 2); rw [List.length_take, Nat.min_eq_left h2] at this; exact this
  have cU := U16_of (.pointer (some ⟨w.heap.size, 0, none⟩)) _ (num (l.take 2)) 0 hv _ (number_grown w.heap.size 0 g off c 2 l _ hcp h2 (by omega) hc)
  rw [← hn] at cU
  have h4' : ¬ (4096 : Int) < (n : Int) := by omega
  have hdl : n ≤ (l.drop 2).length := by rw [List.length_drop]; omega
  have hle2 : (l.drop 2).length ≤ c - 2 := by have := h.le; rw [List.length_drop]; omega
  have Ht := hide ht
  have HB0 : Below w.heap.size w (w.alloc (.cells #[.slice (some ⟨g, off, none⟩) l.length c, .bool true] 87)) := (Below.refl _ _).alloc (Nat.le_refl _) _
  clear hn hv hcp ht h
  go_enter Tryd.func48, Tryd.ntmps48
  go_wp2_with (go_at_call 60; refine (nobodys_made pb 0 _ hm).mono ?_; rintro e w' ⟨rfl, rfl⟩)
  refine cU.mono ?_
  rintro e w2 ⟨rfl, ⟨off2, hr2⟩, hg2, hs2⟩
  have hb2 : Below w'.heap.size w' w2 := HB0.grown hg2 (by simp) (fun k hk => by cases hk; exact Nat.le_refl _)
  clear cU HB0
  go_wp2_with fail
  refine (take_grown w'.heap.size 0 g off2 (c - 2) n (l.drop 2) w2 hr2 hdl (by omega)).mono ?_
  rintro e w3 ⟨rfl, ⟨off3, hr3⟩, hg3, hs3⟩
  have hb3 : Below w'.heap.size w' w3 := hb2.grown hg3 (by simp at hs2; omega) (fun k hk => by cases hk; exact Nat.le_refl _)
  have hbt : Bs w3 (some ⟨g, off2, none⟩) t := by
    rw [Ht.out]
    exact (hr2.bs.take n).grown hg3 (.inl (by simp only [ob, Option.map_some, ne_eq, Option.some.injEq]; omega))
  go_wp2_with fail
  refine (hV off2 (c - 2) w3 (hT.below hb3) hbt (by omega)).mono ?_
  rintro e w4 ⟨rfl, hb4⟩
  have hb4' : Below w'.heap.size w' w4 := hb3.trans (hb4.mono hb3.size)
  go_wp2_with fail
  go_ret2
  exact ⟨rfl, hb4'⟩
end Go.Proofs.YtckcdgobgpjdkaaDoor.Oct
