/- Seal and Open, as they are walked. -/
import Derived.Test.YtckcdgobgpjdkaaDoorRd3
import Derived.Test.YtckcdgobgpjdkaaDoorSum1
namespace Go.Proofs.YtckcdgobgpjdkaaDoor.Oct
open Go.RowKit Go.Lib

/-- A slice in new memory. -/
structure Fresh (e : TypeId) (w w' : World) (ao : Option Addr) (c : Nat) (l : List UInt8) : Prop where
  below : Below w.heap.size w w'
  own : w'.ownsRow w.heap.size e 1 (.slice ao l.length c) l.length (bv l)

theorem crc_lt (l : List UInt8) : crc l < 4294967296 := xor_lt32 (by decide) (crcAll_lt (by decide) l)
/-- Sum of one part, laid in a block of its own. -/
theorem Sum_one (ao : Option Addr) (c : Nat) (l : List UInt8) (w : World) (t : TypeId) (h : Bs w ao l) (hl : l.length ≤ 9223372036854775807) :
    Calls Tryd.prog 31 #[.slice (some ⟨w.heap.size, 0, none⟩) 1 1] (w.alloc (.cells #[.slice ao l.length c] t)) fun e w' => e = .returned (.int .u32 (crc l : Int)) ∧ w' = w.alloc (.cells #[.slice ao l.length c] t) := by
  have hs := Sum_any w.heap.size 0 1 [l] (w.alloc (.cells #[.slice ao l.length c] t)) (by simp) (fun i p hp => by
    match i, hp with
    | 0, hp =>
      simp only [List.getElem?_cons_zero, Option.some.injEq] at hp
      subst hp
      exact ⟨hl, ao, c, by simp, h.below ((Below.refl _ _).alloc (Nat.le_refl _) _)⟩
    | i + 1, hp => simp at hp)
  rw [show [l].flatten = l by simp] at hs
  exact hs

set_option maxHeartbeats 1000000 in
theorem Seal_any (ao : Option Addr) (c : Nat) (l : List UInt8) (w : World) (h : Bs w ao l) (hl : l.length ≤ 140737488351232) :
    Calls Tryd.prog 28 #[.slice ao l.length c] w fun e w' => ∃ g c', e = .returned (.slice (some ⟨g, 0, none⟩) (l ++ le 4 (crc l)).length c') ∧ Fresh 5 w w' (some ⟨g, 0, none⟩) c' (l ++ le 4 (crc l)) := by
  obtain ⟨i0, hi, hz0, hz1, hz2⟩ := info_parts info5
  go_enter Tryd.func28, Tryd.ntmps28
  go_wp2_with (at_make; refine wpList_make_own _ rfl _ _ 24 rfl w.heap.size 5 i0 (.int .u8 0) 1 Tryd.underlying24 hi hz0 hz1 _ _ _ (l.length + 4) rfl rfl (by omega) (by rw [hz2]; omega) (by unfold maxLen; omega) (Nat.le_refl _) ?_)
  intro w1 hown1 hg1
  have hb1 : Below w.heap.size w w1 := (Below.refl _ _).grown hg1 (Nat.le_refl _) (fun k hk => by cases hk)
  have hs1 := hb1.size
  have hwo := (hown1.lt w.heap.size rfl).2
  go_wp2_with (at_builtin; refine wpList_append_src rfl _ _ 24 24 rfl w.heap.size 5 Tryd.underlying24 info5 (some ⟨w.heap.size, 0, none⟩) 0 (l.length + 4) [] rfl ?own (.slice ao l.length c) l.length l rfl ?src (by omega) ?base ?_)
  case own => exact hown1.alloc _
  case src => exact (h.below (hb1.alloc hs1 _)).src Tryd.underlying24
  case base => simp; omega
  intro ao2 c2 w2 hown2 hg2 hat2
  have hwA : Wr 5 (w1.alloc (.cells #[.slice (some ⟨w.heap.size, 0, none⟩) 0 (l.length + 4)] 26)) w.heap.size ⟨w1.heap.size, 0, none⟩ (some ⟨w.heap.size, 0, none⟩) (l.length + 4) [] :=
    ⟨by simp, by simp, hown1.alloc _, by simp [ob]; omega, by simp; omega⟩
  have st := hwA.step' (m := l) (ao' := ao2) (c' := c2) (by simpa using hown2) hg2 (by simpa using hat2)
  simp only [List.length_nil, Nat.zero_add, List.nil_append] at st
  obtain ⟨hw2, hf2⟩ := st
  have hbA : Below w.heap.size w (w1.alloc (.cells #[.slice (some ⟨w.heap.size, 0, none⟩) 0 (l.length + 4)] 26)) := hb1.alloc hs1 _
  have hb2 := hbA.trans (hf2.below (by simp; omega) hs1 (fun k hk => by cases hk; exact Nat.le_refl _))
  have hblk := hg2.block w1.heap.size (by simp) (by simp [ob]; omega)
  have hcc := (World.cell?_of_block (a := ⟨w1.heap.size, 0, none⟩) hblk).trans hwA.cell
  have hcf := (World.frozen?_of_block (a := ⟨w1.heap.size, 0, none⟩) hblk).trans hwA.froz
  have hs2 := hg2.size
  simp at hs2
  clear hwA hown2 hg2 hat2 hblk hown1 hg1 hbA
  go_wp2_with fail
  have hs3 : (w2.setCell ⟨w1.heap.size, 0, none⟩ (.slice ao2 l.length c2)).heap.size = w2.heap.size := by simp [World.setCell]
  have cS := Sum_one ao c l _ 24 (h.below hb2) (by omega)
  rw [hs3] at cS
  refine cS.mono ?_
  rintro e w4 ⟨rfl, rfl⟩
  obtain ⟨hw4, hf4⟩ := hw2.below ((Below.refl _ _).alloc (Nat.le_refl _) (.cells #[.slice ao l.length c] 24))
  go_wp2_with fail
  refine (U32_any w1.heap.size 0 (crc l) l ao2 c2 _ w.heap.size (crc_lt l) hw4 (by omega)).mono ?_
  rintro e w5 ⟨rfl, ao5, c5, hw5, hf5⟩
  have hb5 := (hb2.alloc hb2.size (.cells #[.slice ao l.length c] 24)).trans (hf5.below (by have := hb2.size; simp at this ⊢; omega) hs1 (fun k hk => (hw4.own.lt k (by rw [ob_eq]; exact hk)).1))
  have hc5 := hw5.cell
  go_wp2_with fail
  go_ret
  obtain ⟨g, cap, hv, _, _⟩ := hw5.own.form (by simp [le_length])
  simp only [Value.slice.injEq] at hv
  obtain ⟨rfl, _, rfl⟩ := hv
  exact ⟨g, c5, by simp, hb5, hw5.own⟩
end Go.Proofs.YtckcdgobgpjdkaaDoor.Oct
