/- strings.Builder's WriteString, WriteByte and String, as they are walked. -/
import Derived.Test.YteknpejkooemjabDoorJ13
namespace Go.Proofs.YteknpejkooemjabDoor.Pau
open Go.RowKit Go.Shelf Go.Proofs.YteknpejkooemjabDoor.Oct

theorem bCopy (B b : Nat) (p : Value) (hp : p = .pointer none ∨ p = me b) (l : List UInt8) (w : World) (h : Bd w B b p l) : Calls Tryd.prog 38 #[.pointer (some ⟨b, 0, none⟩)] w fun e w' => e = .returned (.tuple #[]) ∧ Bd w' B b (me b) l ∧ Below B w w' := by
  rcases hp with rfl | rfl
  · exact bCopy_new B b l w h
  · exact bCopy_old B b l w h
/-- A builder's buffer. -/
theorem Bd.buf {w : World} {B b : Nat} {p : Value} {l : List UInt8} (h : Bd w B b p l) : ∃ ao c, w.heap[b]? = some (.cells #[p, .slice ao l.length c] 56 (0, 0)) ∧ w.ownsRow B 5 1 (.slice ao l.length c) l.length (bv l) ∧ ob ao ≠ some b ∧ B ≤ b := by
  obtain ⟨hB, v, hb, hown, hne⟩ := h
  rw [bv_length] at hown
  rcases hown.2 with ⟨hv, h0⟩ | ⟨g, cap, cur, hv, r⟩
  · subst hv
    refine ⟨none, 0, ?_, ?_, ?_, hB⟩
    · rw [h0]; exact hb
    · rw [h0] at hown ⊢; exact hown
    · intro e; cases e
  · subst hv
    refine ⟨_, _, hb, hown, ?_, hB⟩
    rw [ob_eq] at hne
    exact hne
theorem own_any {w : World} {B g n c : Nat} {e : TypeId} {ao : Option Addr} {l : List UInt8} (h : w.ownsRow B e 1 (.slice ao n c) n (bv l)) (hg : ob ao = some g) : B ≤ g := by
  rcases h.2 with ⟨hv, h0⟩ | ⟨g', cap, cur, hv, hb, -⟩
  · simp at hv
    rw [hv.1] at hg
    cases hg
  · simp at hv
    rw [hv.1] at hg
    simp [ob] at hg
    omega
set_option maxRecDepth 100000 in
set_option maxHeartbeats 2000000 in
theorem bWS (B b : Nat) (p : Value) (hp : p = .pointer none ∨ p = me b) (l : List UInt8) (s : ByteArray) (w : World) (h : Bd w B b p l) (hlen : l.length + s.size ≤ 140737488355328) (hBw : B ≤ w.heap.size) :
    Calls Tryd.prog 24 #[.pointer (some ⟨b, 0, none⟩), .string s] w fun e w' => (∃ v, e = .returned v) ∧ Bd w' B b (me b) (l ++ s.data.toList) ∧ Below B w w' := by
  have cc := bCopy B b p hp l w h
  clear h hp
  go_enter Tryd.func24, Tryd.ntmps24
  go_wp2_with fail
  refine cc.mono ?_
  rintro e w1 ⟨rfl, h1, hb1⟩
  obtain ⟨ao, c, hbk, hown, hap, hB⟩ := h1.buf
  have hc1 := Lib.cell_of_heap hbk 1
  simp only [List.getElem?_toArray, List.getElem?_cons_succ, List.getElem?_cons_zero] at hc1
  have hBw1 : B ≤ w1.heap.size := Nat.le_trans hBw hb1.size
  have hlt : b < w1.heap.size := (Array.getElem?_eq_some_iff.1 hbk).1
  have HBK := hide hbk
  have HB1 := hide hb1
  have HOW := hide hown
  clear hbk hb1 h1
  go_wp2_with (at_builtin; refine wpList_append_src rfl _ _ 54 9 rfl B 5 Tryd.underlying54 info5 ao l.length c l rfl hown (.string s) s.size s.data.toList rfl (Src.ofString _ Tryd.underlying9 s) hlen hBw1 ?_)
  intro ao3 c3 w3 hown3 hgrow hat
  have hblk := hgrow.block b hlt (fun e => hap e.symm)
  have HB3 := hide (hblk.trans HBK.out)
  have d1 := Lib.cell_of_heap HB3.out 1
  simp only [List.getElem?_toArray, List.getElem?_cons_succ, List.getElem?_cons_zero] at d1
  have f1 := Lib.frozen_of_heap HB3.out 1
  have HN : Hid (Bd (w3.setCell ⟨b, 1, none⟩ (.slice ao3 (l.length + s.size) c3)) B b (me b) (l ++ s.data.toList)) := hide (Lib.BuilderAt.put (T := 56) (e := 5) hB HB3.out (bs' := bv (l ++ s.data.toList)) (by
    rw [bv_length, List.length_append, show s.data.toList.length = s.size from Array.length_toList]; exact hown3) (by decide))
  have HBe := hide ((HB1.out.grown hgrow hBw1 (fun k hk => own_any HOW.out (show ob ao = some k by first | exact hk | (rw [← ob_eq]; exact hk)))).setCell (p := ⟨b, 1, none⟩) hB (.slice ao3 (l.length + s.size) c3))
  clear hown hown3 hgrow hat hblk HB1 HOW cc
  go_wp2_with fail
  go_ret2
  exact ⟨⟨_, rfl⟩, HN.out, HBe.out⟩
set_option maxRecDepth 100000 in
set_option maxHeartbeats 2000000 in
theorem bWB (B b : Nat) (l : List UInt8) (u : UInt8) (w : World) (h : Bd w B b (me b) l) (hlen : l.length + 1 ≤ 140737488355328) (hBw : B ≤ w.heap.size) :
    Calls Tryd.prog 25 #[.pointer (some ⟨b, 0, none⟩), .int .u8 (u.toNat : Int)] w fun e w' => (∃ v, e = .returned v) ∧ Bd w' B b (me b) (l ++ [u]) ∧ Below B w w' := by
  have cc := bCopy B b (me b) (.inr rfl) l w h
  clear h
  obtain ⟨z, hz⟩ : ∃ z : Int, z = (u.toNat : Int) := ⟨_, rfl⟩
  rw [← hz]
  have HZ := hide hz
  clear hz
  go_enter Tryd.func25, Tryd.ntmps25
  go_wp2_with fail
  refine cc.mono ?_
  rintro e w1 ⟨rfl, h1, hb1⟩
  obtain ⟨ao, c, hbk, hown, hap, hB⟩ := h1.buf
  have hc1 := Lib.cell_of_heap hbk 1
  simp only [List.getElem?_toArray, List.getElem?_cons_succ, List.getElem?_cons_zero] at hc1
  have hBw1 : B ≤ w1.heap.size := Nat.le_trans hBw hb1.size
  have hlt : b < w1.heap.size := (Array.getElem?_eq_some_iff.1 hbk).1
  have HBK := hide hbk
  have HB1 := hide hb1
  have HOW := hide hown
  clear hbk hb1 h1
  go_wp2_with (at_builtin; refine wpList_push rfl _ _ 54 rfl 5 Tryd.underlying54 info5 B ao l.length c l rfl hown _ u HZ.out rfl hlen hBw1 ?_)
  intro g cap w3 hown3 hgrow hat
  have hblk := hgrow.block b hlt (fun e => hap e.symm)
  have HB3 := hide (hblk.trans HBK.out)
  have d1 := Lib.cell_of_heap HB3.out 1
  simp only [List.getElem?_toArray, List.getElem?_cons_succ, List.getElem?_cons_zero] at d1
  have f1 := Lib.frozen_of_heap HB3.out 1
  have HN : Hid (Bd (w3.setCell ⟨b, 1, none⟩ (.slice (some ⟨g, 0, none⟩) (l.length + 1) cap)) B b (me b) (l ++ [u])) := hide (Lib.BuilderAt.put (T := 56) (e := 5) hB HB3.out (bs' := bv (l ++ [u])) (by
    rw [bv_length, List.length_append]; exact hown3) (by decide))
  have HBe := hide ((HB1.out.grown hgrow hBw1 (fun k hk => own_any HOW.out (show ob ao = some k by first | exact hk | (rw [← ob_eq]; exact hk)))).setCell (p := ⟨b, 1, none⟩) hB (.slice (some ⟨g, 0, none⟩) (l.length + 1) cap))
  clear hown hown3 hgrow hat hblk HB1 HOW cc
  go_wp2_with fail
  go_ret
  exact ⟨⟨_, rfl⟩, HN.out, HBe.out⟩
theorem bString (B b : Nat) (l : List UInt8) (w : World) (h : Bd w B b (me b) l) (h0 : l ≠ []) : Calls Tryd.prog 26 #[.pointer (some ⟨b, 0, none⟩)] w fun e w' => e = .returned (.string ⟨l.toArray⟩) ∧ Below B w w' :=
  Any.Builder_String Tryd.laysBS xB B b l w (.inr h) h0
end Go.Proofs.YteknpejkooemjabDoor.Pau
