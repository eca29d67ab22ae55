/- The Writer's Text. -/
import Derived.Test.YtefbhhabeapaaaaDoorWr2
import Derived.Test.YtefbhhabeapaaaaDoorShelf
namespace Go.Proofs.YtefbhhabeapaaaaDoor.Oct
open Go.RowKit Go.Lib

/-- The two tables that utf8 reads lie as the library's text lays them. -/
def Tabs (w : World) : Prop := Lib.Utf8Tabs (Tryd.laysValid_ren.g 3) (Tryd.laysValid_ren.g 4) w
theorem Tabs.below {w w' : World} (h : Tabs w) (hb : Below w.heap.size w w') : Tabs w' := Utf8Tabs_below h hb
theorem Tabs.lt {w : World} (h : Tabs w) : Tryd.laysValid_ren.g 3 < w.heap.size ∧ Tryd.laysValid_ren.g 4 < w.heap.size :=
  ⟨World.block_lt_of_cell? w _ (h.1 0 (by decide)), World.block_lt_of_cell? w _ (h.2 0 (by decide)).1⟩

/-- What Text answers, and what it lays down. -/
def textErr (l : List UInt8) : Int := if 4096 < l.length then 12 else if Lib.validD l then 0 else 14
def textBytes (l : List UInt8) : List UInt8 := if textErr l = 0 then le 2 l.length ++ l else []

set_option maxHeartbeats 400000 in
theorem Text_any (pb po : Nat) (s : ByteArray) (l : List UInt8) (ao : Option Addr) (c : Nat) (w : World) (B : Nat) (h : Wr 5 w B ⟨pb, po, none⟩ ao c l) (hT : Tabs w) (hs : s.size ≤ 9223372036854775807) (hlen : l.length + 4098 ≤ 140737488355328) :
    Calls Tryd.prog 15 #[.pointer (some ⟨pb, po, none⟩), .string s] w fun e w' => e = .returned (.int .i64 (textErr s.data.toList)) ∧ ∃ ao' c', Wr 5 w' B ⟨pb, po, none⟩ ao' c' (l ++ textBytes s.data.toList) ∧ Fr w w' ⟨pb, po, none⟩ ao ao' := by
  have hsl : s.data.toList.length = s.size := by rw [Array.length_toList]; rfl
  by_cases hl : 4096 < s.size
  · have e1 : textErr s.data.toList = 12 := by unfold textErr; rw [if_pos (by omega)]
    have e2 : textBytes s.data.toList = [] := by unfold textBytes; rw [e1]; rfl
    rw [e1, e2, List.append_nil]
    have hl' : (4096 : Int) < (s.size : Int) := by omega
    clear e1 e2 hsl
    go_enter Tryd.func15, Tryd.ntmps15
    go_wp2_with fail
    go_ret
    exact ⟨rfl, ao, c, h, Fr.refl _ _ _⟩
  · have hl' : ¬ (4096 : Int) < (s.size : Int) := by omega
    have cV : Calls Tryd.prog 27 #[.string s] w _ := Any.utf8_ValidString Tryd.laysValid s w hs hT
    have e1 : textErr s.data.toList = if Lib.validD s.data.toList then 0 else 14 := by unfold textErr; rw [if_neg (by omega)]
    have e2 : textBytes s.data.toList = if Lib.validD s.data.toList then le 2 s.size ++ s.data.toList else [] := by unfold textBytes; rw [e1, hsl]; cases Lib.validD s.data.toList <;> rfl
    rw [e1, e2]
    clear e1 e2
    cases hv : Lib.validD s.data.toList
    · rw [hv] at cV
      rw [if_neg (by decide), if_neg (by decide), List.append_nil]
      clear hv
      go_enter Tryd.func15, Tryd.ntmps15
      go_wp2_with (go_at_call 27; refine cV.mono ?_; rintro e w' ⟨rfl, hb⟩)
      go_ret
      exact ⟨rfl, ao, c, (h.below hb).1, (h.below hb).2⟩
    · rw [hv] at cV
      rw [if_pos rfl, if_pos rfl]
      clear hv
      go_enter Tryd.func15, Tryd.ntmps15
      go_wp2_with (go_at_call 27; refine cV.mono ?_; rintro e w' ⟨rfl, hb⟩)
      obtain ⟨hw1, hf1⟩ := h.below hb
      clear hb cV hT h
      refine (U16_any pb po s.size l ao c _ B (by omega) hw1 (by omega)).mono ?_
      rintro e w2 ⟨rfl, ao2, c2, hw2, hf2⟩
      have hc := hw2.cell
      have hz := hw2.froz
      have hown := hw2.own
      have hap := hw2.apart
      have HB := hw2.base
      have hpb : pb < w2.heap.size := World.block_lt_of_cell? w2 ⟨pb, po, none⟩ hw2.cell
      have hll : (l ++ le 2 s.size).length + s.size ≤ 140737488355328 := by simp [le_length]; omega
      have HL : Hid (l ++ (le 2 s.size ++ s.data.toList) = (l ++ le 2 s.size) ++ s.data.toList) := show _ = _ by simp
      have HS := hide hsl
      generalize l ++ le 2 s.size = L at hw2 hc hown hll HL
      clear hsl
      go_wp2_with (at_builtin; refine wpList_append_src rfl _ _ 22 9 rfl B 5 Tryd.underlying22 info5 ao2 L.length c2 L rfl hown (.string s) s.size s.data.toList rfl (Src.ofString _ Tryd.underlying9 s) hll HB ?_)
      intro ao3 c3 w3 hown3 hgrow hat
      have hblk := hgrow.block pb hpb (fun e => hap e.symm)
      have hc1 := (World.cell?_of_block (a := ⟨pb, po, none⟩) hblk).trans hc
      have hz1 := (World.frozen?_of_block (a := ⟨pb, po, none⟩) hblk).trans hz
      have st := hw2.step' (m := s.data.toList) (ao' := ao3) (c' := c3) (by rw [HS.out]; exact hown3) hgrow hat
      rw [HS.out] at st
      clear hown hown3 hblk hgrow hat
      go_wp2
      go_ret
      exact ⟨rfl, ao3, c3, by rw [HL.out]; exact st.1, hf1.trans (hf2.trans st.2)⟩
end Go.Proofs.YtefbhhabeapaaaaDoor.Oct
