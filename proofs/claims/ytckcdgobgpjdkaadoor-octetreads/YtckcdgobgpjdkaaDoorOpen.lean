/- Open, as it is walked. -/
import Derived.Test.YtckcdgobgpjdkaaDoorSeal
namespace Go.Proofs.YtckcdgobgpjdkaaDoor.Oct
open Go.RowKit Go.Lib

theorem Open_short (ao : Option Addr) (c : Nat) (l : List UInt8) (w : World) (hl : l.length < 4) :
    Calls Tryd.prog 27 #[.slice ao l.length c] w fun e w' => e = .returned (.tuple #[.slice none 0 0, .int .i64 10]) ∧ w' = w := by
  have hl' : (l.length : Int) < 4 := by omega
  go_enter Tryd.func27, Tryd.ntmps27
  go_wp2
  go_ret2
  exact ⟨rfl, rfl⟩

set_option maxHeartbeats 1000000 in
theorem Open_any (g off c : Nat) (l d : List UInt8) (m w0 : Nat) (w : World) (h : Bs w (some ⟨g, off, none⟩) l) (hl : l.length = m + 4) (hc : l.length ≤ c) (hm : l.length ≤ 140737488355328) (hd : d = l.take m) (hw0 : w0 = num (l.drop m)) :
    Calls Tryd.prog 27 #[.slice (some ⟨g, off, none⟩) (m + 4) c] w fun e w' => (crc d = w0 → ∃ ao' c', e = .returned (.tuple #[.slice ao' d.length c', .int .i64 0]) ∧ Fresh 5 w w' ao' c' d) ∧ (¬ crc d = w0 → e = .returned (.tuple #[.slice none 0 0, .int .i64 13]) ∧ Below w.heap.size w w') := by
  have hdl : d.length = m := by rw [hd, List.length_take]; omega
  have hbd : Bs w (some ⟨g, off, none⟩) d := by rw [hd]; exact h.take m
  have ht : (l.drop m).length = 4 := by rw [List.length_drop]; omega
  have hbt : Bs w (some ⟨g, off + m, none⟩) (l.drop m) := fun j b hj => by
    rw [List.getElem?_drop] at hj
    obtain ⟨g', o', e, hc⟩ := h (m + j) b hj
    cases e
    exact ⟨g, off + m, rfl, by rw [Nat.add_assoc]; exact hc⟩
  have hw4 : w0 < 4294967296 := by have := num_lt (l.drop m); rw [ht] at this; rw [hw0]; exact this
  have hlt' : ¬ ((m : Int) + 4) < 4 := by omega
  have hcm : m + 4 ≤ c := by omega
  have hm' : m ≤ 140737488355328 := by omega
  generalize l.drop m = t at *
  have Ht := hide ht
  have Hdl := hide hdl
  have Hw0 := hide hw0
  clear ht hdl hw0 hd h hl hc hm
  go_enter Tryd.func27, Tryd.ntmps27
  go_wp2_with (at_builtin; refine wpList_append_src rfl _ _ 24 24 rfl w.heap.size 5 Tryd.underlying24 info5 none 0 0 [] rfl (World.ownsRow_nil _ _ _ _) (.slice (some ⟨g, off, none⟩) m c) m d rfl ?src (by omega) (Nat.le_refl _) ?_)
  case src =>
    have := hbd.src (c := c) (P := Tryd.prog) (tx := 24) Tryd.underlying24
    rw [Hdl.out] at this
    exact this
  intro ao1 c1 w1 hown1 hg1 hat1
  have hb1 : Below w.heap.size w w1 := (Below.refl _ _).grown hg1 (Nat.le_refl _) (fun k hk => by cases hk)
  clear hg1 hat1 hbd
  go_wp2_with fail
  have cN := NewReader_any (some ⟨g, off + m, none⟩) (c - m) t w1 (hbt.below hb1) (by rw [Ht.out]; decide) (by intro e; have := Ht.out; rw [e] at this; cases this)
  rw [Ht.out] at cN
  refine cN.mono ?_
  rintro e w2 ⟨rb, g2, c2, rfl, hb2, hr2, hrb, hgb, hc2⟩
  have hB2 : Below w.heap.size w w2 := hb1.trans (hb2.mono hb1.size)
  have hown2 := ownsRow_of_block hown1 (fun k hk => hb2.block k (hown1.lt k (by rw [ob_eq]; exact hk)).2)
  have hrl : ob ao1 ≠ some rb := fun e => by have := (hown1.lt rb (by rw [ob_eq]; exact e)).2; omega
  have hs1 := hb1.size
  clear hown1 hb2 hbt cN
  go_wp2_with fail
  have cU := U32_of _ _ (num (t.take 4)) 0 (by rw [List.take_of_length_le (by rw [Ht.out]; decide), ← Hw0.out]; exact hw4) _ (number_grown rb 0 g2 0 c2 4 t w2 hr2 (by rw [Ht.out]; decide) (by decide) hc2)
  rw [List.take_of_length_le (by rw [Ht.out]; decide), ← Hw0.out] at cU
  refine cU.mono ?_
  rintro e w3 ⟨rfl, -, hg3, -⟩
  have hB3 : Below w.heap.size w w3 := hB2.grown hg3 hB2.size (fun k hk => by cases hk; omega)
  have hown3 := ownsRow_of_block hown2 (fun k hk => hg3.block k (hown2.lt k (by rw [ob_eq]; exact hk)).2 (fun e => hrl (by rw [hk, e])))
  clear hown2 hg3 hrl cU hr2 hB2
  go_wp2_with fail
  have cS := Sum_one ao1 c1 d w3 24 (Bs.of_own hown3) (by rw [Hdl.out]; omega)
  rw [Hdl.out] at cS
  refine cS.mono ?_
  rintro e w4 ⟨rfl, rfl⟩
  have hB4 := hB3.alloc hB3.size (.cells #[.slice ao1 m c1] 24)
  have hown4 := hown3.alloc (.cells #[.slice ao1 m c1] 24)
  clear hown3 hB3 cS
  by_cases he : crc d = w0
  · have ht1 : ((crc d : Int) != (w0 : Int)) = false := by rw [he]; simp
    have He := hide he
    clear he
    go_wp2_with fail
    go_ret2
    refine ⟨fun _ => ⟨ao1, c1, ?_, hB4, ?_⟩, fun hn => absurd He.out hn⟩
    · rw [Hdl.out]; rfl
    · rw [Hdl.out]; exact hown4
  · have ht1 : ((crc d : Int) != (w0 : Int)) = true := by rw [bne_iff_ne]; omega
    have He := hide he
    clear he
    go_wp2_with fail
    go_ret2
    exact ⟨fun hn => absurd hn He.out, fun _ => ⟨rfl, hB4⟩⟩
end Go.Proofs.YtckcdgobgpjdkaaDoor.Oct
