/- NewReader, End, Left; the two bytes of é as a text. -/
import Derived.Test.YtefbhhabeapaaaaDoorRd1
import Derived.Test.YtefbhhabeapaaaaDoorVc
namespace Go.Proofs.YtefbhhabeapaaaaDoor.Oct
open Go.RowKit Go.Lib

set_option maxHeartbeats 400000 in
theorem NewReader_any (ao : Option Addr) (c : Nat) (l : List UInt8) (w : World) (h : Bs w ao l) (hl : l.length ≤ 140737488355328) (h0 : l ≠ []) :
    Calls Tryd.prog 16 #[.slice ao l.length c] w fun e w' => ∃ pb g c', e = .returned (.pointer (some ⟨pb, 0, none⟩)) ∧ Below w.heap.size w w' ∧ Rd w' pb 0 g 0 c' l ∧ w.heap.size ≤ pb ∧ w.heap.size ≤ g ∧ c' ≤ 9223372036854775807 := by
  go_enter Tryd.func16, Tryd.ntmps16
  have hl0 : 0 < l.length := List.length_pos_iff.2 h0
  go_wp2_with (at_builtin; refine wpList_append_src rfl _ _ 22 22 rfl w.heap.size 5 Tryd.underlying22 info5 none 0 0 [] rfl (World.ownsRow_nil _ _ _ _) (.slice ao l.length c) l.length l rfl (h.src Tryd.underlying22) (by omega) (Nat.le_refl _) ?_)
  intro ao1 c1 w1 hown hgrow hat
  obtain ⟨g, cap, hv, hb, hg⟩ := hown.form hl0
  simp only [Value.slice.injEq, true_and] at hv
  obtain ⟨rfl, rfl⟩ := hv
  have hbel : Below w.heap.size w w1 := (Below.refl _ _).grown hgrow (Nat.le_refl _) (fun k hk => by cases hk)
  have hc1 : c1 ≤ maxLen ∧ l.length ≤ c1 := by
    rcases hown.2 with ⟨hv, _⟩ | ⟨_, _, _, hv, _, _, h1, h2, _⟩
    · cases hv
    · simp only [Value.slice.injEq] at hv; omega
  have hdat := Bs.of_own hown
  have hs := hbel.size
  clear hgrow hat h hown
  go_wp2
  go_ret
  refine ⟨w1.heap.size, g, c1, rfl, hbel.alloc hs _, ⟨?_, ?_, ?_, ?_, hc1.2, ?_, ?_⟩, hs, hb, ?_⟩
  · simp
  · simp
  · simp
  · simp
  · intro j b hj
    obtain ⟨g', off, e, hc⟩ := hdat j b hj
    cases e
    rw [World.cell?_alloc_past _ _ _ hg]
    exact hc
  · omega
  · have := hc1.1; unfold maxLen at this; omega

theorem End_ok (pb po g off c : Nat) (w : World) (h : Rd w pb po g off c []) :
    Calls Tryd.prog 21 #[.pointer (some ⟨pb, po, none⟩)] w fun e w' => e = .returned (.int .i64 0) ∧ w' = w := by
  have h1 := h.rest
  have h2 := h.made
  rw [List.length_nil] at h1
  go_enter Tryd.func21, Tryd.ntmps21
  go_wp2_with (go_at_call 30; refine (nobodys_made pb po _ h2).mono ?_; rintro e w' ⟨rfl, rfl⟩)
  go_ret
  exact ⟨rfl, rfl⟩
end Go.Proofs.YtefbhhabeapaaaaDoor.Oct
