/- What the laws ask of every program (alive), as it is walked. -/
import Derived.Test.YtinbbcojilogeaaDoorKm
namespace Go.Proofs.YtinbbcojilogeaaDoor.Tok
open Go.RowKit Go.Shelf Go.Proofs.YtinbbcojilogeaaDoor.Oct

theorem xNum (z : Int) (w : World) : Calls Tryd.prog 21 #[.int .i64 z] w fun e w' => e = .returned (.int .i64 z) ∧ w' = w := by
  go_enter Tryd.func21, Tryd.ntmps21
  go_wp2
  go_ret
  exact ⟨rfl, rfl⟩
def al1 : List UInt8 := [99, 120, 32, 113, 91, 48, 93, 59, 32, 47, 47, 32, 120]
def al1T : List T := [⟨1, [99, 120], 0, 0, 1, 1⟩, ⟨1, [113], 0, 3, 1, 4⟩, ⟨5, [91], 0, 4, 1, 5⟩, ⟨2, [], 0, 5, 1, 6⟩, ⟨5, [93], 0, 6, 1, 7⟩, ⟨5, [59], 0, 7, 1, 8⟩, ⟨0, [], 0, 13, 1, 14⟩]
theorem al1_scan : scanAll al1 = .ok al1T := by decide +kernel
def al2 : List UInt8 := [97, 10, 32, 48, 48, 55]
theorem al2_scan : scanAll al2 = .bad ⟨41, 3, 2, 2⟩ := by decide +kernel
def al3 : List TA := [⟨1, [97], 0, 0, 0, 0⟩, ⟨5, [45, 62], 0, 0, 0, 0⟩, ⟨2, [], 7, 0, 0, 0⟩]
theorem al3_join : joinR al3 = some [97, 32, 45, 62, 32, 55] := by decide +kernel
theorem al4 : wholeB [113, 95, 49] 1 [113, 95, 49] 0 = true := by decide +kernel
theorem al5 : wholeB [49, 113] 1 [49, 113] 0 = false := by decide +kernel
theorem al6 : spotAt [97, 195, 169, 10, 98] 4 = (2, 1) := by decide +kernel
theorem own_cell {w : World} {B e size n m c : Nat} {ao : Option Addr} {xs : List Value} (h : w.ownsRow B e size (.slice ao m c) n xs) (hn : n ≠ 0) : ∃ g, ao = some ⟨g, 0, none⟩ ∧ ∀ j v, xs[j]? = some v → w.cell? ⟨g, j, none⟩ = some v := by
  rcases h.2 with ⟨_, h0⟩ | ⟨g, cap, cur, hv, _⟩
  · exact absurd h0 hn
  · simp only [Value.slice.injEq] at hv
    refine ⟨g, hv.1, fun j v hj => ?_⟩
    have hc := h.cells (g := g) (by rw [ob_eq, hv.1]; rfl) j v hj
    rw [Addr.add_lit, Nat.zero_add] at hc
    exact hc
theorem flat_at : ∀ (ts : List TA) (j : Nat) (t : TA), ts[j]? = some t → ∀ i v, t.cells[i]? = some v → (ts.flatMap TA.cells)[j * 6 + i]? = some v
  | [], j, t, h, _, _, _ => by simp at h
  | a :: r, 0, t, h, i, v, hv => by
    simp at h
    subst h
    rw [List.flatMap_cons, Nat.zero_mul, Nat.zero_add, List.getElem?_append_left ((List.getElem?_eq_some_iff.1 hv).1)]
    exact hv
  | a :: r, j + 1, t, h, i, v, hv => by
    simp only [List.getElem?_cons_succ] at h
    have hl : a.cells.length = 6 := rfl
    rw [List.flatMap_cons, List.getElem?_append_right (by omega), hl, show (j + 1) * 6 + i - 6 = j * 6 + i by omega]
    exact flat_at r j t h i v hv
theorem ta_of_row (w : World) (g : Nat) (ts : List TA) (cs : Array Value) (e : TypeId) (fr : Nat × Nat) (h : w.heap[g]? = some (.cells cs e fr)) (hc : cs = (ts.flatMap TA.cells).toArray) : Ta w (some ⟨g, 0, none⟩) ts := by
  intro j t hj
  refine ⟨g, 0, rfl, fun i v hv => ?_⟩
  rw [Nat.zero_add, cell_of_row w g _ cs e fr h, hc]
  simpa using flat_at ts j t hj i v hv
set_option maxRecDepth 100000 in
set_option maxHeartbeats 4000000 in
theorem xAlive (w : World) (hT : Tx w) : Calls Tryd.prog 13 #[] w fun e w' => e = .returned (.bool true) ∧ Below w.heap.size w w' := by
  have c1 := nScan al1 (by decide) w hT.tw
  unfold ScanPost at c1
  rw [al1_scan] at c1
  go_enter Tryd.func13, Tryd.ntmps13
  go_wp2_with fail
  refine c1.mono ?_
  rintro e w1 ⟨ao, c, rfl, hown, hb1⟩
  obtain ⟨g, rfl, hcell⟩ := own_cell hown (by decide)
  have k1 := hcell 7 (.string ⟨#[113]⟩) rfl
  have k2 := hcell 20 (.int .i64 0) rfl
  have k3 := hcell 21 (.int .i64 5) rfl
  have k4 := hcell 36 (.int .i64 0) rfl
  have hlen : al1T.length = 7 := rfl
  rw [hlen]
  clear hown hcell c1
  have c2 := fun o => nScan al2 (by decide) (w1.alloc o) (hT.below (hb1.alloc hb1.size o)).tw
  unfold ScanPost at c2
  rw [al2_scan] at c2
  go_wp2_with fail
  refine (c2 _).mono ?_
  rintro e w2 ⟨rfl, hb2⟩
  have hb2' := hb1.trans (((below_new w1 _).trans (hb2.mono (by simp))).mono hb1.size)
  have hw12 := (below_new w1 _).trans (hb2.mono (by simp))
  have m1 := cell_below k1 hw12
  have m2 := cell_below k2 hw12
  have m3 := cell_below k3 hw12
  have m4 := cell_below k4 hw12
  have f1 := (hb2.block w1.heap.size (by simp)).trans (heap_alloc_new _ _)
  clear k1 k2 k3 k4 c2 hb2
  go_wp2_with fail
  have r3 := heap_alloc2_new w2 (.cells #[.int .i64 41, .int .i64 3, .int .i64 2, .int .i64 2] 31) (.cells #[.int .i64 1, .string ⟨#[97]⟩, .int .i64 0, .int .i64 0, .int .i64 0, .int .i64 0, .int .i64 5, .string ⟨#[45, 62]⟩, .int .i64 0, .int .i64 0, .int .i64 0, .int .i64 0, .int .i64 2, .string ⟨#[]⟩, .int .i64 7, .int .i64 0, .int .i64 0, .int .i64 0] 37)
  have f2 : ((w2.alloc (.cells #[.int .i64 41, .int .i64 3, .int .i64 2, .int .i64 2] 31)).alloc (.cells #[.int .i64 1, .string ⟨#[97]⟩, .int .i64 0, .int .i64 0, .int .i64 0, .int .i64 0, .int .i64 5, .string ⟨#[45, 62]⟩, .int .i64 0, .int .i64 0, .int .i64 0, .int .i64 0, .int .i64 2, .string ⟨#[]⟩, .int .i64 7, .int .i64 0, .int .i64 0, .int .i64 0] 37)).heap[w2.heap.size]? = _ := (Below.heap_alloc _ _ _ (by simp)).trans (heap_alloc_new _ _)
  have hb3 : Below w2.heap.size w2 ((w2.alloc (.cells #[.int .i64 41, .int .i64 3, .int .i64 2, .int .i64 2] 31)).alloc (.cells #[.int .i64 1, .string ⟨#[97]⟩, .int .i64 0, .int .i64 0, .int .i64 0, .int .i64 0, .int .i64 5, .string ⟨#[45, 62]⟩, .int .i64 0, .int .i64 0, .int .i64 0, .int .i64 0, .int .i64 2, .string ⟨#[]⟩, .int .i64 7, .int .i64 0, .int .i64 0, .int .i64 0] 37)) := ((Below.refl _ _).alloc (Nat.le_refl _) _).alloc (by simp) _
  generalize ((w2.alloc (.cells #[.int .i64 41, .int .i64 3, .int .i64 2, .int .i64 2] 31)).alloc (.cells #[.int .i64 1, .string ⟨#[97]⟩, .int .i64 0, .int .i64 0, .int .i64 0, .int .i64 0, .int .i64 5, .string ⟨#[45, 62]⟩, .int .i64 0, .int .i64 0, .int .i64 0, .int .i64 0, .int .i64 2, .string ⟨#[]⟩, .int .i64 7, .int .i64 0, .int .i64 0, .int .i64 0] 37)) = w3 at *
  have hT3 : Tx w3 := hT.below (hb2'.trans (hb3.mono hb2'.size))
  have c3 := nJoin (some ⟨w2.heap.size + 1, 0, none⟩) 3 al3 w3 (ta_of_row w3 _ al3 _ _ _ r3 rfl) (by intro t ht; simp [al3] at ht; rcases ht with rfl | rfl | rfl <;> exact ⟨by decide, by decide⟩) (by decide) hT3
  rw [al3_join] at c3
  simp only [wrV] at c3
  refine c3.mono ?_
  rintro e w4 ⟨rfl, hb4⟩
  have hbw3 := hb2'.trans (hb3.mono hb2'.size)
  have hbw4 := hbw3.trans (hb4.mono hbw3.size)
  have h24 := hb3.trans (hb4.mono hb3.size)
  have n1 := cell_below m1 h24
  have n2 := cell_below m2 h24
  have n3 := cell_below m3 h24
  have n4 := cell_below m4 h24
  have f3 := (h24.block w1.heap.size (Array.getElem?_eq_some_iff.1 f1).1).trans f1
  have f4 := (hb4.block w2.heap.size (Array.getElem?_eq_some_iff.1 f2).1).trans f2
  have p0 : w4.cell? ⟨w1.heap.size, 0, none⟩ = some (.int .i64 0) := cell_of_row _ _ 0 _ _ _ f3
  have p1 : w4.cell? ⟨w1.heap.size, 1, none⟩ = some (.int .i64 0) := cell_of_row _ _ 1 _ _ _ f3
  have p2 : w4.cell? ⟨w1.heap.size, 2, none⟩ = some (.int .i64 0) := cell_of_row _ _ 2 _ _ _ f3
  have p3 : w4.cell? ⟨w1.heap.size, 3, none⟩ = some (.int .i64 0) := cell_of_row _ _ 3 _ _ _ f3
  have q0 : w4.cell? ⟨w2.heap.size, 0, none⟩ = some (.int .i64 41) := cell_of_row _ _ 0 _ _ _ f4
  have q1 : w4.cell? ⟨w2.heap.size, 1, none⟩ = some (.int .i64 3) := cell_of_row _ _ 1 _ _ _ f4
  have q2 : w4.cell? ⟨w2.heap.size, 2, none⟩ = some (.int .i64 2) := cell_of_row _ _ 2 _ _ _ f4
  have q3 : w4.cell? ⟨w2.heap.size, 3, none⟩ = some (.int .i64 2) := cell_of_row _ _ 3 _ _ _ f4
  have c5 := nName' [113, 95, 49] (by decide) w4 (hT.below hbw4).tw
  rw [al4] at c5
  clear m1 m2 m3 m4 f1 f2 f3 f4 c3 r3 hT3
  go_wp2_with (go_at_call 21; refine (xNum _ _).mono ?_; rintro e w1 ⟨rfl, rfl⟩)
  refine c5.mono ?_
  rintro e w5 ⟨rfl, hb5⟩
  have hbw5 := hbw4.trans (hb5.mono hbw4.size)
  have c6 := nName' [49, 113] (by decide) w5 (hT.below hbw5).tw
  rw [al5] at c6
  clear c5 n1 n2 n3 n4 p0 p1 p2 p3 q0 q1 q2 q3
  go_wp2_with fail
  refine c6.mono ?_
  rintro e w6 ⟨rfl, hb6⟩
  have hbw6 := hbw5.trans (hb6.mono hbw5.size)
  have c7 := nAt [97, 195, 169, 10, 98] 4 (by decide) (by decide) (by decide) w6
  rw [show atOff ([97, 195, 169, 10, 98] : List UInt8).length 4 = 4 by decide, al6] at c7
  unfold spotV at c7
  clear c6
  go_wp2_with fail
  refine c7.mono ?_
  rintro e w7 ⟨rfl, hb7⟩
  have hbw7 := hbw6.trans (hb7.mono hbw6.size)
  clear c7
  go_wp2_with fail
  go_ret
  exact ⟨rfl, hbw7⟩
end Go.Proofs.YtinbbcojilogeaaDoor.Tok
