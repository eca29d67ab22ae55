/- TokenScans, as it is walked. -/
import Derived.Test.YtinbbcojilogeaaDoorMj
import Derived.Test.YtinbbcojilogeaaDoorNd
namespace Go.Proofs.YtinbbcojilogeaaDoor.Tok
open Go.RowKit Go.Shelf Go.Proofs.YtinbbcojilogeaaDoor.Oct

set_option maxRecDepth 100000 in
set_option maxHeartbeats 2000000 in
theorem xScans (l : List UInt8) (hl : l.length ≤ 1048576) (w : World) (hT : Tx w) :
    Calls Tryd.prog 4 #[str l] w fun e w' => e = .returned (.bool true) ∧ Below w.heap.size w w' := by
  have c1 := nScan l (by omega) w hT.tw
  have c2 := fun w => dScan l (by omega) w
  unfold ScanPost at c1 c2
  cases hS : scanAll l with
  | bad F =>
    rw [hS] at c1 c2
    simp only at c1 c2
    obtain ⟨code, off, line, col⟩ := F
    simp only at c1 c2
    unfold str at *
    generalize (⟨l.toArray⟩ : ByteArray) = s at *
    clear hS
    go_enter Tryd.func4, Tryd.ntmps4
    go_wp2_with fail
    refine c1.mono ?_
    rintro e w1 ⟨rfl, hb1⟩
    clear c1
    go_wp2_with fail
    refine (c2 _).mono ?_
    rintro e w2 ⟨rfl, hb2⟩
    clear c2
    have hbA := (below_new w1 (.cells #[.int .i64 (code : Int), .int .i64 (off : Int), .int .i64 (line : Int), .int .i64 (col : Int)] 31)).trans (hb2.mono (by simp))
    have r1 : w2.heap[w1.heap.size]? = some (.cells #[.int .i64 (code : Int), .int .i64 (off : Int), .int .i64 (line : Int), .int .i64 (col : Int)] 31 (0, 0)) := (hb2.block _ (by simp)).trans (heap_alloc_new _ _)
    have hs2 := hb2.size
    have hbw2 := hb1.trans (hbA.mono hb1.size)
    have d0 : ∀ o, (w2.alloc o).cell? ⟨w1.heap.size, 0, none⟩ = some (.int .i64 (code : Int)) := fun o => cell_of_row _ _ 0 _ _ _ ((Below.heap_alloc _ _ _ (Array.getElem?_eq_some_iff.1 r1).1).trans r1)
    have d1 : ∀ o, (w2.alloc o).cell? ⟨w1.heap.size, 1, none⟩ = some (.int .i64 (off : Int)) := fun o => cell_of_row _ _ 1 _ _ _ ((Below.heap_alloc _ _ _ (Array.getElem?_eq_some_iff.1 r1).1).trans r1)
    have d2 : ∀ o, (w2.alloc o).cell? ⟨w1.heap.size, 2, none⟩ = some (.int .i64 (line : Int)) := fun o => cell_of_row _ _ 2 _ _ _ ((Below.heap_alloc _ _ _ (Array.getElem?_eq_some_iff.1 r1).1).trans r1)
    have d3 : ∀ o, (w2.alloc o).cell? ⟨w1.heap.size, 3, none⟩ = some (.int .i64 (col : Int)) := fun o => cell_of_row _ _ 3 _ _ _ ((Below.heap_alloc _ _ _ (Array.getElem?_eq_some_iff.1 r1).1).trans r1)
    clear hb2 hbA r1
    go_wp2_with fail
    have hbw3 := hbw2.alloc hbw2.size (.cells #[.int .i64 (code : Int), .int .i64 (off : Int), .int .i64 (line : Int), .int .i64 (col : Int)] 31)
    generalize w2.alloc (.cells #[.int .i64 (code : Int), .int .i64 (off : Int), .int .i64 (line : Int), .int .i64 (col : Int)] 31) = w3 at hbw3 ⊢
    refine (xSame none none 0 0 [] (Nat.zero_le _) w3 (fun j t hj => by simp at hj) (fun j t hj => by simp at hj)).mono ?_
    rintro e w4 ⟨rfl, hb4⟩
    have hbw4 := hbw3.trans (hb4.mono hbw3.size)
    have c7 := xAlive w4 (hT.below hbw4)
    clear d0 d1 d2 d3
    go_wp2_with fail
    refine c7.mono ?_
    rintro e w5 ⟨rfl, hb5⟩
    have hbw5 := hbw4.trans (hb5.mono hbw4.size)
    clear c7
    go_wp2_with fail
    go_ret
    exact ⟨rfl, hbw5⟩
  | ok us =>
    rw [hS] at c1 c2
    simp only at c1 c2
    have hul : us.length ≤ l.length + 1 := by
      obtain ⟨init, e, rfl, _, _, _, _, _, h⟩ := scan_shape _ l 0 (1, 1) us hS (by omega)
      rw [List.length_append]
      simp
      exact h
    obtain ⟨n, hn⟩ : ∃ n, us.length = n := ⟨_, rfl⟩
    rw [hn] at c1 c2 hul
    have Hn := hide hn
    unfold str at *
    generalize (⟨l.toArray⟩ : ByteArray) = s at *
    clear hS hn
    go_enter Tryd.func4, Tryd.ntmps4
    go_wp2_with fail
    refine c1.mono ?_
    rintro e w1 ⟨lo, lc, rfl, hown1, hb1⟩
    have HL : Hid (Ta w1 lo (us.map T.ta)) := hide (ta_of_own (by rw [← tvs_ta]; exact hown1))
    clear c1 hown1
    go_wp2_with fail
    refine (c2 _).mono ?_
    rintro e w2 ⟨mo, mc, rfl, hown2, hb2⟩
    have HM : Hid (Ta w2 mo (us.map T.ta)) := hide (ta_of_own (by rw [← tvs_ta]; exact hown2))
    clear c2 hown2
    have hbA := (below_new w1 (.cells #[.int .i64 0, .int .i64 0, .int .i64 0, .int .i64 0] 31)).trans (hb2.mono (by simp))
    have r1 : w2.heap[w1.heap.size]? = some (.cells #[.int .i64 0, .int .i64 0, .int .i64 0, .int .i64 0] 31 (0, 0)) := (hb2.block _ (by simp)).trans (heap_alloc_new _ _)
    have hbw2 := hb1.trans (hbA.mono hb1.size)
    have HL2 : Hid (Ta w2 lo (us.map T.ta)) := hide (HL.out.below hbA)
    have d0 : ∀ o, (w2.alloc o).cell? ⟨w1.heap.size, 0, none⟩ = some (.int .i64 0) := fun o => cell_of_row _ _ 0 _ _ _ ((Below.heap_alloc _ _ _ (Array.getElem?_eq_some_iff.1 r1).1).trans r1)
    have d1 : ∀ o, (w2.alloc o).cell? ⟨w1.heap.size, 1, none⟩ = some (.int .i64 0) := fun o => cell_of_row _ _ 1 _ _ _ ((Below.heap_alloc _ _ _ (Array.getElem?_eq_some_iff.1 r1).1).trans r1)
    have d2 : ∀ o, (w2.alloc o).cell? ⟨w1.heap.size, 2, none⟩ = some (.int .i64 0) := fun o => cell_of_row _ _ 2 _ _ _ ((Below.heap_alloc _ _ _ (Array.getElem?_eq_some_iff.1 r1).1).trans r1)
    have d3 : ∀ o, (w2.alloc o).cell? ⟨w1.heap.size, 3, none⟩ = some (.int .i64 0) := fun o => cell_of_row _ _ 3 _ _ _ ((Below.heap_alloc _ _ _ (Array.getElem?_eq_some_iff.1 r1).1).trans r1)
    clear hb2 hbA r1 HL
    go_wp2_with fail
    have hb3 : Below w2.heap.size w2 (w2.alloc (.cells #[.int .i64 0, .int .i64 0, .int .i64 0, .int .i64 0] 31)) := below_new _ _
    generalize w2.alloc (.cells #[.int .i64 0, .int .i64 0, .int .i64 0, .int .i64 0] 31) = w3 at hb3 ⊢
    have hbw3 := hbw2.trans (hb3.mono hbw2.size)
    have c6 := xSame lo mo lc mc (us.map T.ta) (by rw [List.length_map, Hn.out]; omega) w3 (HL2.out.below hb3) (HM.out.below hb3)
    rw [List.length_map, Hn.out] at c6
    refine c6.mono ?_
    rintro e w4 ⟨rfl, hb4⟩
    have hbw4 := hbw3.trans (hb4.mono hbw3.size)
    have c7 := xAlive w4 (hT.below hbw4)
    clear d0 d1 d2 d3 c6
    go_wp2_with fail
    refine c7.mono ?_
    rintro e w5 ⟨rfl, hb5⟩
    have hbw5 := hbw4.trans (hb5.mono hbw4.size)
    clear c7
    go_wp2_with fail
    go_ret
    exact ⟨rfl, hbw5⟩
end Go.Proofs.YtinbbcojilogeaaDoor.Tok
