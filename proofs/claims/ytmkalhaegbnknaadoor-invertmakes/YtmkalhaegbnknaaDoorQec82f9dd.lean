import Derived.Test.YtmkalhaegbnknaaDoorQ0ea0ffd8
set_option maxRecDepth 100000
namespace Go.Proofs.YtmkalhaegbnknaaDoor.Cir
open Go.RowKit Go.Shelf Go.Proofs.YtmkalhaegbnknaaDoor.Oct Go.Proofs.YtmkalhaegbnknaaDoor.Tok Go.Proofs.YtmkalhaegbnknaaDoor.Gt Go.Proofs.YtmkalhaegbnknaaDoor.Rf
theorem dIn_1 (w : World) : Calls Tryd.prog 28 #[.int .i64 1] w fun e w' => ∃ g c, e = .returned (.slice (some ⟨g, 0, none⟩) 1 c) /\ w'.heap[g]? = some (.cells (([1] : List Int).map (Value.int .i64)).toArray 38 (0, 0)) /\ Below w.heap.size w w' := by
  have c1 := fun V => hInverse 1 V
  rw [show (rw' 1).v = 1 from by decide +kernel] at c1
  go_enter Tryd.func28, Tryd.ntmps28
  go_wp2_with (go_at_call 26; refine (c1 _).mono ?_; rintro e w1 ⟨rfl, hw⟩; obtain rfl := hw.symm)
  go_ret
  exact ⟨w.heap.size, _, rfl, heap_alloc_new _ _, bnew _ _⟩
theorem dIn_2 (w : World) : Calls Tryd.prog 28 #[.int .i64 2] w fun e w' => ∃ g c, e = .returned (.slice (some ⟨g, 0, none⟩) 1 c) /\ w'.heap[g]? = some (.cells (([2] : List Int).map (Value.int .i64)).toArray 38 (0, 0)) /\ Below w.heap.size w w' := by
  have c1 := fun V => hInverse 2 V
  rw [show (rw' 2).v = 2 from by decide +kernel] at c1
  go_enter Tryd.func28, Tryd.ntmps28
  go_wp2_with (go_at_call 26; refine (c1 _).mono ?_; rintro e w1 ⟨rfl, hw⟩; obtain rfl := hw.symm)
  go_ret
  exact ⟨w.heap.size, _, rfl, heap_alloc_new _ _, bnew _ _⟩
theorem dIn_3 (w : World) : Calls Tryd.prog 28 #[.int .i64 3] w fun e w' => ∃ g c, e = .returned (.slice (some ⟨g, 0, none⟩) 5 c) /\ w'.heap[g]? = some (.cells (([3, 2, 4, 2, 4] : List Int).map (Value.int .i64)).toArray 38 (0, 0)) /\ Below w.heap.size w w' := by
  have c1 := fun V => hInverse 3 V
  rw [show (rw' 3).v = 3 from by decide +kernel] at c1
  go_enter Tryd.func28, Tryd.ntmps28
  go_wp2_with (go_at_call 26; refine (c1 _).mono ?_; rintro e w1 ⟨rfl, hw⟩; obtain rfl := hw.symm)
  go_ret
  exact ⟨w.heap.size, _, rfl, heap_alloc_new _ _, bnew _ _⟩
theorem dIn_4 (w : World) : Calls Tryd.prog 28 #[.int .i64 4] w fun e w' => ∃ g c, e = .returned (.slice (some ⟨g, 0, none⟩) 1 c) /\ w'.heap[g]? = some (.cells (([4] : List Int).map (Value.int .i64)).toArray 38 (0, 0)) /\ Below w.heap.size w w' := by
  have c1 := fun V => hInverse 4 V
  rw [show (rw' 4).v = 4 from by decide +kernel] at c1
  go_enter Tryd.func28, Tryd.ntmps28
  go_wp2_with (go_at_call 26; refine (c1 _).mono ?_; rintro e w1 ⟨rfl, hw⟩; obtain rfl := hw.symm)
  go_ret
  exact ⟨w.heap.size, _, rfl, heap_alloc_new _ _, bnew _ _⟩
theorem dIn_5 (w : World) : Calls Tryd.prog 28 #[.int .i64 5] w fun e w' => ∃ g c, e = .returned (.slice (some ⟨g, 0, none⟩) 1 c) /\ w'.heap[g]? = some (.cells (([6] : List Int).map (Value.int .i64)).toArray 38 (0, 0)) /\ Below w.heap.size w w' := by
  have c1 := fun V => hInverse 5 V
  rw [show (rw' 5).v = 6 from by decide +kernel] at c1
  go_enter Tryd.func28, Tryd.ntmps28
  go_wp2_with (go_at_call 26; refine (c1 _).mono ?_; rintro e w1 ⟨rfl, hw⟩; obtain rfl := hw.symm)
  go_ret
  exact ⟨w.heap.size, _, rfl, heap_alloc_new _ _, bnew _ _⟩
theorem dIn_6 (w : World) : Calls Tryd.prog 28 #[.int .i64 6] w fun e w' => ∃ g c, e = .returned (.slice (some ⟨g, 0, none⟩) 1 c) /\ w'.heap[g]? = some (.cells (([5] : List Int).map (Value.int .i64)).toArray 38 (0, 0)) /\ Below w.heap.size w w' := by
  have c1 := fun V => hInverse 6 V
  rw [show (rw' 6).v = 5 from by decide +kernel] at c1
  go_enter Tryd.func28, Tryd.ntmps28
  go_wp2_with (go_at_call 26; refine (c1 _).mono ?_; rintro e w1 ⟨rfl, hw⟩; obtain rfl := hw.symm)
  go_ret
  exact ⟨w.heap.size, _, rfl, heap_alloc_new _ _, bnew _ _⟩
theorem dIn_7 (w : World) : Calls Tryd.prog 28 #[.int .i64 7] w fun e w' => ∃ g c, e = .returned (.slice (some ⟨g, 0, none⟩) 1 c) /\ w'.heap[g]? = some (.cells (([8] : List Int).map (Value.int .i64)).toArray 38 (0, 0)) /\ Below w.heap.size w w' := by
  have c1 := fun V => hInverse 7 V
  rw [show (rw' 7).v = 8 from by decide +kernel] at c1
  go_enter Tryd.func28, Tryd.ntmps28
  go_wp2_with (go_at_call 26; refine (c1 _).mono ?_; rintro e w1 ⟨rfl, hw⟩; obtain rfl := hw.symm)
  go_ret
  exact ⟨w.heap.size, _, rfl, heap_alloc_new _ _, bnew _ _⟩
theorem dIn_8 (w : World) : Calls Tryd.prog 28 #[.int .i64 8] w fun e w' => ∃ g c, e = .returned (.slice (some ⟨g, 0, none⟩) 1 c) /\ w'.heap[g]? = some (.cells (([7] : List Int).map (Value.int .i64)).toArray 38 (0, 0)) /\ Below w.heap.size w w' := by
  have c1 := fun V => hInverse 8 V
  rw [show (rw' 8).v = 7 from by decide +kernel] at c1
  go_enter Tryd.func28, Tryd.ntmps28
  go_wp2_with (go_at_call 26; refine (c1 _).mono ?_; rintro e w1 ⟨rfl, hw⟩; obtain rfl := hw.symm)
  go_ret
  exact ⟨w.heap.size, _, rfl, heap_alloc_new _ _, bnew _ _⟩
theorem dIn_9 (w : World) : Calls Tryd.prog 28 #[.int .i64 9] w fun e w' => ∃ g c, e = .returned (.slice (some ⟨g, 0, none⟩) 4 c) /\ w'.heap[g]? = some (.cells (([9, 4, 2, 3] : List Int).map (Value.int .i64)).toArray 38 (0, 0)) /\ Below w.heap.size w w' := by
  have c1 := fun V => hInverse 9 V
  rw [show (rw' 9).v = 10 from by decide +kernel] at c1
  go_enter Tryd.func28, Tryd.ntmps28
  go_wp2_with (go_at_call 26; refine (c1 _).mono ?_; rintro e w1 ⟨rfl, hw⟩; obtain rfl := hw.symm)
  go_ret
  exact ⟨w.heap.size, _, rfl, heap_alloc_new _ _, bnew _ _⟩
theorem dIn_10 (w : World) : Calls Tryd.prog 28 #[.int .i64 10] w fun e w' => ∃ g c, e = .returned (.slice (some ⟨g, 0, none⟩) 4 c) /\ w'.heap[g]? = some (.cells (([10, 3, 2, 4] : List Int).map (Value.int .i64)).toArray 38 (0, 0)) /\ Below w.heap.size w w' := by
  have c1 := fun V => hInverse 10 V
  rw [show (rw' 10).v = 9 from by decide +kernel] at c1
  go_enter Tryd.func28, Tryd.ntmps28
  go_wp2_with (go_at_call 26; refine (c1 _).mono ?_; rintro e w1 ⟨rfl, hw⟩; obtain rfl := hw.symm)
  go_ret
  exact ⟨w.heap.size, _, rfl, heap_alloc_new _ _, bnew _ _⟩
theorem dIn_11 (w : World) : Calls Tryd.prog 28 #[.int .i64 11] w fun e w' => ∃ g c, e = .returned (.slice (some ⟨g, 0, none⟩) 1 c) /\ w'.heap[g]? = some (.cells (([11] : List Int).map (Value.int .i64)).toArray 38 (0, 0)) /\ Below w.heap.size w w' := by
  have c1 := fun V => hInverse 11 V
  rw [show (rw' 11).v = 11 from by decide +kernel] at c1
  go_enter Tryd.func28, Tryd.ntmps28
  go_wp2_with (go_at_call 26; refine (c1 _).mono ?_; rintro e w1 ⟨rfl, hw⟩; obtain rfl := hw.symm)
  go_ret
  exact ⟨w.heap.size, _, rfl, heap_alloc_new _ _, bnew _ _⟩
theorem dIn_12 (w : World) : Calls Tryd.prog 28 #[.int .i64 12] w fun e w' => ∃ g c, e = .returned (.slice (some ⟨g, 0, none⟩) 2 c) /\ w'.heap[g]? = some (.cells (([12, 4] : List Int).map (Value.int .i64)).toArray 38 (0, 0)) /\ Below w.heap.size w w' := by
  have c1 := fun V => hInverse 12 V
  rw [show (rw' 12).v = 12 from by decide +kernel] at c1
  go_enter Tryd.func28, Tryd.ntmps28
  go_wp2_with (go_at_call 26; refine (c1 _).mono ?_; rintro e w1 ⟨rfl, hw⟩; obtain rfl := hw.symm)
  go_ret
  exact ⟨w.heap.size, _, rfl, heap_alloc_new _ _, bnew _ _⟩
theorem dIn_13 (w : World) : Calls Tryd.prog 28 #[.int .i64 13] w fun e w' => ∃ g c, e = .returned (.slice (some ⟨g, 0, none⟩) 1 c) /\ w'.heap[g]? = some (.cells (([13] : List Int).map (Value.int .i64)).toArray 38 (0, 0)) /\ Below w.heap.size w w' := by
  have c1 := fun V => hInverse 13 V
  rw [show (rw' 13).v = 13 from by decide +kernel] at c1
  go_enter Tryd.func28, Tryd.ntmps28
  go_wp2_with (go_at_call 26; refine (c1 _).mono ?_; rintro e w1 ⟨rfl, hw⟩; obtain rfl := hw.symm)
  go_ret
  exact ⟨w.heap.size, _, rfl, heap_alloc_new _ _, bnew _ _⟩
theorem dIn_14 (w : World) : Calls Tryd.prog 28 #[.int .i64 14] w fun e w' => ∃ g c, e = .returned (.slice (some ⟨g, 0, none⟩) 1 c) /\ w'.heap[g]? = some (.cells (([14] : List Int).map (Value.int .i64)).toArray 38 (0, 0)) /\ Below w.heap.size w w' := by
  have c1 := fun V => hInverse 14 V
  rw [show (rw' 14).v = 14 from by decide +kernel] at c1
  go_enter Tryd.func28, Tryd.ntmps28
  go_wp2_with (go_at_call 26; refine (c1 _).mono ?_; rintro e w1 ⟨rfl, hw⟩; obtain rfl := hw.symm)
  go_ret
  exact ⟨w.heap.size, _, rfl, heap_alloc_new _ _, bnew _ _⟩
theorem dIn_15 (w : World) : Calls Tryd.prog 28 #[.int .i64 15] w fun e w' => ∃ g c, e = .returned (.slice (some ⟨g, 0, none⟩) 1 c) /\ w'.heap[g]? = some (.cells (([16] : List Int).map (Value.int .i64)).toArray 38 (0, 0)) /\ Below w.heap.size w w' := by
  have c1 := fun V => hInverse 15 V
  rw [show (rw' 15).v = 16 from by decide +kernel] at c1
  go_enter Tryd.func28, Tryd.ntmps28
  go_wp2_with (go_at_call 26; refine (c1 _).mono ?_; rintro e w1 ⟨rfl, hw⟩; obtain rfl := hw.symm)
  go_ret
  exact ⟨w.heap.size, _, rfl, heap_alloc_new _ _, bnew _ _⟩
theorem dIn_16 (w : World) : Calls Tryd.prog 28 #[.int .i64 16] w fun e w' => ∃ g c, e = .returned (.slice (some ⟨g, 0, none⟩) 1 c) /\ w'.heap[g]? = some (.cells (([15] : List Int).map (Value.int .i64)).toArray 38 (0, 0)) /\ Below w.heap.size w w' := by
  have c1 := fun V => hInverse 16 V
  rw [show (rw' 16).v = 15 from by decide +kernel] at c1
  go_enter Tryd.func28, Tryd.ntmps28
  go_wp2_with (go_at_call 26; refine (c1 _).mono ?_; rintro e w1 ⟨rfl, hw⟩; obtain rfl := hw.symm)
  go_ret
  exact ⟨w.heap.size, _, rfl, heap_alloc_new _ _, bnew _ _⟩
theorem dIn_17 (w : World) : Calls Tryd.prog 28 #[.int .i64 17] w fun e w' => ∃ g c, e = .returned (.slice (some ⟨g, 0, none⟩) 1 c) /\ w'.heap[g]? = some (.cells (([17] : List Int).map (Value.int .i64)).toArray 38 (0, 0)) /\ Below w.heap.size w w' := by
  have c1 := fun V => hInverse 17 V
  rw [show (rw' 17).v = 17 from by decide +kernel] at c1
  go_enter Tryd.func28, Tryd.ntmps28
  go_wp2_with (go_at_call 26; refine (c1 _).mono ?_; rintro e w1 ⟨rfl, hw⟩; obtain rfl := hw.symm)
  go_ret
  exact ⟨w.heap.size, _, rfl, heap_alloc_new _ _, bnew _ _⟩
theorem dIn_18 (w : World) : Calls Tryd.prog 28 #[.int .i64 18] w fun e w' => ∃ g c, e = .returned (.slice (some ⟨g, 0, none⟩) 1 c) /\ w'.heap[g]? = some (.cells (([18] : List Int).map (Value.int .i64)).toArray 38 (0, 0)) /\ Below w.heap.size w w' := by
  have c1 := fun V => hInverse 18 V
  rw [show (rw' 18).v = 18 from by decide +kernel] at c1
  go_enter Tryd.func28, Tryd.ntmps28
  go_wp2_with (go_at_call 26; refine (c1 _).mono ?_; rintro e w1 ⟨rfl, hw⟩; obtain rfl := hw.symm)
  go_ret
  exact ⟨w.heap.size, _, rfl, heap_alloc_new _ _, bnew _ _⟩
theorem dIn_19 (w : World) : Calls Tryd.prog 28 #[.int .i64 19] w fun e w' => ∃ g c, e = .returned (.slice (some ⟨g, 0, none⟩) 1 c) /\ w'.heap[g]? = some (.cells (([19] : List Int).map (Value.int .i64)).toArray 38 (0, 0)) /\ Below w.heap.size w w' := by
  have c1 := fun V => hInverse 19 V
  rw [show (rw' 19).v = 19 from by decide +kernel] at c1
  go_enter Tryd.func28, Tryd.ntmps28
  go_wp2_with (go_at_call 26; refine (c1 _).mono ?_; rintro e w1 ⟨rfl, hw⟩; obtain rfl := hw.symm)
  go_ret
  exact ⟨w.heap.size, _, rfl, heap_alloc_new _ _, bnew _ _⟩
theorem dIn_20 (w : World) : Calls Tryd.prog 28 #[.int .i64 20] w fun e w' => ∃ g c, e = .returned (.slice (some ⟨g, 0, none⟩) 1 c) /\ w'.heap[g]? = some (.cells (([20] : List Int).map (Value.int .i64)).toArray 38 (0, 0)) /\ Below w.heap.size w w' := by
  have c1 := fun V => hInverse 20 V
  rw [show (rw' 20).v = 20 from by decide +kernel] at c1
  go_enter Tryd.func28, Tryd.ntmps28
  go_wp2_with (go_at_call 26; refine (c1 _).mono ?_; rintro e w1 ⟨rfl, hw⟩; obtain rfl := hw.symm)
  go_ret
  exact ⟨w.heap.size, _, rfl, heap_alloc_new _ _, bnew _ _⟩
theorem dIn (k : Int) (h : 1 <= k /\ k <= 20) (w : World) : Calls Tryd.prog 28 #[.int .i64 k] w fun e w' => ∃ g c, e = .returned (.slice (some ⟨g, 0, none⟩) (cjK k).length c) /\ w'.heap[g]? = some (.cells ((cjK k).map (Value.int .i64)).toArray 38 (0, 0)) /\ Below w.heap.size w w' := by
  rcases k_twenty h with rfl | rfl | rfl | rfl | rfl | rfl | rfl | rfl | rfl | rfl | rfl | rfl | rfl | rfl | rfl | rfl | rfl | rfl | rfl | rfl
  . rw [show cjK 1 = [1] from by decide +kernel]
    exact dIn_1 w
  . rw [show cjK 2 = [2] from by decide +kernel]
    exact dIn_2 w
  . rw [show cjK 3 = [3, 2, 4, 2, 4] from by decide +kernel]
    exact dIn_3 w
  . rw [show cjK 4 = [4] from by decide +kernel]
    exact dIn_4 w
  . rw [show cjK 5 = [6] from by decide +kernel]
    exact dIn_5 w
  . rw [show cjK 6 = [5] from by decide +kernel]
    exact dIn_6 w
  . rw [show cjK 7 = [8] from by decide +kernel]
    exact dIn_7 w
  . rw [show cjK 8 = [7] from by decide +kernel]
    exact dIn_8 w
  . rw [show cjK 9 = [9, 4, 2, 3] from by decide +kernel]
    exact dIn_9 w
  . rw [show cjK 10 = [10, 3, 2, 4] from by decide +kernel]
    exact dIn_10 w
  . rw [show cjK 11 = [11] from by decide +kernel]
    exact dIn_11 w
  . rw [show cjK 12 = [12, 4] from by decide +kernel]
    exact dIn_12 w
  . rw [show cjK 13 = [13] from by decide +kernel]
    exact dIn_13 w
  . rw [show cjK 14 = [14] from by decide +kernel]
    exact dIn_14 w
  . rw [show cjK 15 = [16] from by decide +kernel]
    exact dIn_15 w
  . rw [show cjK 16 = [15] from by decide +kernel]
    exact dIn_16 w
  . rw [show cjK 17 = [17] from by decide +kernel]
    exact dIn_17 w
  . rw [show cjK 18 = [18] from by decide +kernel]
    exact dIn_18 w
  . rw [show cjK 19 = [19] from by decide +kernel]
    exact dIn_19 w
  . rw [show cjK 20 = [20] from by decide +kernel]
    exact dIn_20 w
end Go.Proofs.YtmkalhaegbnknaaDoor.Cir
