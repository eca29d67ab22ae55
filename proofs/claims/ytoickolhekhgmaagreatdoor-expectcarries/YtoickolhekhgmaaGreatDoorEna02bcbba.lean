import Derived.Test.YtoickolhekhgmaaGreatDoorEnaf2d0eb3
namespace Go.Proofs.YtoickolhekhgmaaGreatDoor.Gt
end Go.Proofs.YtoickolhekhgmaaGreatDoor.Gt
namespace Go.Proofs.YtoickolhekhgmaaGreatDoor.Oct
end Go.Proofs.YtoickolhekhgmaaGreatDoor.Oct
set_option maxRecDepth 100000
set_option maxHeartbeats 4000000
namespace Go.Proofs.YtoickolhekhgmaaGreatDoor.Pau
open Go.RowKit Go.Shelf Go.Proofs.YtoickolhekhgmaaGreatDoor.Oct Go.Proofs.YtoickolhekhgmaaGreatDoor.Gt
theorem dImages_ok (k : Nat) (h1 : 1 <= k) (h2 : k < 18) (w : World) : Calls Tryz.prog 43 #[.int .i64 (k : Int)] w fun e w' => ∃ g, e = .returned (.slice (some ⟨g, 0, none⟩) (2 * ar k) (2 * ar k)) /\ (∀ j, j < 2 * ar k -> w'.cell? ⟨g, j, none⟩ = some (.string ⟨(im k (j / 2) (2 * (j % 2))).toArray⟩)) /\ Below w.heap.size w w' := by
  have hk : k = 1 ∨ k = 2 ∨ k = 3 ∨ k = 4 ∨ k = 5 ∨ k = 6 ∨ k = 7 ∨ k = 8 ∨ k = 9 ∨ k = 10 ∨ k = 11 ∨ k = 12 ∨ k = 13 ∨ k = 14 ∨ k = 15 ∨ k = 16 ∨ k = 17 := by omega
  rcases hk with rfl | rfl | rfl | rfl | rfl | rfl | rfl | rfl | rfl | rfl | rfl | rfl | rfl | rfl | rfl | rfl | rfl
  . go_enter Tryz.func43, Tryz.ntmps43
    go_wp2_with fail
    go_ret
    refine ⟨w.heap.size, rfl, fun j hj => ?_, bnew _ _⟩
    rw [cell_of_row _ _ j _ _ _ (heap_alloc_new _ _)]
    have h4 : j = 0 ∨ j = 1 := by
      have : ar 1 = 1 := rfl
      omega
    rcases h4 with rfl | rfl <;> rfl
  . go_enter Tryz.func43, Tryz.ntmps43
    go_wp2_with fail
    go_ret
    refine ⟨w.heap.size, rfl, fun j hj => ?_, bnew _ _⟩
    rw [cell_of_row _ _ j _ _ _ (heap_alloc_new _ _)]
    have h4 : j = 0 ∨ j = 1 := by
      have : ar 2 = 1 := rfl
      omega
    rcases h4 with rfl | rfl <;> rfl
  . go_enter Tryz.func43, Tryz.ntmps43
    go_wp2_with fail
    go_ret
    refine ⟨w.heap.size, rfl, fun j hj => ?_, bnew _ _⟩
    rw [cell_of_row _ _ j _ _ _ (heap_alloc_new _ _)]
    have h4 : j = 0 ∨ j = 1 := by
      have : ar 3 = 1 := rfl
      omega
    rcases h4 with rfl | rfl <;> rfl
  . go_enter Tryz.func43, Tryz.ntmps43
    go_wp2_with fail
    go_ret
    refine ⟨w.heap.size, rfl, fun j hj => ?_, bnew _ _⟩
    rw [cell_of_row _ _ j _ _ _ (heap_alloc_new _ _)]
    have h4 : j = 0 ∨ j = 1 := by
      have : ar 4 = 1 := rfl
      omega
    rcases h4 with rfl | rfl <;> rfl
  . go_enter Tryz.func43, Tryz.ntmps43
    go_wp2_with fail
    go_ret
    refine ⟨w.heap.size, rfl, fun j hj => ?_, bnew _ _⟩
    rw [cell_of_row _ _ j _ _ _ (heap_alloc_new _ _)]
    have h4 : j = 0 ∨ j = 1 := by
      have : ar 5 = 1 := rfl
      omega
    rcases h4 with rfl | rfl <;> rfl
  . go_enter Tryz.func43, Tryz.ntmps43
    go_wp2_with fail
    go_ret
    refine ⟨w.heap.size, rfl, fun j hj => ?_, bnew _ _⟩
    rw [cell_of_row _ _ j _ _ _ (heap_alloc_new _ _)]
    have h4 : j = 0 ∨ j = 1 := by
      have : ar 6 = 1 := rfl
      omega
    rcases h4 with rfl | rfl <;> rfl
  . go_enter Tryz.func43, Tryz.ntmps43
    go_wp2_with fail
    go_ret
    refine ⟨w.heap.size, rfl, fun j hj => ?_, bnew _ _⟩
    rw [cell_of_row _ _ j _ _ _ (heap_alloc_new _ _)]
    have h4 : j = 0 ∨ j = 1 := by
      have : ar 7 = 1 := rfl
      omega
    rcases h4 with rfl | rfl <;> rfl
  . go_enter Tryz.func43, Tryz.ntmps43
    go_wp2_with fail
    go_ret
    refine ⟨w.heap.size, rfl, fun j hj => ?_, bnew _ _⟩
    rw [cell_of_row _ _ j _ _ _ (heap_alloc_new _ _)]
    have h4 : j = 0 ∨ j = 1 := by
      have : ar 8 = 1 := rfl
      omega
    rcases h4 with rfl | rfl <;> rfl
  . go_enter Tryz.func43, Tryz.ntmps43
    go_wp2_with fail
    go_ret
    refine ⟨w.heap.size, rfl, fun j hj => ?_, bnew _ _⟩
    rw [cell_of_row _ _ j _ _ _ (heap_alloc_new _ _)]
    have h4 : j = 0 ∨ j = 1 := by
      have : ar 9 = 1 := rfl
      omega
    rcases h4 with rfl | rfl <;> rfl
  . go_enter Tryz.func43, Tryz.ntmps43
    go_wp2_with fail
    go_ret
    refine ⟨w.heap.size, rfl, fun j hj => ?_, bnew _ _⟩
    rw [cell_of_row _ _ j _ _ _ (heap_alloc_new _ _)]
    have h4 : j = 0 ∨ j = 1 := by
      have : ar 10 = 1 := rfl
      omega
    rcases h4 with rfl | rfl <;> rfl
  . go_enter Tryz.func43, Tryz.ntmps43
    go_wp2_with fail
    go_ret
    refine ⟨w.heap.size, rfl, fun j hj => ?_, bnew _ _⟩
    rw [cell_of_row _ _ j _ _ _ (heap_alloc_new _ _)]
    have h4 : j = 0 ∨ j = 1 ∨ j = 2 ∨ j = 3 := by
      have : ar 11 = 2 := rfl
      omega
    rcases h4 with rfl | rfl | rfl | rfl <;> rfl
  . go_enter Tryz.func43, Tryz.ntmps43
    go_wp2_with fail
    go_ret
    refine ⟨w.heap.size, rfl, fun j hj => ?_, bnew _ _⟩
    rw [cell_of_row _ _ j _ _ _ (heap_alloc_new _ _)]
    have h4 : j = 0 ∨ j = 1 ∨ j = 2 ∨ j = 3 := by
      have : ar 12 = 2 := rfl
      omega
    rcases h4 with rfl | rfl | rfl | rfl <;> rfl
  . go_enter Tryz.func43, Tryz.ntmps43
    go_wp2_with fail
    go_ret
    refine ⟨w.heap.size, rfl, fun j hj => ?_, bnew _ _⟩
    rw [cell_of_row _ _ j _ _ _ (heap_alloc_new _ _)]
    have h4 : j = 0 ∨ j = 1 ∨ j = 2 ∨ j = 3 := by
      have : ar 13 = 2 := rfl
      omega
    rcases h4 with rfl | rfl | rfl | rfl <;> rfl
  . go_enter Tryz.func43, Tryz.ntmps43
    go_wp2_with fail
    go_ret
    refine ⟨w.heap.size, rfl, fun j hj => ?_, bnew _ _⟩
    rw [cell_of_row _ _ j _ _ _ (heap_alloc_new _ _)]
    have h4 : j = 0 ∨ j = 1 ∨ j = 2 ∨ j = 3 := by
      have : ar 14 = 2 := rfl
      omega
    rcases h4 with rfl | rfl | rfl | rfl <;> rfl
  . go_enter Tryz.func43, Tryz.ntmps43
    go_wp2_with fail
    go_ret
    refine ⟨w.heap.size, rfl, fun j hj => ?_, bnew _ _⟩
    rw [cell_of_row _ _ j _ _ _ (heap_alloc_new _ _)]
    have h4 : j = 0 ∨ j = 1 ∨ j = 2 ∨ j = 3 := by
      have : ar 15 = 2 := rfl
      omega
    rcases h4 with rfl | rfl | rfl | rfl <;> rfl
  . go_enter Tryz.func43, Tryz.ntmps43
    go_wp2_with fail
    go_ret
    refine ⟨w.heap.size, rfl, fun j hj => ?_, bnew _ _⟩
    rw [cell_of_row _ _ j _ _ _ (heap_alloc_new _ _)]
    have h4 : j = 0 ∨ j = 1 ∨ j = 2 ∨ j = 3 := by
      have : ar 16 = 2 := rfl
      omega
    rcases h4 with rfl | rfl | rfl | rfl <;> rfl
  . go_enter Tryz.func43, Tryz.ntmps43
    go_wp2_with fail
    go_ret
    refine ⟨w.heap.size, rfl, fun j hj => ?_, bnew _ _⟩
    rw [cell_of_row _ _ j _ _ _ (heap_alloc_new _ _)]
    have h4 : j = 0 ∨ j = 1 ∨ j = 2 ∨ j = 3 := by
      have : ar 17 = 2 := rfl
      omega
    rcases h4 with rfl | rfl | rfl | rfl <;> rfl
theorem dImages_no (k : Int) (h : ¬ (1 <= k /\ k < 18)) (w : World) : Calls Tryz.prog 43 #[.int .i64 k] w fun e w' => e = .returned (.slice none 0 0) /\ w' = w := by
  have k1 : (k == 1) = false := beq_eq_false_iff_ne.2 (by omega)
  have k2 : (k == 2) = false := beq_eq_false_iff_ne.2 (by omega)
  have k3 : (k == 3) = false := beq_eq_false_iff_ne.2 (by omega)
  have k4 : (k == 4) = false := beq_eq_false_iff_ne.2 (by omega)
  have k5 : (k == 5) = false := beq_eq_false_iff_ne.2 (by omega)
  have k6 : (k == 6) = false := beq_eq_false_iff_ne.2 (by omega)
  have k7 : (k == 7) = false := beq_eq_false_iff_ne.2 (by omega)
  have k8 : (k == 8) = false := beq_eq_false_iff_ne.2 (by omega)
  have k9 : (k == 9) = false := beq_eq_false_iff_ne.2 (by omega)
  have k10 : (k == 10) = false := beq_eq_false_iff_ne.2 (by omega)
  have k11 : (k == 11) = false := beq_eq_false_iff_ne.2 (by omega)
  have k12 : (k == 12) = false := beq_eq_false_iff_ne.2 (by omega)
  have k13 : (k == 13) = false := beq_eq_false_iff_ne.2 (by omega)
  have k14 : (k == 14) = false := beq_eq_false_iff_ne.2 (by omega)
  have k15 : (k == 15) = false := beq_eq_false_iff_ne.2 (by omega)
  have k16 : (k == 16) = false := beq_eq_false_iff_ne.2 (by omega)
  have k17 : (k == 17) = false := beq_eq_false_iff_ne.2 (by omega)
  clear h
  go_enter Tryz.func43, Tryz.ntmps43
  go_wp2_with fail
  go_ret
  exact ⟨rfl, rfl⟩
end Go.Proofs.YtoickolhekhgmaaGreatDoor.Pau
