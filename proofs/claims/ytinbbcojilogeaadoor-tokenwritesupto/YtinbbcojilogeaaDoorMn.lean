/- The document's Write, as it is walked: one theorem a kind. -/
import Derived.Test.YtinbbcojilogeaaDoorMi
import Derived.Test.YtinbbcojilogeaaDoorKk
namespace Go.Proofs.YtinbbcojilogeaaDoor.Tok
open Go.RowKit Go.Shelf Go.Proofs.YtinbbcojilogeaaDoor.Oct

set_option maxRecDepth 100000 in
set_option maxHeartbeats 2000000 in
theorem dw_1 (C : Cut) (nm o1 o2 o3 : Int) (w : World) (s : ByteArray) (L : Nat) (hs : s.size = L) (c : ∀ w, Calls Tryd.prog 32 #[.string s, .int .i64 0] w fun e w' => (∃ x, e = .returned (oneV C 0 x)) ∧ Below w.heap.size w w') (R : Option (List UInt8))
    (HT : ∀ k tl v n, C = .tok k tl v n → Hid (((n : Int) = (L : Int) → (k : Int) = 1 → (⟨tl.toArray⟩ : ByteArray).toList = s.toList → (v : Int) = nm → wrV R = .tuple #[.string s, .int .i64 0]) ∧ (¬ ((n : Int) = (L : Int) ∧ (k : Int) = 1 ∧ (⟨tl.toArray⟩ : ByteArray).toList = s.toList ∧ (v : Int) = nm) → wrV R = .tuple #[.string ⟨#[]⟩, .int .i64 2])))
    (HB : ∀ er, C = .bad er → er ≠ 0 ∧ Hid (wrV R = .tuple #[.string ⟨#[]⟩, .int .i64 2])) :
    Calls Tryd.prog 18 #[.agg #[.int .i64 1, .string s, .int .i64 nm, .int .i64 o1, .int .i64 o2, .int .i64 o3]] w fun e w' => e = .returned (wrV R) ∧ Below w.heap.size w w' := by
  have hu : s.size = L := hs
  clear hu
  go_enter Tryd.func18, Tryd.ntmps18
  go_wp2_with fail
  refine (c _).mono ?_
  rintro e w1 ⟨⟨x, rfl⟩, hb1⟩
  have hg1 := (hb1.block w.heap.size (by simp)).trans (heap_alloc_new _ _)
  have hbw : Below w.heap.size w w1 := (below_new _ _).trans (hb1.mono (by simp))
  have g0 : ∀ o, (w1.alloc o).cell? ⟨w.heap.size, 0, none⟩ = some (.int .i64 1) := fun o => cell_of_row _ _ 0 _ _ _ ((Below.heap_alloc _ _ _ (Array.getElem?_eq_some_iff.1 hg1).1).trans hg1)
  have g1 : ∀ o, (w1.alloc o).cell? ⟨w.heap.size, 1, none⟩ = some (.string s) := fun o => cell_of_row _ _ 1 _ _ _ ((Below.heap_alloc _ _ _ (Array.getElem?_eq_some_iff.1 hg1).1).trans hg1)
  have g2 : ∀ o, (w1.alloc o).cell? ⟨w.heap.size, 2, none⟩ = some (.int .i64 nm) := fun o => cell_of_row _ _ 2 _ _ _ ((Below.heap_alloc _ _ _ (Array.getElem?_eq_some_iff.1 hg1).1).trans hg1)
  clear hg1 c hb1
  cases C with
  | bad er =>
    obtain ⟨her, HR⟩ := HB er rfl
    have her1 : ((er : Int) == 0) = false := by rw [beq_eq_false_iff_ne]; omega
    have her2 : ((er : Int) != 0) = true := by rw [bne, her1]; rfl
    simp only [oneV, tokV]
    clear HT HB
    go_wp2_with fail
    go_ret2
    exact ⟨by rw [HR.out]; rfl, hbw.alloc hbw.size _⟩
  | tok k tl v n =>
    have HR := HT k tl v n rfl
    simp only [oneV, tokV, Nat.zero_add]
    clear HT HB
    generalize (⟨tl.toArray⟩ : ByteArray) = t at *
    go_wp2_with fail
    all_goals go_ret2
    all_goals refine ⟨?_, hbw.alloc hbw.size _⟩
    all_goals first
      | (rw [HR.out.1 (by assumption) (by assumption) (by assumption) (by simp_all)]; rfl)
      | (rw [HR.out.2 (by rintro ⟨a1, a2, a3, a4⟩; simp_all)]; rfl)
set_option maxRecDepth 100000 in
set_option maxHeartbeats 2000000 in
theorem dw_3 (C : Cut) (nm o1 o2 o3 : Int) (w : World) (s : ByteArray) (L : Nat) (hs : s.size = L) (c : ∀ w, Calls Tryd.prog 32 #[.string s, .int .i64 0] w fun e w' => (∃ x, e = .returned (oneV C 0 x)) ∧ Below w.heap.size w w') (R : Option (List UInt8))
    (HT : ∀ k tl v n, C = .tok k tl v n → Hid (((n : Int) = (L : Int) → (k : Int) = 3 → (⟨tl.toArray⟩ : ByteArray).toList = s.toList → (v : Int) = nm → wrV R = .tuple #[.string s, .int .i64 0]) ∧ (¬ ((n : Int) = (L : Int) ∧ (k : Int) = 3 ∧ (⟨tl.toArray⟩ : ByteArray).toList = s.toList ∧ (v : Int) = nm) → wrV R = .tuple #[.string ⟨#[]⟩, .int .i64 2])))
    (HB : ∀ er, C = .bad er → er ≠ 0 ∧ Hid (wrV R = .tuple #[.string ⟨#[]⟩, .int .i64 2])) :
    Calls Tryd.prog 18 #[.agg #[.int .i64 3, .string s, .int .i64 nm, .int .i64 o1, .int .i64 o2, .int .i64 o3]] w fun e w' => e = .returned (wrV R) ∧ Below w.heap.size w w' := by
  have hu : s.size = L := hs
  clear hu
  go_enter Tryd.func18, Tryd.ntmps18
  go_wp2_with fail
  refine (c _).mono ?_
  rintro e w1 ⟨⟨x, rfl⟩, hb1⟩
  have hg1 := (hb1.block w.heap.size (by simp)).trans (heap_alloc_new _ _)
  have hbw : Below w.heap.size w w1 := (below_new _ _).trans (hb1.mono (by simp))
  have g0 : ∀ o, (w1.alloc o).cell? ⟨w.heap.size, 0, none⟩ = some (.int .i64 3) := fun o => cell_of_row _ _ 0 _ _ _ ((Below.heap_alloc _ _ _ (Array.getElem?_eq_some_iff.1 hg1).1).trans hg1)
  have g1 : ∀ o, (w1.alloc o).cell? ⟨w.heap.size, 1, none⟩ = some (.string s) := fun o => cell_of_row _ _ 1 _ _ _ ((Below.heap_alloc _ _ _ (Array.getElem?_eq_some_iff.1 hg1).1).trans hg1)
  have g2 : ∀ o, (w1.alloc o).cell? ⟨w.heap.size, 2, none⟩ = some (.int .i64 nm) := fun o => cell_of_row _ _ 2 _ _ _ ((Below.heap_alloc _ _ _ (Array.getElem?_eq_some_iff.1 hg1).1).trans hg1)
  clear hg1 c hb1
  cases C with
  | bad er =>
    obtain ⟨her, HR⟩ := HB er rfl
    have her1 : ((er : Int) == 0) = false := by rw [beq_eq_false_iff_ne]; omega
    have her2 : ((er : Int) != 0) = true := by rw [bne, her1]; rfl
    simp only [oneV, tokV]
    clear HT HB
    go_wp2_with fail
    go_ret2
    exact ⟨by rw [HR.out]; rfl, hbw.alloc hbw.size _⟩
  | tok k tl v n =>
    have HR := HT k tl v n rfl
    simp only [oneV, tokV, Nat.zero_add]
    clear HT HB
    generalize (⟨tl.toArray⟩ : ByteArray) = t at *
    go_wp2_with fail
    all_goals go_ret2
    all_goals refine ⟨?_, hbw.alloc hbw.size _⟩
    all_goals first
      | (rw [HR.out.1 (by assumption) (by assumption) (by assumption) (by simp_all)]; rfl)
      | (rw [HR.out.2 (by rintro ⟨a1, a2, a3, a4⟩; simp_all)]; rfl)
set_option maxRecDepth 100000 in
set_option maxHeartbeats 2000000 in
theorem dw_5 (C : Cut) (nm o1 o2 o3 : Int) (w : World) (s : ByteArray) (L : Nat) (hs : s.size = L) (c : ∀ w, Calls Tryd.prog 32 #[.string s, .int .i64 0] w fun e w' => (∃ x, e = .returned (oneV C 0 x)) ∧ Below w.heap.size w w') (R : Option (List UInt8))
    (HT : ∀ k tl v n, C = .tok k tl v n → Hid (((n : Int) = (L : Int) → (k : Int) = 5 → (⟨tl.toArray⟩ : ByteArray).toList = s.toList → (v : Int) = nm → wrV R = .tuple #[.string s, .int .i64 0]) ∧ (¬ ((n : Int) = (L : Int) ∧ (k : Int) = 5 ∧ (⟨tl.toArray⟩ : ByteArray).toList = s.toList ∧ (v : Int) = nm) → wrV R = .tuple #[.string ⟨#[]⟩, .int .i64 2])))
    (HB : ∀ er, C = .bad er → er ≠ 0 ∧ Hid (wrV R = .tuple #[.string ⟨#[]⟩, .int .i64 2])) :
    Calls Tryd.prog 18 #[.agg #[.int .i64 5, .string s, .int .i64 nm, .int .i64 o1, .int .i64 o2, .int .i64 o3]] w fun e w' => e = .returned (wrV R) ∧ Below w.heap.size w w' := by
  have hu : s.size = L := hs
  clear hu
  go_enter Tryd.func18, Tryd.ntmps18
  go_wp2_with fail
  refine (c _).mono ?_
  rintro e w1 ⟨⟨x, rfl⟩, hb1⟩
  have hg1 := (hb1.block w.heap.size (by simp)).trans (heap_alloc_new _ _)
  have hbw : Below w.heap.size w w1 := (below_new _ _).trans (hb1.mono (by simp))
  have g0 : ∀ o, (w1.alloc o).cell? ⟨w.heap.size, 0, none⟩ = some (.int .i64 5) := fun o => cell_of_row _ _ 0 _ _ _ ((Below.heap_alloc _ _ _ (Array.getElem?_eq_some_iff.1 hg1).1).trans hg1)
  have g1 : ∀ o, (w1.alloc o).cell? ⟨w.heap.size, 1, none⟩ = some (.string s) := fun o => cell_of_row _ _ 1 _ _ _ ((Below.heap_alloc _ _ _ (Array.getElem?_eq_some_iff.1 hg1).1).trans hg1)
  have g2 : ∀ o, (w1.alloc o).cell? ⟨w.heap.size, 2, none⟩ = some (.int .i64 nm) := fun o => cell_of_row _ _ 2 _ _ _ ((Below.heap_alloc _ _ _ (Array.getElem?_eq_some_iff.1 hg1).1).trans hg1)
  clear hg1 c hb1
  cases C with
  | bad er =>
    obtain ⟨her, HR⟩ := HB er rfl
    have her1 : ((er : Int) == 0) = false := by rw [beq_eq_false_iff_ne]; omega
    have her2 : ((er : Int) != 0) = true := by rw [bne, her1]; rfl
    simp only [oneV, tokV]
    clear HT HB
    go_wp2_with fail
    go_ret2
    exact ⟨by rw [HR.out]; rfl, hbw.alloc hbw.size _⟩
  | tok k tl v n =>
    have HR := HT k tl v n rfl
    simp only [oneV, tokV, Nat.zero_add]
    clear HT HB
    generalize (⟨tl.toArray⟩ : ByteArray) = t at *
    go_wp2_with fail
    all_goals go_ret2
    all_goals refine ⟨?_, hbw.alloc hbw.size _⟩
    all_goals first
      | (rw [HR.out.1 (by assumption) (by assumption) (by assumption) (by simp_all)]; rfl)
      | (rw [HR.out.2 (by rintro ⟨a1, a2, a3, a4⟩; simp_all)]; rfl)
set_option maxRecDepth 100000 in
set_option maxHeartbeats 2000000 in
theorem dw_4 (C : Cut) (nm o1 o2 o3 : Int) (w : World) (st s1 s : ByteArray) (M : Nat) (hM : M ≤ 140737488355300) (hst : st.size = M) (hs1 : s1.size = 1 + M) (e1 : (⟨#[34]⟩ : ByteArray) ++ st = s1) (e2 : s1 ++ (⟨#[34]⟩ : ByteArray) = s) (L : Nat) (hs : s.size = L) (c : ∀ w, Calls Tryd.prog 32 #[.string s, .int .i64 0] w fun e w' => (∃ x, e = .returned (oneV C 0 x)) ∧ Below w.heap.size w w') (R : Option (List UInt8))
    (HT : ∀ k tl v n, C = .tok k tl v n → Hid (((n : Int) = (L : Int) → (k : Int) = 4 → (⟨tl.toArray⟩ : ByteArray).toList = st.toList → (v : Int) = nm → wrV R = .tuple #[.string s, .int .i64 0]) ∧ (¬ ((n : Int) = (L : Int) ∧ (k : Int) = 4 ∧ (⟨tl.toArray⟩ : ByteArray).toList = st.toList ∧ (v : Int) = nm) → wrV R = .tuple #[.string ⟨#[]⟩, .int .i64 2])))
    (HB : ∀ er, C = .bad er → er ≠ 0 ∧ Hid (wrV R = .tuple #[.string ⟨#[]⟩, .int .i64 2])) :
    Calls Tryd.prog 18 #[.agg #[.int .i64 4, .string st, .int .i64 nm, .int .i64 o1, .int .i64 o2, .int .i64 o3]] w fun e w' => e = .returned (wrV R) ∧ Below w.heap.size w w' := by
  have hu : s.size = L := hs
  clear hu
  go_enter Tryd.func18, Tryd.ntmps18
  go_wp2_with fail
  refine (c _).mono ?_
  rintro e w1 ⟨⟨x, rfl⟩, hb1⟩
  have hg1 := (hb1.block w.heap.size (by simp)).trans (heap_alloc_new _ _)
  have hbw : Below w.heap.size w w1 := (below_new _ _).trans (hb1.mono (by simp))
  have g0 : ∀ o, (w1.alloc o).cell? ⟨w.heap.size, 0, none⟩ = some (.int .i64 4) := fun o => cell_of_row _ _ 0 _ _ _ ((Below.heap_alloc _ _ _ (Array.getElem?_eq_some_iff.1 hg1).1).trans hg1)
  have g1 : ∀ o, (w1.alloc o).cell? ⟨w.heap.size, 1, none⟩ = some (.string st) := fun o => cell_of_row _ _ 1 _ _ _ ((Below.heap_alloc _ _ _ (Array.getElem?_eq_some_iff.1 hg1).1).trans hg1)
  have g2 : ∀ o, (w1.alloc o).cell? ⟨w.heap.size, 2, none⟩ = some (.int .i64 nm) := fun o => cell_of_row _ _ 2 _ _ _ ((Below.heap_alloc _ _ _ (Array.getElem?_eq_some_iff.1 hg1).1).trans hg1)
  clear hg1 c hb1
  cases C with
  | bad er =>
    obtain ⟨her, HR⟩ := HB er rfl
    have her1 : ((er : Int) == 0) = false := by rw [beq_eq_false_iff_ne]; omega
    have her2 : ((er : Int) != 0) = true := by rw [bne, her1]; rfl
    simp only [oneV, tokV]
    clear HT HB
    go_wp2_with fail
    go_ret2
    exact ⟨by rw [HR.out]; rfl, hbw.alloc hbw.size _⟩
  | tok k tl v n =>
    have HR := HT k tl v n rfl
    simp only [oneV, tokV, Nat.zero_add]
    clear HT HB
    generalize (⟨tl.toArray⟩ : ByteArray) = t at *
    go_wp2_with fail
    all_goals go_ret2
    all_goals refine ⟨?_, hbw.alloc hbw.size _⟩
    all_goals first
      | (rw [HR.out.1 (by assumption) (by assumption) (by assumption) (by simp_all)]; rfl)
      | (rw [HR.out.2 (by rintro ⟨a1, a2, a3, a4⟩; simp_all)]; rfl)
set_option maxRecDepth 100000 in
set_option maxHeartbeats 2000000 in
theorem dw_2 (C : Cut) (nm o1 o2 o3 : Int) (w : World) (st s : ByteArray) (cI : ∀ o, Calls Tryd.prog 34 #[.int .i64 nm] (w.alloc o) fun e w' => e = .returned (.string s) ∧ Below (w.alloc o).heap.size (w.alloc o) w') (L : Nat) (hs : s.size = L) (c : ∀ w, Calls Tryd.prog 32 #[.string s, .int .i64 0] w fun e w' => (∃ x, e = .returned (oneV C 0 x)) ∧ Below w.heap.size w w') (R : Option (List UInt8))
    (HT : ∀ k tl v n, C = .tok k tl v n → Hid (((n : Int) = (L : Int) → (k : Int) = 2 → (⟨tl.toArray⟩ : ByteArray).toList = st.toList → (v : Int) = nm → wrV R = .tuple #[.string s, .int .i64 0]) ∧ (¬ ((n : Int) = (L : Int) ∧ (k : Int) = 2 ∧ (⟨tl.toArray⟩ : ByteArray).toList = st.toList ∧ (v : Int) = nm) → wrV R = .tuple #[.string ⟨#[]⟩, .int .i64 2])))
    (HB : ∀ er, C = .bad er → er ≠ 0 ∧ Hid (wrV R = .tuple #[.string ⟨#[]⟩, .int .i64 2])) :
    Calls Tryd.prog 18 #[.agg #[.int .i64 2, .string st, .int .i64 nm, .int .i64 o1, .int .i64 o2, .int .i64 o3]] w fun e w' => e = .returned (wrV R) ∧ Below w.heap.size w w' := by
  have hu : s.size = L := hs
  clear hu
  go_enter Tryd.func18, Tryd.ntmps18
  go_wp2_with fail
  refine (cI _).mono ?_
  rintro e w0 ⟨rfl, hb0⟩
  have hg0 := (hb0.block w.heap.size (by simp)).trans (heap_alloc_new _ _)
  have hbw0 : Below w.heap.size w w0 := (below_new _ _).trans (hb0.mono (by simp))
  have z2 : w0.cell? ⟨w.heap.size, 2, none⟩ = some (.int .i64 nm) := cell_of_row _ _ 2 _ _ _ hg0
  have hlt0 := (Array.getElem?_eq_some_iff.1 hg0).1
  clear cI hb0
  go_wp2_with fail
  refine (c _).mono ?_
  rintro e w1 ⟨⟨x, rfl⟩, hb1⟩
  have hg1 := (hb1.block w.heap.size hlt0).trans hg0
  have hbw : Below w.heap.size w w1 := hbw0.trans (hb1.mono hbw0.size)
  have g0 : ∀ o, (w1.alloc o).cell? ⟨w.heap.size, 0, none⟩ = some (.int .i64 2) := fun o => cell_of_row _ _ 0 _ _ _ ((Below.heap_alloc _ _ _ (Array.getElem?_eq_some_iff.1 hg1).1).trans hg1)
  have g1 : ∀ o, (w1.alloc o).cell? ⟨w.heap.size, 1, none⟩ = some (.string st) := fun o => cell_of_row _ _ 1 _ _ _ ((Below.heap_alloc _ _ _ (Array.getElem?_eq_some_iff.1 hg1).1).trans hg1)
  have g2 : ∀ o, (w1.alloc o).cell? ⟨w.heap.size, 2, none⟩ = some (.int .i64 nm) := fun o => cell_of_row _ _ 2 _ _ _ ((Below.heap_alloc _ _ _ (Array.getElem?_eq_some_iff.1 hg1).1).trans hg1)
  clear hg1 c hb1
  cases C with
  | bad er =>
    obtain ⟨her, HR⟩ := HB er rfl
    have her1 : ((er : Int) == 0) = false := by rw [beq_eq_false_iff_ne]; omega
    have her2 : ((er : Int) != 0) = true := by rw [bne, her1]; rfl
    simp only [oneV, tokV]
    clear HT HB
    go_wp2_with fail
    go_ret2
    exact ⟨by rw [HR.out]; rfl, hbw.alloc hbw.size _⟩
  | tok k tl v n =>
    have HR := HT k tl v n rfl
    simp only [oneV, tokV, Nat.zero_add]
    clear HT HB
    generalize (⟨tl.toArray⟩ : ByteArray) = t at *
    go_wp2_with fail
    all_goals go_ret2
    all_goals refine ⟨?_, hbw.alloc hbw.size _⟩
    all_goals first
      | (rw [HR.out.1 (by assumption) (by assumption) (by assumption) (by simp_all)]; rfl)
      | (rw [HR.out.2 (by rintro ⟨a1, a2, a3, a4⟩; simp_all)]; rfl)
end Go.Proofs.YtinbbcojilogeaaDoor.Tok
