/- The document's Write, the kinds picked. -/
import Derived.Test.YtinbbcojilogeaaDoorMn
import Derived.Test.YtinbbcojilogeaaDoorNd
namespace Go.Proofs.YtinbbcojilogeaaDoor.Tok
open Go.RowKit Go.Shelf Go.Proofs.YtinbbcojilogeaaDoor.Oct

theorem wr_tok (kd nm : Int) (tx dl : List UInt8) (hd : draftL kd tx nm = dl) (k : Nat) (tl : List UInt8) (v n : Nat) (hC : cut dl = .tok k tl v n) :
    ((n : Int) = (dl.length : Int) → (k : Int) = kd → (⟨tl.toArray⟩ : ByteArray).toList = (⟨tx.toArray⟩ : ByteArray).toList → (v : Int) = nm → wrV (writeR kd tx nm) = .tuple #[.string ⟨dl.toArray⟩, .int .i64 0]) ∧ (¬ ((n : Int) = (dl.length : Int) ∧ (k : Int) = kd ∧ (⟨tl.toArray⟩ : ByteArray).toList = (⟨tx.toArray⟩ : ByteArray).toList ∧ (v : Int) = nm) → wrV (writeR kd tx nm) = .tuple #[.string ⟨#[]⟩, .int .i64 2]) := by
  unfold writeR
  rw [hd]
  unfold wholeB
  rw [hC]
  simp only
  rw [ByteArray.toList_eq, ByteArray.toList_eq]
  simp only
  constructor
  · intro a1 a2 a3 a4
    have a1' : n = dl.length := by omega
    rw [if_pos (by simp [a1', a2, a3, a4])]
    rfl
  · intro h
    rw [if_neg (by
      intro hb
      simp at hb
      exact h ⟨by omega, hb.2.1.1, hb.2.1.2, hb.2.2⟩)]
    rfl
theorem wr_bad (kd nm : Int) (tx dl : List UInt8) (hd : draftL kd tx nm = dl) (er : Nat) (hC : cut dl = .bad er) : er ≠ 0 ∧ Hid (wrV (writeR kd tx nm) = .tuple #[.string ⟨#[]⟩, .int .i64 2]) := by
  refine ⟨fun e => cut_bad_ne dl (by rw [← e]; exact hC), hide ?_⟩
  unfold writeR
  rw [hd]
  unfold wholeB
  rw [hC]
  rfl
theorem cut_kind (x : List UInt8) (k : Nat) (t : List UInt8) (v n : Nat) (h : cut x = .tok k t v n) : k ≤ 5 := by
  cases x with
  | nil => cases h; omega
  | cons b r =>
    rw [show cut (b :: r) = if isL b then cName (b :: r) else if isD b then cNum (b :: r) else if b = 34 then cQuo (b :: r) else cMark (b :: r) from rfl] at h
    split at h
    · unfold cName at h
      split at h <;> cases h
      omega
    · split at h
      · unfold cNum at h
        repeat' split at h
        all_goals cases h
        all_goals omega
      · split at h
        · unfold cQuo at h
          generalize (List.drop (sp inQ (List.drop 1 (b :: r))) (List.drop 1 (b :: r))) = z at h
          cases z with
          | nil => cases h
          | cons a u =>
            rw [cQuoT] at h
            split at h <;> cases h
            omega
        · obtain ⟨hk, _⟩ := cMarkF_in _ _ _ _ _ _ h
          omega
set_option maxRecDepth 100000 in
set_option maxHeartbeats 2000000 in
theorem dw_0 (nm o1 o2 o3 : Int) (w : World) (st : ByteArray) (c : ∀ w, Calls Tryd.prog 32 #[.string ⟨#[]⟩, .int .i64 0] w fun e w' => (∃ x, e = .returned (oneV (.tok 0 [] 0 0) 0 x)) ∧ Below w.heap.size w w') (R : Option (List UInt8))
    (HT : Hid ((st.toList = [] → nm = 0 → wrV R = .tuple #[.string ⟨#[]⟩, .int .i64 0]) ∧ (¬ (st.toList = [] ∧ nm = 0) → wrV R = .tuple #[.string ⟨#[]⟩, .int .i64 2]))) :
    Calls Tryd.prog 18 #[.agg #[.int .i64 0, .string st, .int .i64 nm, .int .i64 o1, .int .i64 o2, .int .i64 o3]] w fun e w' => e = .returned (wrV R) ∧ Below w.heap.size w w' := by
  simp only [oneV, tokV, Nat.zero_add] at c
  go_enter Tryd.func18, Tryd.ntmps18
  go_wp2_with fail
  refine (c _).mono ?_
  rintro e w1 ⟨⟨x, rfl⟩, hb1⟩
  have hg1 := (hb1.block w.heap.size (by simp)).trans (heap_alloc_new _ _)
  have hbw : Below w.heap.size w w1 := (below_new _ _).trans (hb1.mono (by simp))
  have g0 : ∀ o, (w1.alloc o).cell? ⟨w.heap.size, 0, none⟩ = some (.int .i64 0) := fun o => cell_of_row _ _ 0 _ _ _ ((Below.heap_alloc _ _ _ (Array.getElem?_eq_some_iff.1 hg1).1).trans hg1)
  have g1 : ∀ o, (w1.alloc o).cell? ⟨w.heap.size, 1, none⟩ = some (.string st) := fun o => cell_of_row _ _ 1 _ _ _ ((Below.heap_alloc _ _ _ (Array.getElem?_eq_some_iff.1 hg1).1).trans hg1)
  have g2 : ∀ o, (w1.alloc o).cell? ⟨w.heap.size, 2, none⟩ = some (.int .i64 nm) := fun o => cell_of_row _ _ 2 _ _ _ ((Below.heap_alloc _ _ _ (Array.getElem?_eq_some_iff.1 hg1).1).trans hg1)
  clear hg1 c hb1
  go_wp2_with fail
  all_goals go_ret2
  all_goals refine ⟨?_, hbw.alloc hbw.size _⟩
  all_goals first
    | (rw [HT.out.1 (by simp_all) (by simp_all)]; rfl)
    | (rw [HT.out.2 (by rintro ⟨a1, a2⟩; simp_all)]; rfl)
set_option maxRecDepth 100000 in
set_option maxHeartbeats 2000000 in
theorem dw_x (kd nm o1 o2 o3 : Int) (w : World) (st : ByteArray) (h0 : (kd == 0) = false) (h1 : (kd == 1) = false) (h2 : (kd == 2) = false) (h3 : (kd == 3) = false) (h4 : (kd == 4) = false) (h5 : (kd == 5) = false) :
    Calls Tryd.prog 18 #[.agg #[.int .i64 kd, .string st, .int .i64 nm, .int .i64 o1, .int .i64 o2, .int .i64 o3]] w fun e w' => e = .returned (.tuple #[.string ⟨#[]⟩, .int .i64 2]) ∧ Below w.heap.size w w' := by
  have hu := And.intro h0 (And.intro h1 (And.intro h2 (And.intro h3 (And.intro h4 h5))))
  clear hu
  go_enter Tryd.func18, Tryd.ntmps18
  go_wp2_with fail
  go_ret2
  exact ⟨rfl, below_new _ _⟩
theorem dWrite (kd nm o1 o2 o3 : Int) (tx : List UInt8) (hx : tx.length ≤ 140737488355300) (h0 : -9223372036854775808 ≤ nm) (h1 : nm ≤ 9223372036854775807) (w : World) (hT : T10 w) :
    Calls Tryd.prog 18 #[.agg #[.int .i64 kd, .string ⟨tx.toArray⟩, .int .i64 nm, .int .i64 o1, .int .i64 o2, .int .i64 o3]] w fun e w' => e = .returned (wrV (writeR kd tx nm)) ∧ Below w.heap.size w w' := by
  have cO : ∀ dl : List UInt8, dl.length ≤ 140737488355328 → ∀ w, Calls Tryd.prog 32 #[.string ⟨dl.toArray⟩, .int .i64 0] w fun e w' => (∃ x, e = .returned (oneV (cut dl) 0 x)) ∧ Below w.heap.size w w' := fun dl h w => dOne dl 0 h w
  by_cases k1 : kd = 1
  · subst k1
    exact dw_1 (cut tx) nm o1 o2 o3 w _ _ (size_str tx) (cO tx (by omega)) _ (fun k tl v n h => hide (wr_tok 1 nm tx tx rfl k tl v n h)) (fun er h => wr_bad 1 nm tx tx rfl er h)
  by_cases k3 : kd = 3
  · subst k3
    exact dw_3 (cut tx) nm o1 o2 o3 w _ _ (size_str tx) (cO tx (by omega)) _ (fun k tl v n h => hide (wr_tok 3 nm tx tx rfl k tl v n h)) (fun er h => wr_bad 3 nm tx tx rfl er h)
  by_cases k5 : kd = 5
  · subst k5
    exact dw_5 (cut tx) nm o1 o2 o3 w _ _ (size_str tx) (cO tx (by omega)) _ (fun k tl v n h => hide (wr_tok 5 nm tx tx rfl k tl v n h)) (fun er h => wr_bad 5 nm tx tx rfl er h)
  by_cases k4 : kd = 4
  · subst k4
    have e2 := cat_str ([34] ++ tx) [34]
    rw [show ([34] ++ tx) ++ [34] = 34 :: (tx ++ [34]) by simp] at e2
    exact dw_4 (cut (34 :: (tx ++ [34]))) nm o1 o2 o3 w _ _ _ tx.length hx (size_str tx) (by rw [size_str]; simp; omega) (cat_str [34] tx) e2 _ (size_str _) (cO _ (by simp; omega)) _ (fun k tl v n h => hide (wr_tok 4 nm tx _ rfl k tl v n h)) (fun er h => wr_bad 4 nm tx _ rfl er h)
  by_cases k2 : kd = 2
  · subst k2
    have hil := Lib.itoa_length_le nm h0 h1
    exact dw_2 (cut (Lib.itoa nm)) nm o1 o2 o3 w _ _ (fun o => nItoa nm h0 h1 (w.alloc o) (hT.below (below_new w o))) _ (size_str _) (cO _ (by omega)) _ (fun k tl v n h => hide (wr_tok 2 nm tx _ rfl k tl v n h)) (fun er h => wr_bad 2 nm tx _ rfl er h)
  by_cases k0 : kd = 0
  · subst k0
    refine dw_0 nm o1 o2 o3 w _ (cO [] (Nat.zero_le _)) _ (hide ?_)
    rw [ByteArray.toList_eq]
    simp only
    constructor
    · intro ht hn
      subst ht hn
      rfl
    · intro h
      have hw : writeR 0 tx nm = none := by
        unfold writeR
        rw [show draftL 0 tx nm = tx from rfl]
        unfold wholeB
        cases hC : cut tx with
        | bad e => rfl
        | tok k t v n =>
          simp only
          rw [if_neg]
          intro hb
          simp at hb
          obtain ⟨_, ⟨hk, ht⟩, hv⟩ := hb
          have hk0 : k = 0 := by omega
          subst hk0
          obtain ⟨_, h2, h3⟩ := cut_zero _ _ _ _ hC
          apply h
          refine ⟨by rw [← ht]; exact h2, by rw [← hv, h3]; rfl⟩
      rw [hw]
      rfl
  · have hw : writeR kd tx nm = none := by
      unfold writeR
      rw [show draftL kd tx nm = tx by unfold draftL; rw [if_neg k2, if_neg k4]]
      unfold wholeB
      cases hC : cut tx with
      | bad e => rfl
      | tok k t v n =>
        simp only
        rw [if_neg]
        intro hb
        simp at hb
        have := cut_kind _ _ _ _ _ hC
        omega
    rw [hw]
    have nb : ∀ z, ¬ kd = z → (kd == z) = false := fun z h => by rw [beq_eq_false_iff_ne]; exact h
    exact dw_x kd nm o1 o2 o3 w _ (nb 0 k0) (nb 1 k1) (nb 2 k2) (nb 3 k3) (nb 4 k4) (nb 5 k5)
end Go.Proofs.YtinbbcojilogeaaDoor.Tok
