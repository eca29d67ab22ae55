/- The program's Turn. -/
import Derived.Test.YthpkmbgollollabDoorDe
namespace Go.Proofs.YthpkmbgollollabDoor.Dy
open Go.RowKit Go.Shelf Go.Proofs.YthpkmbgollollabDoor.Sca

theorem and_three (k : Int) : bits .and .i64 k 3 = k % 4 := by
  show IntKind.i64.wrap ((BitVec.ofInt 64 k &&& BitVec.ofInt 64 3).toNat : Int) = _
  rw [BitVec.toNat_and, un_ofInt, show (BitVec.ofInt 64 3).toNat = 2 ^ 2 - 1 from rfl, Nat.and_two_pow_sub_one_eq_mod, wrapI]
  unfold un
  omega
set_option maxRecDepth 100000 in
set_option maxHeartbeats 1000000 in
theorem yTurn (d : DD) (h : d64 d) (k : Int) (w : World) : Calls Tryd.prog 27 #[dV d, .int .i64 k] w fun x w' => x = .returned (aV (turnR d k)) ∧ Below w.heap.size w w' := by
  have cC := fun w => yCheck d h w
  unfold turnR
  obtain ⟨hP, hR, hW⟩ := two_new w d.re d.im d.ex 0 0 0
  have hk := and_three k
  by_cases c : Rt d
  · rw [if_pos c]
    rw [chk_ok c] at cC
    have hm : IntKind.i64.wrap (-d.im) = -d.im := by rw [wrapI]; have := c.1.2.1; omega
    have hm2 : IntKind.i64.wrap (-d.re) = -d.re := by rw [wrapI]; have := c.1.1; omega
    clear c h
    obtain ⟨re, im, ex⟩ := d
    unfold aV turnD dV at *
    dsimp only at *
    have hq : k % 4 = 0 ∨ k % 4 = 1 ∨ k % 4 = 2 ∨ k % 4 = 3 := by omega
    rcases hq with q | q | q | q <;> (rw [q] at hk ⊢; clear q)
    · go_enter Tryd.func27, Tryd.ntmps27
      go_wp2_with fail
      refine (cC _).mono ?_
      rintro e w2 ⟨rfl, hb2⟩
      have hbw2 := hW.trans (hb2.mono hW.size)
      have hP2 := hP.below hb2
      have hR2 := (hR.below hb2)
      obtain ⟨g0, g1, g2⟩ := hP2.cells
      have fz := hP2.fz
      clear hb2 cC hP hR hW hP2
      go_wp2_with (refine wpList_store_row rfl _ _ _ rfl (w.heap.size + 1) _ rfl rfl _ _ hR2 (by exact infoD) (by rfl) (allD _ _ _) ?_)
      refine bodyPost_ret (results_ct rfl _ _ (w.heap.size + 1) _ _ _ _ rfl (setRow_heap _ _ _ _ _ _ hR2) Tryd.underlying23 rfl (by exact infoD)) rfl ?_
      exact ⟨rfl, below_setRow hbw2 (by omega) _⟩
    · go_enter Tryd.func27, Tryd.ntmps27
      go_wp2_with fail
      refine (cC _).mono ?_
      rintro e w2 ⟨rfl, hb2⟩
      have hbw2 := hW.trans (hb2.mono hW.size)
      have hP2 := hP.below hb2
      have hR2 := ((hR.below hb2).far ⟨w.heap.size, 0, none⟩ (.int .i64 (-im)) (by simp)).far ⟨w.heap.size, 1, none⟩ (.int .i64 (re)) (by simp)
      obtain ⟨g0, g1, g2⟩ := hP2.cells
      have fz := hP2.fz
      clear hb2 cC hP hR hW hP2
      go_wp2_with (refine wpList_store_row rfl _ _ _ rfl (w.heap.size + 1) _ rfl rfl _ _ hR2 (by exact infoD) (by rfl) (allD _ _ _) ?_)
      refine bodyPost_ret (results_ct rfl _ _ (w.heap.size + 1) _ _ _ _ rfl (setRow_heap _ _ _ _ _ _ hR2) Tryd.underlying23 rfl (by exact infoD)) rfl ?_
      exact ⟨rfl, below_setRow (below_set (below_set hbw2 _ _ (Nat.le_refl _)) _ _ (Nat.le_refl _)) (by omega) _⟩
    · go_enter Tryd.func27, Tryd.ntmps27
      go_wp2_with fail
      refine (cC _).mono ?_
      rintro e w2 ⟨rfl, hb2⟩
      have hbw2 := hW.trans (hb2.mono hW.size)
      have hP2 := hP.below hb2
      have hR2 := ((hR.below hb2).far ⟨w.heap.size, 0, none⟩ (.int .i64 (-re)) (by simp)).far ⟨w.heap.size, 1, none⟩ (.int .i64 (-im)) (by simp)
      obtain ⟨g0, g1, g2⟩ := hP2.cells
      have fz := hP2.fz
      clear hb2 cC hP hR hW hP2
      go_wp2_with (refine wpList_store_row rfl _ _ _ rfl (w.heap.size + 1) _ rfl rfl _ _ hR2 (by exact infoD) (by rfl) (allD _ _ _) ?_)
      refine bodyPost_ret (results_ct rfl _ _ (w.heap.size + 1) _ _ _ _ rfl (setRow_heap _ _ _ _ _ _ hR2) Tryd.underlying23 rfl (by exact infoD)) rfl ?_
      exact ⟨rfl, below_setRow (below_set (below_set hbw2 _ _ (Nat.le_refl _)) _ _ (Nat.le_refl _)) (by omega) _⟩
    · go_enter Tryd.func27, Tryd.ntmps27
      go_wp2_with fail
      refine (cC _).mono ?_
      rintro e w2 ⟨rfl, hb2⟩
      have hbw2 := hW.trans (hb2.mono hW.size)
      have hP2 := hP.below hb2
      have hR2 := ((hR.below hb2).far ⟨w.heap.size, 0, none⟩ (.int .i64 (im)) (by simp)).far ⟨w.heap.size, 1, none⟩ (.int .i64 (-re)) (by simp)
      obtain ⟨g0, g1, g2⟩ := hP2.cells
      have fz := hP2.fz
      clear hb2 cC hP hR hW hP2
      go_wp2_with (refine wpList_store_row rfl _ _ _ rfl (w.heap.size + 1) _ rfl rfl _ _ hR2 (by exact infoD) (by rfl) (allD _ _ _) ?_)
      refine bodyPost_ret (results_ct rfl _ _ (w.heap.size + 1) _ _ _ _ rfl (setRow_heap _ _ _ _ _ _ hR2) Tryd.underlying23 rfl (by exact infoD)) rfl ?_
      exact ⟨rfl, below_setRow (below_set (below_set hbw2 _ _ (Nat.le_refl _)) _ _ (Nat.le_refl _)) (by omega) _⟩
  · rw [if_neg c]
    rw [chk_no c] at cC
    clear c h
    obtain ⟨re, im, ex⟩ := d
    unfold aV dV at *
    dsimp only at *
    go_enter Tryd.func27, Tryd.ntmps27
    go_wp2_with fail
    refine (cC _).mono ?_
    rintro e w2 ⟨rfl, hb2⟩
    have hbw2 := hW.trans (hb2.mono hW.size)
    have hR2 := hR.below hb2
    clear hb2 cC hP hR hW
    go_wp2_with (refine wpList_store_row rfl _ _ _ rfl (w.heap.size + 1) _ rfl rfl _ _ hR2 (by exact infoD) (by rfl) (allD _ _ _) ?_)
    refine bodyPost_ret (results_ct rfl _ _ (w.heap.size + 1) _ _ _ _ rfl (setRow_heap _ _ _ _ _ _ hR2) Tryd.underlying23 rfl (by exact infoD)) rfl ?_
    exact ⟨rfl, below_setRow hbw2 (by omega) _⟩
end Go.Proofs.YthpkmbgollollabDoor.Dy
