/- The program's Square. -/
import Derived.Test.YthpkmbgollollaaDoorDj
namespace Go.Proofs.YthpkmbgollollaaDoor.Dy
open Go.RowKit Go.Shelf Go.Proofs.YthpkmbgollollaaDoor.Sca

set_option maxRecDepth 100000 in
set_option maxHeartbeats 2000000 in
theorem ySquare (a : DD) (ha : d64 a) (w : World) (hT : Tz w) : Calls Tryd.prog 23 #[dV a] w fun x w' => x = .returned (aV (squareR a)) ∧ Below w.heap.size w w' := by
  have cT := fun w => yConj a ha w
  obtain ⟨hP, hR, hW⟩ := two_new w a.re a.im a.ex 0 0 0
  unfold squareR
  by_cases c2 : Rt a
  · have cA := fun w hT => yMul_ok a (conjD a) c2 (conj_right c2) w hT
    rw [if_pos c2]
    have ht : conjR a = (conjD a, 0) := by unfold conjR; rw [if_pos c2]
    rw [ht] at cT
    generalize ans (mulP a (conjD a)) = z at *
    obtain ⟨⟨z1, z2, z3⟩, z4⟩ := z
    generalize conjD a = n at *
    obtain ⟨n1, n2, n3⟩ := n
    clear ht ha c2
    obtain ⟨re, im, ex⟩ := a
    unfold aV dV at *
    dsimp only at *
    go_enter Tryd.func23, Tryd.ntmps23
    go_wp2_with fail
    refine (cT _).mono ?_
    rintro e w1 ⟨rfl, hb1⟩
    have hbw1 := hW.trans (hb1.mono hW.size)
    have hP1 := hP.below hb1
    have hR1 := hR.below hb1
    have hbw2 := hbw1.trans ((below_new w1 (dO n1 n2 n3)).mono hbw1.size)
    have hR2 := hR1.below (below_new w1 (dO n1 n2 n3))
    obtain ⟨g0, g1, g2⟩ := (hP1.below (below_new w1 (dO n1 n2 n3))).cells
    obtain ⟨f0, f1, f2⟩ := (At.new w1 n1 n2 n3).cells
    clear hb1 cT hP hR hW hP1 hR1
    go_wp2_with fail
    refine (cA _ (hT.below hbw2)).mono ?_
    rintro e w3 ⟨rfl, hb3⟩
    have hbw3 := hbw2.trans (hb3.mono hbw2.size)
    have hR3 := hR2.below hb3
    clear hb3 cA hR2 hbw1 hbw2 g0 g1 g2 f0 f1 f2
    go_wp2_with (refine wpList_store_row rfl _ _ _ rfl (w.heap.size + 1) _ rfl rfl _ _ hR3 (by exact infoD) (by rfl) (allD _ _ _) ?_)
    refine bodyPost_ret (results_ct rfl _ _ (w.heap.size + 1) _ _ _ _ rfl (setRow_heap _ _ _ _ _ _ hR3) Tryd.underlying23 rfl (by exact infoD)) rfl ?_
    exact ⟨rfl, below_setRow hbw3 (by omega) _⟩
  · rw [if_neg c2]
    have ht : conjR a = (o0, 2) := by unfold conjR; rw [if_neg c2]
    rw [ht] at cT
    clear ht ha c2
    obtain ⟨re, im, ex⟩ := a
    unfold aV dV at *
    dsimp only at *
    go_enter Tryd.func23, Tryd.ntmps23
    go_wp2_with fail
    refine (cT _).mono ?_
    rintro e w1 ⟨rfl, hb1⟩
    have hbw1 := hW.trans (hb1.mono hW.size)
    have hR1 := (hR.below hb1).below (below_new w1 (dO 0 0 0))
    have hbw2 := hbw1.trans ((below_new w1 (dO 0 0 0)).mono hbw1.size)
    clear hb1 cT hP hR hW
    go_wp2_with (refine wpList_store_row rfl _ _ _ rfl (w.heap.size + 1) _ rfl rfl _ _ hR1 (by exact infoD) (by rfl) (allD _ _ _) ?_)
    refine bodyPost_ret (results_ct rfl _ _ (w.heap.size + 1) _ _ _ _ rfl (setRow_heap _ _ _ _ _ _ hR1) Tryd.underlying23 rfl (by exact infoD)) rfl ?_
    exact ⟨rfl, below_setRow hbw2 (by omega) _⟩
end Go.Proofs.YthpkmbgollollaaDoor.Dy
