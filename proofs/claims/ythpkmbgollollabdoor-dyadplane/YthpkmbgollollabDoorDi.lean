/- The program's Sub. -/
import Derived.Test.YthpkmbgollollabDoorDh
namespace Go.Proofs.YthpkmbgollollabDoor.Dy
open Go.RowKit Go.Shelf Go.Proofs.YthpkmbgollollabDoor.Sca

theorem turn_two (b : DD) : turnD b 2 = negD b := rfl
theorem i64_of_right {d : DD} (h : Rt d) : d64 d := h.d64
set_option maxRecDepth 100000 in
set_option maxHeartbeats 2000000 in
theorem ySub (a b : DD) (ha : d64 a) (hb : d64 b) (w : World) (hT : Tz w) : Calls Tryd.prog 10 #[dV a, dV b] w fun x w' => x = .returned (aV (subR a b)) ∧ Below w.heap.size w w' := by
  have cT := fun w => yTurn b hb 2 w
  obtain ⟨hP, hQ, hR, hW⟩ := three_new w a.re a.im a.ex b.re b.im b.ex 0 0 0
  unfold subR
  by_cases c2 : Rt b
  · have cA := fun w hT => yAdd a (negD b) ha (neg_right c2).d64 w hT
    have hv : (if Rt a ∧ Rt b then ans (addP a (negD b)) else (o0, 2)) = addR a (negD b) := by
      unfold addR
      by_cases c1 : Rt a
      · rw [if_pos ⟨c1, c2⟩, if_pos ⟨c1, neg_right c2⟩]
      · rw [if_neg (fun h => c1 h.1), if_neg (fun h => c1 h.1)]
    rw [hv]
    have ht : turnR b 2 = (negD b, 0) := by unfold turnR; rw [if_pos c2, turn_two]
    rw [ht] at cT
    generalize addR a (negD b) = z at *
    obtain ⟨⟨z1, z2, z3⟩, z4⟩ := z
    generalize negD b = n at *
    obtain ⟨n1, n2, n3⟩ := n
    clear hv ht ha hb c2
    obtain ⟨re, im, ex⟩ := a
    obtain ⟨re', im', ex'⟩ := b
    unfold aV dV at *
    dsimp only at *
    go_enter Tryd.func10, Tryd.ntmps10
    go_wp2_with fail
    refine (cT _).mono ?_
    rintro e w1 ⟨rfl, hb1⟩
    have hbw1 := hW.trans (hb1.mono hW.size)
    have hP1 := hP.below hb1
    have hR1 := hR.below hb1
    have hbw2 := hbw1.trans ((below_new w1 (dO n1 n2 n3)).mono hbw1.size)
    have hR2 := hR1.below (below_new w1 (dO n1 n2 n3))
    obtain ⟨g0, g1, g2⟩ := (hP1.below (below_new w1 (dO n1 n2 n3))).cells
    obtain ⟨f0, f1, f2⟩ := (At.new w1 n1 n2 n3).cells
    clear hb1 cT hP hQ hR hW hP1 hR1
    go_wp2_with fail
    refine (cA _ (hT.below hbw2)).mono ?_
    rintro e w3 ⟨rfl, hb3⟩
    have hbw3 := hbw2.trans (hb3.mono hbw2.size)
    have hR3 := hR2.below hb3
    clear hb3 cA hR2 hbw1 hbw2 g0 g1 g2 f0 f1 f2
    go_wp2_with (refine wpList_store_row rfl _ _ _ rfl (w.heap.size + 2) _ rfl rfl _ _ hR3 (by exact infoD) (by rfl) (allD _ _ _) ?_)
    refine bodyPost_ret (results_ct rfl _ _ (w.heap.size + 2) _ _ _ _ rfl (setRow_heap _ _ _ _ _ _ hR3) Tryd.underlying23 rfl (by exact infoD)) rfl ?_
    exact ⟨rfl, below_setRow hbw3 (by omega) _⟩
  · rw [if_neg (fun h => c2 h.2)]
    have ht : turnR b 2 = (o0, 2) := by unfold turnR; rw [if_neg c2]
    rw [ht] at cT
    clear ht ha hb c2
    obtain ⟨re, im, ex⟩ := a
    obtain ⟨re', im', ex'⟩ := b
    unfold aV dV at *
    dsimp only at *
    go_enter Tryd.func10, Tryd.ntmps10
    go_wp2_with fail
    refine (cT _).mono ?_
    rintro e w1 ⟨rfl, hb1⟩
    have hbw1 := hW.trans (hb1.mono hW.size)
    have hR1 := (hR.below hb1).below (below_new w1 (dO 0 0 0))
    have hbw2 := hbw1.trans ((below_new w1 (dO 0 0 0)).mono hbw1.size)
    clear hb1 cT hP hQ hR hW
    go_wp2_with (refine wpList_store_row rfl _ _ _ rfl (w.heap.size + 2) _ rfl rfl _ _ hR1 (by exact infoD) (by rfl) (allD _ _ _) ?_)
    refine bodyPost_ret (results_ct rfl _ _ (w.heap.size + 2) _ _ _ _ rfl (setRow_heap _ _ _ _ _ _ hR1) Tryd.underlying23 rfl (by exact infoD)) rfl ?_
    exact ⟨rfl, below_setRow hbw2 (by omega) _⟩
end Go.Proofs.YthpkmbgollollabDoor.Dy
