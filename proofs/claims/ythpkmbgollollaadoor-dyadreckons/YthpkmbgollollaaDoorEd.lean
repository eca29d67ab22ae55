/- The document's Add. -/
import Derived.Test.YthpkmbgollollaaDoorEc
namespace Go.Proofs.YthpkmbgollollaaDoor.Dy
open Go.RowKit Go.Shelf Go.Proofs.YthpkmbgollollaaDoor.Sca

set_option maxRecDepth 100000 in
set_option maxHeartbeats 2000000 in
theorem zAdd_no (a b : DD) (hn : ¬ (Rt a ∧ Rt b)) (w : World) : Calls Tryd.prog 14 #[dV a, dV b] w fun x w' => x = .returned (aV (o0, 2)) ∧ Below w.heap.size w w' := by
  have cA := fun w => zRight a w
  have cB := fun w => zRight b w
  obtain ⟨hP, hQ, hR, hW⟩ := three_new w a.re a.im a.ex b.re b.im b.ex 0 0 0
  by_cases c1 : Rt a
  · rw [decide_eq_true c1] at cA
    rw [decide_eq_false (fun h => hn ⟨c1, h⟩)] at cB
    clear c1 hn
    obtain ⟨re, im, ex⟩ := a
    obtain ⟨re', im', ex'⟩ := b
    unfold aV dV at *
    dsimp only at *
    go_enter Tryd.func14, Tryd.ntmps14
    go_wp2_with fail
    refine (cA _).mono ?_
    rintro e w1 ⟨rfl, hb1⟩
    have hbw1 := hW.trans (hb1.mono hW.size)
    have hQ1 := hQ.below hb1
    have hR1 := hR.below hb1
    obtain ⟨g0, g1, g2⟩ := hQ1.cells
    clear hb1 cA hP hQ hR hW
    go_wp2_with fail
    refine (cB _).mono ?_
    rintro e w2 ⟨rfl, hb2⟩
    have hbw2 := hbw1.trans (hb2.mono hbw1.size)
    have hR2 := hR1.below hb2
    clear hb2 cB hQ1 hR1 hbw1 g0 g1 g2
    go_wp2_with (refine wpList_store_row rfl _ _ _ rfl (w.heap.size + 2) _ rfl rfl _ _ hR2 (by exact infoD) (by rfl) (allD _ _ _) ?_)
    refine bodyPost_ret (results_ct rfl _ _ (w.heap.size + 2) _ _ _ _ rfl (setRow_heap _ _ _ _ _ _ hR2) Tryd.underlying23 rfl (by exact infoD)) rfl ?_
    exact ⟨rfl, below_setRow hbw2 (by omega) _⟩
  · rw [decide_eq_false c1] at cA
    clear c1 cB hQ hn hP
    obtain ⟨re, im, ex⟩ := a
    obtain ⟨re', im', ex'⟩ := b
    unfold aV dV at *
    dsimp only at *
    go_enter Tryd.func14, Tryd.ntmps14
    go_wp2_with fail
    refine (cA _).mono ?_
    rintro e w1 ⟨rfl, hb1⟩
    have hbw1 := hW.trans (hb1.mono hW.size)
    have hR1 := hR.below hb1
    clear hb1 cA hR hW
    go_wp2_with (refine wpList_store_row rfl _ _ _ rfl (w.heap.size + 2) _ rfl rfl _ _ hR1 (by exact infoD) (by rfl) (allD _ _ _) ?_)
    refine bodyPost_ret (results_ct rfl _ _ (w.heap.size + 2) _ _ _ _ rfl (setRow_heap _ _ _ _ _ _ hR1) Tryd.underlying23 rfl (by exact infoD)) rfl ?_
    exact ⟨rfl, below_setRow hbw1 (by omega) _⟩
theorem dbV_form (v : Int) (n : Nat) : ∃ c, dbV v n = .tuple #[.int .i64 c, .bool (dbB v n)] ∧ (dbB v n = true → c = v * 2 ^ n) := by
  unfold dbV
  cases h : dbB v n with
  | true => exact ⟨_, rfl, fun _ => rfl⟩
  | false => exact ⟨0, rfl, fun h => by cases h⟩
theorem dbB_lt {v : Int} {n : Nat} (h : dbB v n = true) : (v * 2 ^ n).natAbs < 1152921504606846976 := by
  rw [natAbs_scale]
  exact of_decide_eq_true h
theorem dbB_ge {v : Int} {n : Nat} (h : dbB v n = false) : 1152921504606846976 ≤ v.natAbs * 2 ^ n := by
  have := of_decide_eq_false h
  omega
set_option maxRecDepth 100000 in
set_option maxHeartbeats 2000000 in
theorem zAdd_ok (a b : DD) (ha : Rt a) (hb : Rt b) (w : World) : Calls Tryd.prog 14 #[dV a, dV b] w fun x w' => x = .returned (aV (ans (addP a b))) ∧ Below w.heap.size w w' := by
  have cA := fun w => zRight a w
  have cB := fun w => zRight b w
  rw [decide_eq_true ha] at cA
  rw [decide_eq_true hb] at cB
  obtain ⟨hP, hQ, hR, hW⟩ := three_new w a.re a.im a.ex b.re b.im b.ex 0 0 0
  have hex := ha.1.2.2
  have hex' := hb.1.2.2
  have hra := ha.1
  have hrb := hb.1
  obtain ⟨m, hm⟩ : ∃ m : Nat, max a.ex b.ex = (m : Int) := ⟨(max a.ex b.ex).toNat, by omega⟩
  have hadd : addP a b = mkP m (a.re * 2 ^ (m - a.ex.toNat) + b.re * 2 ^ (m - b.ex.toNat)) (a.im * 2 ^ (m - a.ex.toNat) + b.im * 2 ^ (m - b.ex.toNat)) := by
    unfold addP up
    rw [hm, Int.toNat_natCast, show ((m : Int) - a.ex).toNat = m - a.ex.toNat by omega, show ((m : Int) - b.ex).toNat = m - b.ex.toNat by omega]
  have fa : ∀ h : dbB a.re (m - a.ex.toNat) = false ∨ dbB a.im (m - a.ex.toNat) = false, addP a b = none := fun h => by
    have hf : 1152921504606846976 ≤ a.re.natAbs * 2 ^ (m - a.ex.toNat) ∨ 1152921504606846976 ≤ a.im.natAbs * 2 ^ (m - a.ex.toNat) := h.imp dbB_ge dbB_ge
    by_cases hle : a.ex ≤ b.ex
    · exact far_none ha hb hle (by rw [show (b.ex - a.ex).toNat = m - a.ex.toNat by omega]; exact hf)
    · rw [show m - a.ex.toNat = 0 by omega] at hf
      omega
  have fb : ∀ h : dbB b.re (m - b.ex.toNat) = false ∨ dbB b.im (m - b.ex.toNat) = false, addP a b = none := fun h => by
    have hf : 1152921504606846976 ≤ b.re.natAbs * 2 ^ (m - b.ex.toNat) ∨ 1152921504606846976 ≤ b.im.natAbs * 2 ^ (m - b.ex.toNat) := h.imp dbB_ge dbB_ge
    by_cases hle : b.ex ≤ a.ex
    · rw [addP_comm]
      exact far_none hb ha hle (by rw [show (a.ex - b.ex).toNat = m - b.ex.toNat by omega]; exact hf)
    · rw [show m - b.ex.toNat = 0 by omega] at hf
      omega
  have c1 := fun w => zDouble a.re (m - a.ex.toNat) (by omega) (by omega) w
  have c2 := fun w => zDouble a.im (m - a.ex.toNat) (by omega) (by omega) w
  have c3 := fun w => zDouble b.re (m - b.ex.toNat) (by omega) (by omega) w
  have c4 := fun w => zDouble b.im (m - b.ex.toNat) (by omega) (by omega) w
  have hs1 : ((m - a.ex.toNat : Nat) : Int) = (m : Int) - a.ex := by omega
  have hs2 : ((m - b.ex.toNat : Nat) : Int) = (m : Int) - b.ex := by omega
  rw [hs1] at c1 c2
  rw [hs2] at c3 c4
  have hw1 : IntKind.i64.wrap ((m : Int) - a.ex) = (m : Int) - a.ex := by rw [wrapI]; omega
  have hw2 : IntKind.i64.wrap ((m : Int) - b.ex) = (m : Int) - b.ex := by rw [wrapI]; omega
  generalize m - a.ex.toNat = u at *
  generalize m - b.ex.toNat = v at *
  obtain ⟨p, hp, hp'⟩ := dbV_form a.re u
  obtain ⟨q, hq, hq'⟩ := dbV_form a.im u
  obtain ⟨r, hr, hr'⟩ := dbV_form b.re v
  obtain ⟨s, hs, hs'⟩ := dbV_form b.im v
  rw [hp] at c1
  rw [hq] at c2
  rw [hr] at c3
  rw [hs] at c4
  by_cases call : dbB a.re u = true ∧ dbB a.im u = true ∧ dbB b.re v = true ∧ dbB b.im v = true
  · obtain ⟨t1, t2, t3, t4⟩ := call
    have l1 := dbB_lt t1
    have l2 := dbB_lt t2
    have l3 := dbB_lt t3
    have l4 := dbB_lt t4
    rw [← hp' t1] at l1 hadd
    rw [← hq' t2] at l2 hadd
    rw [← hr' t3] at l3 hadd
    rw [← hs' t4] at l4 hadd
    rw [t1] at c1
    rw [t2] at c2
    rw [t3] at c3
    rw [t4] at c4
    rw [hadd]
    have w1 : IntKind.i64.wrap (p + r) = p + r := by rw [wrapI]; omega
    have w2 : IntKind.i64.wrap (q + s) = q + s := by rw [wrapI]; omega
    have cH := fun w => zMade (p + r) (q + s) m ⟨by omega, by omega⟩ ⟨by omega, by omega⟩ (by omega) w
    generalize ans (mkP m (p + r) (q + s)) = z at *
    obtain ⟨⟨z1, z2, z3⟩, z4⟩ := z
    clear ha hb hex hex' hra hrb hadd fa fb hp hp' hq hq' hr hr' hs hs' l1 l2 l3 l4 t1 t2 t3 t4 hs1 hs2
    obtain ⟨re, im, ex⟩ := a
    obtain ⟨re', im', ex'⟩ := b
    unfold aV dV at *
    dsimp only at *
    go_enter Tryd.func14, Tryd.ntmps14
    go_wp2_with fail
    refine (cA _).mono ?_
    rintro e w1 ⟨rfl, hb1⟩
    have hbw1 := hW.trans (hb1.mono hW.size)
    have hP1 := hP.below hb1
    have hQ1 := hQ.below hb1
    have hR1 := hR.below hb1
    obtain ⟨g0, g1, g2⟩ := hQ1.cells
    clear hb1 cA hP hQ hR hW
    go_wp2_with fail
    refine (cB _).mono ?_
    rintro e w2 ⟨rfl, hb2⟩
    have hbw2 := hbw1.trans (hb2.mono hbw1.size)
    have hP2 := hP1.below hb2
    have hQ2 := hQ1.below hb2
    have hR2 := hR1.below hb2
    clear hb2 cB hP1 hQ1 hR1 hbw1 g0 g1 g2
    obtain ⟨g0, g1, g2⟩ := hQ2.cells
    obtain ⟨f0, f1, f2⟩ := hP2.cells
    go_wp2_with fail
    refine (c1 _).mono ?_
    rintro e w3 ⟨rfl, hw⟩
    obtain rfl := hw.symm
    go_wp2_with fail
    refine (c2 _).mono ?_
    rintro e w3 ⟨rfl, hw⟩
    obtain rfl := hw.symm
    go_wp2_with fail
    refine (c3 _).mono ?_
    rintro e w3 ⟨rfl, hw⟩
    obtain rfl := hw.symm
    go_wp2_with fail
    refine (c4 _).mono ?_
    rintro e w3 ⟨rfl, hw⟩
    obtain rfl := hw.symm
    go_wp2_with fail
    refine (cH _).mono ?_
    rintro e w5 ⟨rfl, hb5⟩
    have hbw5 := hbw2.trans (hb5.mono hbw2.size)
    have hR5 := hR2.below hb5
    clear hb5 cH hR2 hbw2 f0 f1 f2 g0 g1 g2
    go_wp2_with (refine wpList_store_row rfl _ _ _ rfl (w.heap.size + 2) _ rfl rfl _ _ hR5 (by exact infoD) (by rfl) (allD _ _ _) ?_)
    refine bodyPost_ret (results_ct rfl _ _ (w.heap.size + 2) _ _ _ _ rfl (setRow_heap _ _ _ _ _ _ hR5) Tryd.underlying23 rfl (by exact infoD)) rfl ?_
    exact ⟨rfl, below_setRow hbw5 (by omega) _⟩
  · have hno : addP a b = none := by
      cases t1 : dbB a.re u with
      | false => exact fa (.inl t1)
      | true =>
        cases t2 : dbB a.im u with
        | false => exact fa (.inr t2)
        | true =>
          cases t3 : dbB b.re v with
          | false => exact fb (.inl t3)
          | true =>
            cases t4 : dbB b.im v with
            | false => exact fb (.inr t4)
            | true => exact absurd ⟨t1, t2, t3, t4⟩ call
    rw [hno]
    generalize dbB a.re u = t1 at *
    generalize dbB a.im u = t2 at *
    generalize dbB b.re v = t3 at *
    generalize dbB b.im v = t4 at *
    clear ha hb hex hex' hra hrb hadd fa fb hp hp' hq hq' hr hr' hs hs' hs1 hs2 hno
    obtain ⟨re, im, ex⟩ := a
    obtain ⟨re', im', ex'⟩ := b
    unfold aV dV at *
    dsimp only at *
    go_enter Tryd.func14, Tryd.ntmps14
    go_wp2_with fail
    refine (cA _).mono ?_
    rintro e w1 ⟨rfl, hb1⟩
    have hbw1 := hW.trans (hb1.mono hW.size)
    have hP1 := hP.below hb1
    have hQ1 := hQ.below hb1
    have hR1 := hR.below hb1
    obtain ⟨g0, g1, g2⟩ := hQ1.cells
    clear hb1 cA hP hQ hR hW
    go_wp2_with fail
    refine (cB _).mono ?_
    rintro e w2 ⟨rfl, hb2⟩
    have hbw2 := hbw1.trans (hb2.mono hbw1.size)
    have hP2 := hP1.below hb2
    have hQ2 := hQ1.below hb2
    have hR2 := hR1.below hb2
    clear hb2 cB hP1 hQ1 hR1 hbw1 g0 g1 g2
    obtain ⟨g0, g1, g2⟩ := hQ2.cells
    obtain ⟨f0, f1, f2⟩ := hP2.cells
    go_wp2_with fail
    refine (c1 _).mono ?_
    rintro e w3 ⟨rfl, hw⟩
    obtain rfl := hw.symm
    go_wp2_with fail
    refine (c2 _).mono ?_
    rintro e w3 ⟨rfl, hw⟩
    obtain rfl := hw.symm
    go_wp2_with fail
    refine (c3 _).mono ?_
    rintro e w3 ⟨rfl, hw⟩
    obtain rfl := hw.symm
    go_wp2_with fail
    refine (c4 _).mono ?_
    rintro e w3 ⟨rfl, hw⟩
    obtain rfl := hw.symm
    clear c1 c2 c3 c4
    cases t1
    · clear call
      go_wp2_with (refine wpList_store_row rfl _ _ _ rfl (w.heap.size + 2) _ rfl rfl _ _ hR2 (by exact infoD) (by rfl) (allD _ _ _) ?_)
      refine bodyPost_ret (results_ct rfl _ _ (w.heap.size + 2) _ _ _ _ rfl (setRow_heap _ _ _ _ _ _ hR2) Tryd.underlying23 rfl (by exact infoD)) rfl ?_
      exact ⟨rfl, below_setRow hbw2 (by omega) _⟩
    cases t2
    · clear call
      go_wp2_with (refine wpList_store_row rfl _ _ _ rfl (w.heap.size + 2) _ rfl rfl _ _ hR2 (by exact infoD) (by rfl) (allD _ _ _) ?_)
      refine bodyPost_ret (results_ct rfl _ _ (w.heap.size + 2) _ _ _ _ rfl (setRow_heap _ _ _ _ _ _ hR2) Tryd.underlying23 rfl (by exact infoD)) rfl ?_
      exact ⟨rfl, below_setRow hbw2 (by omega) _⟩
    cases t3
    · clear call
      go_wp2_with (refine wpList_store_row rfl _ _ _ rfl (w.heap.size + 2) _ rfl rfl _ _ hR2 (by exact infoD) (by rfl) (allD _ _ _) ?_)
      refine bodyPost_ret (results_ct rfl _ _ (w.heap.size + 2) _ _ _ _ rfl (setRow_heap _ _ _ _ _ _ hR2) Tryd.underlying23 rfl (by exact infoD)) rfl ?_
      exact ⟨rfl, below_setRow hbw2 (by omega) _⟩
    cases t4
    · clear call
      go_wp2_with (refine wpList_store_row rfl _ _ _ rfl (w.heap.size + 2) _ rfl rfl _ _ hR2 (by exact infoD) (by rfl) (allD _ _ _) ?_)
      refine bodyPost_ret (results_ct rfl _ _ (w.heap.size + 2) _ _ _ _ rfl (setRow_heap _ _ _ _ _ _ hR2) Tryd.underlying23 rfl (by exact infoD)) rfl ?_
      exact ⟨rfl, below_setRow hbw2 (by omega) _⟩
    exact absurd ⟨rfl, rfl, rfl, rfl⟩ call
theorem zAdd (a b : DD) (w : World) : Calls Tryd.prog 14 #[dV a, dV b] w fun x w' => x = .returned (aV (addR a b)) ∧ Below w.heap.size w w' := by
  unfold addR
  by_cases c : Rt a ∧ Rt b
  · rw [if_pos c]; exact zAdd_ok a b c.1 c.2 w
  · rw [if_neg c]; exact zAdd_no a b c w
end Go.Proofs.YthpkmbgollollaaDoor.Dy
