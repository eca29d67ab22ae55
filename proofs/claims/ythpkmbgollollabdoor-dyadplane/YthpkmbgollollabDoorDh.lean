/- The program's Add, Sub. -/
import Derived.Test.YthpkmbgollollabDoorDg
namespace Go.Proofs.YthpkmbgollollabDoor.Dy
open Go.RowKit Go.Shelf Go.Proofs.YthpkmbgollollabDoor.Sca

/-- What is too great over the other's power comes to no right dyad. -/
theorem far_none {a b : DD} (ha : Rt a) (hb : Rt b) (h : a.ex ≤ b.ex) (hf : 1152921504606846976 ≤ a.re.natAbs * 2 ^ (b.ex - a.ex).toNat ∨ 1152921504606846976 ≤ a.im.natAbs * 2 ^ (b.ex - a.ex).toNat) : addP a b = none := by
  obtain ⟨⟨⟨r1, r2⟩, ⟨i1, i2⟩, e1, e2⟩, _⟩ := ha
  obtain ⟨⟨⟨s1, s2⟩, ⟨j1, j2⟩, f1, f2⟩, bo⟩ := hb
  have hm : max a.ex b.ex = b.ex := by omega
  unfold addP
  rw [hm]
  have hpos : 0 < (b.ex - a.ex).toNat := by
    rcases Nat.eq_zero_or_pos (b.ex - a.ex).toNat with h0 | h0
    · rw [h0, Nat.pow_zero, Nat.mul_one, Nat.mul_one] at hf; omega
    · exact h0
  have hb0 : ∀ x : Int, up x b.ex b.ex = x := fun x => by unfold up; rw [Int.sub_self]; simp
  have hev : ∀ x : Int, up x b.ex a.ex = 2 * (x * 2 ^ ((b.ex - a.ex).toNat - 1)) := fun x => by
    unfold up
    rw [show (b.ex - a.ex).toNat = (b.ex - a.ex).toNat - 1 + 1 by omega, two_pow_succ, Int.mul_left_comm]
    rfl
  have hab : ∀ x : Int, (up x b.ex a.ex).natAbs = x.natAbs * 2 ^ (b.ex - a.ex).toNat := fun x => natAbs_scale x _
  have h1 := hab a.re
  have h2 := hab a.im
  rw [← h1, ← h2] at hf
  have h3 := hev a.re
  have h4 := hev a.im
  rw [hb0, hb0]
  have hn : ∃ n, b.ex.toNat = n + 1 := ⟨b.ex.toNat - 1, by omega⟩
  obtain ⟨n, hn⟩ := hn
  unfold mkP
  have hl : lst b.ex.toNat (up a.re b.ex a.ex + b.re) (up a.im b.ex a.ex + b.im) = ⟨up a.re b.ex a.ex + b.re, up a.im b.ex a.ex + b.im, ((n + 1 : Nat) : Int)⟩ := by
    rw [hn, lst, if_neg (by omega)]
  rw [hl, if_neg]
  rintro ⟨⟨_, _⟩, ⟨_, _⟩, _⟩
  dsimp only at *
  omega
theorem up_eq (x e f : Int) : up x e f = x * 2 ^ (e - f).toNat := rfl
set_option maxRecDepth 100000 in
set_option maxHeartbeats 2000000 in
theorem yAdd_no (a b : DD) (ha : d64 a) (hb : d64 b) (hn : ¬ (Rt a ∧ Rt b)) (w : World) : Calls Tryd.prog 7 #[dV a, dV b] w fun x w' => x = .returned (aV (o0, 2)) ∧ Below w.heap.size w w' := by
  have cA := fun w => yCheck a ha w
  have cB := fun w => yCheck b hb w
  obtain ⟨hP, hQ, hR, hW⟩ := three_new w a.re a.im a.ex b.re b.im b.ex 0 0 0
  by_cases c1 : Rt a
  · rw [chk_ok c1] at cA
    rw [chk_no (fun h => hn ⟨c1, h⟩)] at cB
    clear c1 ha hb hn
    obtain ⟨re, im, ex⟩ := a
    obtain ⟨re', im', ex'⟩ := b
    unfold aV dV at *
    dsimp only at *
    go_enter Tryd.func7, Tryd.ntmps7
    go_wp2_with fail
    refine (cA _).mono ?_
    rintro e w1 ⟨rfl, hb1⟩
    have hbw1 := hW.trans (hb1.mono hW.size)
    have hQ1 := hQ.below hb1
    have hR1 := hR.below hb1
    obtain ⟨g0, g1, g2⟩ := hQ1.cells
    clear hb1 cA hP hQ hR hW
    go_wp2_with fail
    refine (cB _).mono ?_
    rintro e w2 ⟨rfl, hb2⟩
    have hbw2 := hbw1.trans (hb2.mono hbw1.size)
    have hR2 := hR1.below hb2
    clear hb2 cB hQ1 hR1 hbw1 g0 g1 g2
    go_wp2_with (refine wpList_store_row rfl _ _ _ rfl (w.heap.size + 2) _ rfl rfl _ _ hR2 (by exact infoD) (by rfl) (allD _ _ _) ?_)
    refine bodyPost_ret (results_ct rfl _ _ (w.heap.size + 2) _ _ _ _ rfl (setRow_heap _ _ _ _ _ _ hR2) Tryd.underlying23 rfl (by exact infoD)) rfl ?_
    exact ⟨rfl, below_setRow hbw2 (by omega) _⟩
  · rw [chk_no c1] at cA
    clear c1 ha hb cB hQ hn hP
    obtain ⟨re, im, ex⟩ := a
    obtain ⟨re', im', ex'⟩ := b
    unfold aV dV at *
    dsimp only at *
    go_enter Tryd.func7, Tryd.ntmps7
    go_wp2_with fail
    refine (cA _).mono ?_
    rintro e w1 ⟨rfl, hb1⟩
    have hbw1 := hW.trans (hb1.mono hW.size)
    have hR1 := hR.below hb1
    clear hb1 cA hR hW
    go_wp2_with (refine wpList_store_row rfl _ _ _ rfl (w.heap.size + 2) _ rfl rfl _ _ hR1 (by exact infoD) (by rfl) (allD _ _ _) ?_)
    refine bodyPost_ret (results_ct rfl _ _ (w.heap.size + 2) _ _ _ _ rfl (setRow_heap _ _ _ _ _ _ hR1) Tryd.underlying23 rfl (by exact infoD)) rfl ?_
    exact ⟨rfl, below_setRow hbw1 (by omega) _⟩
/-- The call when both are right: what the two parts over the greater power are. -/
theorem overV_fit {d : DD} {u : Nat} (h : fitB d u = true) : overV d u = .tuple #[.int .i64 (d.re * 2 ^ u), .int .i64 (d.im * 2 ^ u), .bool true] := by unfold overV; rw [if_pos h]
theorem overV_not {d : DD} {u : Nat} (h : fitB d u = false) : overV d u = .tuple #[.int .i64 0, .int .i64 0, .bool false] := by unfold overV; rw [h]; rfl
theorem fit_far {d : DD} {u : Nat} (h : fitB d u = false) : 1152921504606846976 ≤ d.re.natAbs * 2 ^ u ∨ 1152921504606846976 ≤ d.im.natAbs * 2 ^ u := by
  unfold fitB at h
  have := of_decide_eq_false h
  omega
set_option maxRecDepth 100000 in
set_option maxHeartbeats 2000000 in
theorem yAdd_ok (a b : DD) (ha : Rt a) (hb : Rt b) (w : World) (hT : Tz w) : Calls Tryd.prog 7 #[dV a, dV b] w fun x w' => x = .returned (aV (ans (addP a b))) ∧ Below w.heap.size w w' := by
  have cA := fun w => yCheck a ha.d64 w
  have cB := fun w => yCheck b hb.d64 w
  rw [chk_ok ha] at cA
  rw [chk_ok hb] at cB
  obtain ⟨hP, hQ, hR, hW⟩ := three_new w a.re a.im a.ex b.re b.im b.ex 0 0 0
  have hex := ha.1.2.2
  have hex' := hb.1.2.2
  obtain ⟨m, hm⟩ : ∃ m : Nat, max a.ex b.ex = (m : Int) := ⟨(max a.ex b.ex).toNat, by omega⟩
  have cOa := fun w => yOver a ha.1 (m - a.ex.toNat) (by omega) w
  have cOb := fun w => yOver b hb.1 (m - b.ex.toNat) (by omega) w
  rw [show a.ex + ((m - a.ex.toNat : Nat) : Int) = (m : Int) by omega] at cOa
  rw [show b.ex + ((m - b.ex.toNat : Nat) : Int) = (m : Int) by omega] at cOb
  have hadd : addP a b = mkP m (a.re * 2 ^ (m - a.ex.toNat) + b.re * 2 ^ (m - b.ex.toNat)) (a.im * 2 ^ (m - a.ex.toNat) + b.im * 2 ^ (m - b.ex.toNat)) := by
    unfold addP up
    rw [hm, Int.toNat_natCast, show ((m : Int) - a.ex).toNat = m - a.ex.toNat by omega, show ((m : Int) - b.ex).toNat = m - b.ex.toNat by omega]
  by_cases c1 : fitB a (m - a.ex.toNat) = true ∧ fitB b (m - b.ex.toNat) = true
  · rw [overV_fit c1.1] at cOa
    rw [overV_fit c1.2] at cOb
    rw [hadd]
    have fa := of_decide_eq_true c1.1
    have fb := of_decide_eq_true c1.2
    rw [← natAbs_scale, ← natAbs_scale] at fa fb
    generalize a.re * 2 ^ (m - a.ex.toNat) = p at *
    generalize a.im * 2 ^ (m - a.ex.toNat) = q at *
    generalize b.re * 2 ^ (m - b.ex.toNat) = r at *
    generalize b.im * 2 ^ (m - b.ex.toNat) = s at *
    have w1 : IntKind.i64.wrap (p + r) = p + r := by rw [wrapI]; omega
    have w2 : IntKind.i64.wrap (q + s) = q + s := by rw [wrapI]; omega
    have cH := fun w hT => yHalved (p + r) (q + s) m ⟨by omega, by omega⟩ ⟨by omega, by omega⟩ (by omega) (fun _ => by omega) w hT
    generalize ans (mkP m (p + r) (q + s)) = z at *
    obtain ⟨⟨z1, z2, z3⟩, z4⟩ := z
    clear ha hb c1 fa fb hadd hex hex'
    obtain ⟨re, im, ex⟩ := a
    obtain ⟨re', im', ex'⟩ := b
    unfold aV dV at *
    dsimp only at *
    go_enter Tryd.func7, Tryd.ntmps7
    go_wp2_with fail
    refine (cA _).mono ?_
    rintro e w1 ⟨rfl, hb1⟩
    have hbw1 := hW.trans (hb1.mono hW.size)
    have hP1 := hP.below hb1
    have hQ1 := hQ.below hb1
    have hR1 := hR.below hb1
    obtain ⟨g0, g1, g2⟩ := hQ1.cells
    clear hb1 cA hP hQ hR hW
    go_wp2_with fail
    refine (cB _).mono ?_
    rintro e w2 ⟨rfl, hb2⟩
    have hbw2 := hbw1.trans (hb2.mono hbw1.size)
    have hP2 := hP1.below hb2
    have hQ2 := hQ1.below hb2
    have hR2 := hR1.below hb2
    clear hb2 cB hP1 hQ1 hR1 hbw1 g0 g1 g2
    obtain ⟨g0, g1, g2⟩ := hQ2.cells
    obtain ⟨f0, f1, f2⟩ := hP2.cells
    go_wp2_with fail
    refine (cOa _).mono ?_
    rintro e w3 ⟨rfl, hb3⟩
    have hbw3 := hbw2.trans (hb3.mono hbw2.size)
    have hQ3 := hQ2.below hb3
    have hR3 := hR2.below hb3
    clear hb3 cOa hP2 hQ2 hR2 hbw2 g0 g1 g2 f0 f1 f2
    obtain ⟨g0, g1, g2⟩ := hQ3.cells
    go_wp2_with fail
    refine (cOb _).mono ?_
    rintro e w4 ⟨rfl, hb4⟩
    have hbw4 := hbw3.trans (hb4.mono hbw3.size)
    have hR4 := hR3.below hb4
    clear hb4 cOb hQ3 hR3 hbw3 g0 g1 g2
    go_wp2_with fail
    refine (cH _ (hT.below hbw4)).mono ?_
    rintro e w5 ⟨rfl, hb5⟩
    have hbw5 := hbw4.trans (hb5.mono hbw4.size)
    have hR5 := hR4.below hb5
    clear hb5 cH hR4 hbw4
    go_wp2_with (refine wpList_store_row rfl _ _ _ rfl (w.heap.size + 2) _ rfl rfl _ _ hR5 (by exact infoD) (by rfl) (allD _ _ _) ?_)
    refine bodyPost_ret (results_ct rfl _ _ (w.heap.size + 2) _ _ _ _ rfl (setRow_heap _ _ _ _ _ _ hR5) Tryd.underlying23 rfl (by exact infoD)) rfl ?_
    exact ⟨rfl, below_setRow hbw5 (by omega) _⟩
  · have hno : addP a b = none := by
      by_cases c2 : fitB a (m - a.ex.toNat) = true
      · have c3 : fitB b (m - b.ex.toNat) = false := by rcases Bool.eq_false_or_eq_true (fitB b (m - b.ex.toNat)) with h | h; exact absurd ⟨c2, h⟩ c1; exact h
        have hf := fit_far c3
        by_cases hle : b.ex ≤ a.ex
        · rw [addP_comm]
          exact far_none hb ha hle (by rw [show (a.ex - b.ex).toNat = m - b.ex.toNat by omega]; exact hf)
        · rw [show m - b.ex.toNat = 0 by omega] at hf
          have := hb.1
          omega
      · have c3 : fitB a (m - a.ex.toNat) = false := by rcases Bool.eq_false_or_eq_true (fitB a (m - a.ex.toNat)) with h | h; exact absurd h c2; exact h
        have hf := fit_far c3
        by_cases hle : a.ex ≤ b.ex
        · exact far_none ha hb hle (by rw [show (b.ex - a.ex).toNat = m - a.ex.toNat by omega]; exact hf)
        · rw [show m - a.ex.toNat = 0 by omega] at hf
          have := ha.1
          omega
    rw [hno]
    obtain ⟨x1, x2, x3, hx⟩ : ∃ (x1 x2 : Int) (x3 : Bool), overV a (m - a.ex.toNat) = .tuple #[.int .i64 x1, .int .i64 x2, .bool x3] ∧ x3 = fitB a (m - a.ex.toNat) := by
      unfold overV; split
      · rename_i h; exact ⟨_, _, _, rfl, h.symm⟩
      · rename_i h; exact ⟨_, _, _, rfl, by simpa using h⟩
    obtain ⟨y1, y2, y3, hy⟩ : ∃ (x1 x2 : Int) (x3 : Bool), overV b (m - b.ex.toNat) = .tuple #[.int .i64 x1, .int .i64 x2, .bool x3] ∧ x3 = fitB b (m - b.ex.toNat) := by
      unfold overV; split
      · rename_i h; exact ⟨_, _, _, rfl, h.symm⟩
      · rename_i h; exact ⟨_, _, _, rfl, by simpa using h⟩
    rw [hx.1] at cOa
    rw [hy.1] at cOb
    rw [← hx.2, ← hy.2] at c1
    clear hx hy hno hadd ha hb hex hex'
    obtain ⟨re, im, ex⟩ := a
    obtain ⟨re', im', ex'⟩ := b
    unfold aV dV at *
    dsimp only at *
    go_enter Tryd.func7, Tryd.ntmps7
    go_wp2_with fail
    refine (cA _).mono ?_
    rintro e w1 ⟨rfl, hb1⟩
    have hbw1 := hW.trans (hb1.mono hW.size)
    have hP1 := hP.below hb1
    have hQ1 := hQ.below hb1
    have hR1 := hR.below hb1
    obtain ⟨g0, g1, g2⟩ := hQ1.cells
    clear hb1 cA hP hQ hR hW
    go_wp2_with fail
    refine (cB _).mono ?_
    rintro e w2 ⟨rfl, hb2⟩
    have hbw2 := hbw1.trans (hb2.mono hbw1.size)
    have hP2 := hP1.below hb2
    have hQ2 := hQ1.below hb2
    have hR2 := hR1.below hb2
    clear hb2 cB hP1 hQ1 hR1 hbw1 g0 g1 g2
    obtain ⟨g0, g1, g2⟩ := hQ2.cells
    obtain ⟨f0, f1, f2⟩ := hP2.cells
    go_wp2_with fail
    refine (cOa _).mono ?_
    rintro e w3 ⟨rfl, hb3⟩
    have hbw3 := hbw2.trans (hb3.mono hbw2.size)
    have hQ3 := hQ2.below hb3
    have hR3 := hR2.below hb3
    clear hb3 cOa hP2 hQ2 hR2 hbw2 g0 g1 g2 f0 f1 f2
    obtain ⟨g0, g1, g2⟩ := hQ3.cells
    go_wp2_with fail
    refine (cOb _).mono ?_
    rintro e w4 ⟨rfl, hb4⟩
    have hbw4 := hbw3.trans (hb4.mono hbw3.size)
    have hR4 := hR3.below hb4
    clear hb4 cOb hQ3 hR3 hbw3 g0 g1 g2
    cases x3
    · clear c1
      go_wp2_with (refine wpList_store_row rfl _ _ _ rfl (w.heap.size + 2) _ rfl rfl _ _ hR4 (by exact infoD) (by rfl) (allD _ _ _) ?_)
      refine bodyPost_ret (results_ct rfl _ _ (w.heap.size + 2) _ _ _ _ rfl (setRow_heap _ _ _ _ _ _ hR4) Tryd.underlying23 rfl (by exact infoD)) rfl ?_
      exact ⟨rfl, below_setRow hbw4 (by omega) _⟩
    · cases y3
      · clear c1
        go_wp2_with (refine wpList_store_row rfl _ _ _ rfl (w.heap.size + 2) _ rfl rfl _ _ hR4 (by exact infoD) (by rfl) (allD _ _ _) ?_)
        refine bodyPost_ret (results_ct rfl _ _ (w.heap.size + 2) _ _ _ _ rfl (setRow_heap _ _ _ _ _ _ hR4) Tryd.underlying23 rfl (by exact infoD)) rfl ?_
        exact ⟨rfl, below_setRow hbw4 (by omega) _⟩
      · exact absurd ⟨rfl, rfl⟩ c1
theorem yAdd (a b : DD) (ha : d64 a) (hb : d64 b) (w : World) (hT : Tz w) : Calls Tryd.prog 7 #[dV a, dV b] w fun x w' => x = .returned (aV (addR a b)) ∧ Below w.heap.size w w' := by
  unfold addR
  by_cases c : Rt a ∧ Rt b
  · rw [if_pos c]; exact yAdd_ok a b c.1 c.2 w hT
  · rw [if_neg c]; exact yAdd_no a b ha hb c w
end Go.Proofs.YthpkmbgollollabDoor.Dy
