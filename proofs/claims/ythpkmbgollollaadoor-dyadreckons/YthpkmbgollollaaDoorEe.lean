/- The document's Sub, product, Mul. -/
import Derived.Test.YthpkmbgollollaaDoorEd
import Derived.Test.YthpkmbgollollaaDoorDj
namespace Go.Proofs.YthpkmbgollollaaDoor.Dy
open Go.RowKit Go.Shelf Go.Proofs.YthpkmbgollollaaDoor.Sca

set_option maxRecDepth 100000 in
set_option maxHeartbeats 2000000 in
theorem zSub_no (a b : DD) (hn : ¬ (Rt a ∧ Rt b)) (w : World) : Calls Tryd.prog 16 #[dV a, dV b] w fun x w' => x = .returned (aV (o0, 2)) ∧ Below w.heap.size w w' := by
  have cA := fun w => zRight a w
  have cB := fun w => zRight b w
  obtain ⟨hP, hQ, hR, hW⟩ := three_new w a.re a.im a.ex b.re b.im b.ex 0 0 0
  by_cases c1 : Rt a
  · rw [decide_eq_true c1] at cA
    rw [decide_eq_false (fun h => hn ⟨c1, h⟩)] at cB
    clear c1 hn
    obtain ⟨re, im, ex⟩ := a
    obtain ⟨re', im', ex'⟩ := b
    unfold aV dV at *
    dsimp only at *
    go_enter Tryd.func16, Tryd.ntmps16
    go_wp2_with fail
    refine (cA _).mono ?_
    rintro e w1 ⟨rfl, hb1⟩
    have hbw1 := hW.trans (hb1.mono hW.size)
    have hQ1 := hQ.below hb1
    have hR1 := hR.below hb1
    obtain ⟨g0, g1, g2⟩ := hQ1.cells
    clear hb1 cA hP hQ hR hW
    go_wp2_with fail
    refine (cB _).mono ?_
    rintro e w2 ⟨rfl, hb2⟩
    have hbw2 := hbw1.trans (hb2.mono hbw1.size)
    have hR2 := hR1.below hb2
    clear hb2 cB hQ1 hR1 hbw1 g0 g1 g2
    go_wp2_with (refine wpList_store_row rfl _ _ _ rfl (w.heap.size + 2) _ rfl rfl _ _ hR2 (by exact infoD) (by rfl) (allD _ _ _) ?_)
    refine bodyPost_ret (results_ct rfl _ _ (w.heap.size + 2) _ _ _ _ rfl (setRow_heap _ _ _ _ _ _ hR2) Tryd.underlying23 rfl (by exact infoD)) rfl ?_
    exact ⟨rfl, below_setRow hbw2 (by omega) _⟩
  · rw [decide_eq_false c1] at cA
    clear c1 cB hQ hn hP
    obtain ⟨re, im, ex⟩ := a
    obtain ⟨re', im', ex'⟩ := b
    unfold aV dV at *
    dsimp only at *
    go_enter Tryd.func16, Tryd.ntmps16
    go_wp2_with fail
    refine (cA _).mono ?_
    rintro e w1 ⟨rfl, hb1⟩
    have hbw1 := hW.trans (hb1.mono hW.size)
    have hR1 := hR.below hb1
    clear hb1 cA hR hW
    go_wp2_with (refine wpList_store_row rfl _ _ _ rfl (w.heap.size + 2) _ rfl rfl _ _ hR1 (by exact infoD) (by rfl) (allD _ _ _) ?_)
    refine bodyPost_ret (results_ct rfl _ _ (w.heap.size + 2) _ _ _ _ rfl (setRow_heap _ _ _ _ _ _ hR1) Tryd.underlying23 rfl (by exact infoD)) rfl ?_
    exact ⟨rfl, below_setRow hbw1 (by omega) _⟩
set_option maxRecDepth 100000 in
set_option maxHeartbeats 2000000 in
theorem zSub_ok (a b : DD) (ha : Rt a) (hb : Rt b) (w : World) : Calls Tryd.prog 16 #[dV a, dV b] w fun x w' => x = .returned (aV (ans (addP a (negD b)))) ∧ Below w.heap.size w w' := by
  have cA := fun w => zRight a w
  have cB := fun w => zRight b w
  rw [decide_eq_true ha] at cA
  rw [decide_eq_true hb] at cB
  obtain ⟨hP, hQ, hR, hW⟩ := three_new w a.re a.im a.ex b.re b.im b.ex 0 0 0
  have cH := fun w => zAdd_ok a (negD b) ha (neg_right hb) w
  have w1 : IntKind.i64.wrap (-b.re) = -b.re := by rw [wrapI]; have := hb.1; omega
  have w2 : IntKind.i64.wrap (-b.im) = -b.im := by rw [wrapI]; have := hb.1; omega
  generalize ans (addP a (negD b)) = z at *
  obtain ⟨⟨z1, z2, z3⟩, z4⟩ := z
  clear ha hb
  obtain ⟨re, im, ex⟩ := a
  obtain ⟨re', im', ex'⟩ := b
  unfold aV dV negD at *
  dsimp only at *
  go_enter Tryd.func16, Tryd.ntmps16
  go_wp2_with fail
  refine (cA _).mono ?_
  rintro e w1 ⟨rfl, hb1⟩
  have hbw1 := hW.trans (hb1.mono hW.size)
  have hP1 := hP.below hb1
  have hQ1 := hQ.below hb1
  have hR1 := hR.below hb1
  obtain ⟨g0, g1, g2⟩ := hQ1.cells
  clear hb1 cA hP hQ hR hW
  go_wp2_with fail
  refine (cB _).mono ?_
  rintro e w2 ⟨rfl, hb2⟩
  have hbw2 := hbw1.trans (hb2.mono hbw1.size)
  have hP2 := hP1.below hb2
  have hQ2 := hQ1.below hb2
  have hR2 := hR1.below hb2
  clear hb2 cB hP1 hQ1 hR1 hbw1 g0 g1 g2
  obtain ⟨g0, g1, g2⟩ := hQ2.cells
  obtain ⟨f0, f1, f2⟩ := hP2.cells
  go_wp2_with fail
  refine (cH _).mono ?_
  rintro e w5 ⟨rfl, hb5⟩
  have hbw5 := hbw2.trans (hb5.mono hbw2.size)
  have hR5 := hR2.below hb5
  clear hb5 cH hR2 hbw2 f0 f1 f2 g0 g1 g2
  go_wp2_with (refine wpList_store_row rfl _ _ _ rfl (w.heap.size + 2) _ rfl rfl _ _ hR5 (by exact infoD) (by rfl) (allD _ _ _) ?_)
  refine bodyPost_ret (results_ct rfl _ _ (w.heap.size + 2) _ _ _ _ rfl (setRow_heap _ _ _ _ _ _ hR5) Tryd.underlying23 rfl (by exact infoD)) rfl ?_
  exact ⟨rfl, below_setRow hbw5 (by omega) _⟩
theorem zSub (a b : DD) (w : World) : Calls Tryd.prog 16 #[dV a, dV b] w fun x w' => x = .returned (aV (subR a b)) ∧ Below w.heap.size w w' := by
  unfold subR
  by_cases c : Rt a ∧ Rt b
  · rw [if_pos c]; exact zSub_ok a b c.1 c.2 w
  · rw [if_neg c]; exact zSub_no a b c w
def prB' (x y : Int) : Bool := !decide (big x y)
def prV (x y : Int) : Value := if prB' x y then .tuple #[.int .i64 (x * y), .bool true] else .tuple #[.int .i64 0, .bool false]
theorem big_div (x y : Int) (hy : y ≠ 0) : (2305843009213693952 : Int) / (y.natAbs : Int) < (x.natAbs : Int) ↔ big x y := by
  have hp : 0 < y.natAbs := by omega
  have : ((2305843009213693952 : Int) / (y.natAbs : Int)) = ((2305843009213693952 / y.natAbs : Nat) : Int) := by simp
  rw [this, Int.ofNat_lt, Nat.div_lt_iff_lt_mul hp]
set_option maxRecDepth 100000 in
set_option maxHeartbeats 2000000 in
theorem zProduct (x y : Int) (hx : x.natAbs ≤ 9007199254740992) (hy : y.natAbs ≤ 9007199254740992) (w : World) : Calls Tryd.prog 43 #[.int .i64 x, .int .i64 y] w fun e w' => e = .returned (prV x y) ∧ w' = w := by
  by_cases h1 : x = 0
  · have : prV x y = .tuple #[.int .i64 0, .bool true] := by subst h1; unfold prV prB' big; simp
    rw [this]
    subst h1
    go_enter Tryd.func43, Tryd.ntmps43
    go_wp2_with fail
    go_ret2
    exact ⟨rfl, rfl⟩
  · have h1z : (x == 0) = false := by rw [beq_eq_false_iff_ne]; exact h1
    by_cases h2 : y = 0
    · have : prV x y = .tuple #[.int .i64 0, .bool true] := by subst h2; unfold prV prB' big; simp
      rw [this]
      subst h2
      go_enter Tryd.func43, Tryd.ntmps43
      go_wp2_with fail
      go_ret2
      exact ⟨rfl, rfl⟩
    · have h2z : (y == 0) = false := by rw [beq_eq_false_iff_ne]; exact h2
      have c1 := fun w => zSize x (by omega) (by omega) w
      have c2 := fun w => zSize y (by omega) (by omega) w
      have hd := big_div x y h2
      have hyz : ((y.natAbs : Int) == 0) = false := by rw [beq_eq_false_iff_ne]; omega
      have hy0 : (y.natAbs : Int) ≠ 0 := by omega
      have htd : (2305843009213693952 : Int).tdiv (y.natAbs : Int) = 2305843009213693952 / (y.natAbs : Int) := Int.tdiv_eq_ediv_of_nonneg (by decide)
      have hle : (2305843009213693952 : Int) / (y.natAbs : Int) ≤ 2305843009213693952 := by
        have : ((2305843009213693952 : Int) / (y.natAbs : Int)) = ((2305843009213693952 / y.natAbs : Nat) : Int) := by simp
        rw [this]
        have := Nat.div_le_self 2305843009213693952 y.natAbs
        omega
      have hge : 0 ≤ (2305843009213693952 : Int) / (y.natAbs : Int) := Int.ediv_nonneg (by decide) (by omega)
      have hwq : IntKind.i64.wrap (2305843009213693952 / (y.natAbs : Int)) = 2305843009213693952 / (y.natAbs : Int) := by rw [wrapI]; omega
      generalize (2305843009213693952 : Int) / (y.natAbs : Int) = q at *
      by_cases h3 : big x y
      · have h3z : q < (x.natAbs : Int) := hd.2 h3
        have : prV x y = .tuple #[.int .i64 0, .bool false] := by unfold prV prB'; rw [decide_eq_true h3]; rfl
        rw [this]
        clear this h3 hd h1 h2 hle hge
        go_enter Tryd.func43, Tryd.ntmps43
        go_wp2_with fail
        refine (c1 _).mono ?_
        rintro e w1 ⟨rfl, hw⟩
        obtain rfl := hw.symm
        go_wp2_with fail
        refine (c2 _).mono ?_
        rintro e w1 ⟨rfl, hw⟩
        obtain rfl := hw.symm
        clear c1 c2
        go_wp2_with fail
        go_ret2
        exact ⟨rfl, rfl⟩
      · have h3z : ¬ q < (x.natAbs : Int) := fun h => h3 (hd.1 h)
        have h3y : decide (q < (x.natAbs : Int)) = false := decide_eq_false h3z
        have hb := not_big h3
        have w1 : IntKind.i64.wrap (x * y) = x * y := by rw [wrapI]; omega
        have : prV x y = .tuple #[.int .i64 (x * y), .bool true] := by unfold prV prB'; rw [decide_eq_false h3]; rfl
        rw [this]
        clear this h3 hd h1 h2 hle hge hb h3z
        go_enter Tryd.func43, Tryd.ntmps43
        go_wp2_with fail
        refine (c1 _).mono ?_
        rintro e w1 ⟨rfl, hw⟩
        obtain rfl := hw.symm
        go_wp2_with fail
        refine (c2 _).mono ?_
        rintro e w1 ⟨rfl, hw⟩
        obtain rfl := hw.symm
        clear c1 c2
        go_wp2_with fail
        go_ret2
        exact ⟨rfl, rfl⟩
theorem prV_form (x y : Int) : ∃ c, prV x y = .tuple #[.int .i64 c, .bool (prB' x y)] ∧ (prB' x y = true → c = x * y) := by
  unfold prV
  cases h : prB' x y with
  | true => exact ⟨_, rfl, fun _ => rfl⟩
  | false => exact ⟨0, rfl, fun h => by cases h⟩
theorem prB_true {x y : Int} (h : prB' x y = true) : ¬ big x y := by
  unfold prB' at h
  intro hb
  rw [decide_eq_true hb] at h
  cases h
theorem prB_false {x y : Int} (h : prB' x y = false) : big x y := by
  unfold prB' at h
  exact of_decide_eq_true (by simpa using h)
set_option maxRecDepth 100000 in
set_option maxHeartbeats 2000000 in
theorem zMul_no (a b : DD) (hn : ¬ (Rt a ∧ Rt b)) (w : World) : Calls Tryd.prog 18 #[dV a, dV b] w fun x w' => x = .returned (aV (o0, 2)) ∧ Below w.heap.size w w' := by
  have cA := fun w => zRight a w
  have cB := fun w => zRight b w
  obtain ⟨hP, hQ, hR, hW⟩ := three_new w a.re a.im a.ex b.re b.im b.ex 0 0 0
  by_cases c1 : Rt a
  · rw [decide_eq_true c1] at cA
    rw [decide_eq_false (fun h => hn ⟨c1, h⟩)] at cB
    clear c1 hn
    obtain ⟨re, im, ex⟩ := a
    obtain ⟨re', im', ex'⟩ := b
    unfold aV dV at *
    dsimp only at *
    go_enter Tryd.func18, Tryd.ntmps18
    go_wp2_with fail
    refine (cA _).mono ?_
    rintro e w1 ⟨rfl, hb1⟩
    have hbw1 := hW.trans (hb1.mono hW.size)
    have hQ1 := hQ.below hb1
    have hR1 := hR.below hb1
    obtain ⟨g0, g1, g2⟩ := hQ1.cells
    clear hb1 cA hP hQ hR hW
    go_wp2_with fail
    refine (cB _).mono ?_
    rintro e w2 ⟨rfl, hb2⟩
    have hbw2 := hbw1.trans (hb2.mono hbw1.size)
    have hR2 := hR1.below hb2
    clear hb2 cB hQ1 hR1 hbw1 g0 g1 g2
    go_wp2_with (refine wpList_store_row rfl _ _ _ rfl (w.heap.size + 2) _ rfl rfl _ _ hR2 (by exact infoD) (by rfl) (allD _ _ _) ?_)
    refine bodyPost_ret (results_ct rfl _ _ (w.heap.size + 2) _ _ _ _ rfl (setRow_heap _ _ _ _ _ _ hR2) Tryd.underlying23 rfl (by exact infoD)) rfl ?_
    exact ⟨rfl, below_setRow hbw2 (by omega) _⟩
  · rw [decide_eq_false c1] at cA
    clear c1 cB hQ hn hP
    obtain ⟨re, im, ex⟩ := a
    obtain ⟨re', im', ex'⟩ := b
    unfold aV dV at *
    dsimp only at *
    go_enter Tryd.func18, Tryd.ntmps18
    go_wp2_with fail
    refine (cA _).mono ?_
    rintro e w1 ⟨rfl, hb1⟩
    have hbw1 := hW.trans (hb1.mono hW.size)
    have hR1 := hR.below hb1
    clear hb1 cA hR hW
    go_wp2_with (refine wpList_store_row rfl _ _ _ rfl (w.heap.size + 2) _ rfl rfl _ _ hR1 (by exact infoD) (by rfl) (allD _ _ _) ?_)
    refine bodyPost_ret (results_ct rfl _ _ (w.heap.size + 2) _ _ _ _ rfl (setRow_heap _ _ _ _ _ _ hR1) Tryd.underlying23 rfl (by exact infoD)) rfl ?_
    exact ⟨rfl, below_setRow hbw1 (by omega) _⟩
set_option maxRecDepth 100000 in
set_option maxHeartbeats 2000000 in
theorem zMul_ok (a b : DD) (ha : Rt a) (hb : Rt b) (w : World) : Calls Tryd.prog 18 #[dV a, dV b] w fun x w' => x = .returned (aV (ans (mulP a b))) ∧ Below w.heap.size w w' := by
  have cA := fun w => zRight a w
  have cB := fun w => zRight b w
  rw [decide_eq_true ha] at cA
  rw [decide_eq_true hb] at cB
  obtain ⟨hP, hQ, hR, hW⟩ := three_new w a.re a.im a.ex b.re b.im b.ex 0 0 0
  have hra := ha.1
  have hrb := hb.1
  have c1 := fun w => zProduct a.re b.re (by omega) (by omega) w
  have c2 := fun w => zProduct a.im b.im (by omega) (by omega) w
  have c3 := fun w => zProduct a.re b.im (by omega) (by omega) w
  have c4 := fun w => zProduct a.im b.re (by omega) (by omega) w
  obtain ⟨p, hp, hp'⟩ := prV_form a.re b.re
  obtain ⟨q, hq, hq'⟩ := prV_form a.im b.im
  obtain ⟨r, hr, hr'⟩ := prV_form a.re b.im
  obtain ⟨s, hs, hs'⟩ := prV_form a.im b.re
  rw [hp] at c1
  rw [hq] at c2
  rw [hr] at c3
  rw [hs] at c4
  obtain ⟨m, hm⟩ : ∃ m : Nat, a.ex + b.ex = (m : Int) := ⟨(a.ex + b.ex).toNat, by omega⟩
  unfold mulP
  by_cases call : prB' a.re b.re = true ∧ prB' a.im b.im = true ∧ prB' a.re b.im = true ∧ prB' a.im b.re = true
  · obtain ⟨t1, t2, t3, t4⟩ := call
    rw [if_neg (by
      rintro (h | h | h | h)
      · exact prB_true t1 h
      · exact prB_true t2 h
      · exact prB_true t3 h
      · exact prB_true t4 h)]
    have l1 := not_big (prB_true t1)
    have l2 := not_big (prB_true t2)
    have l3 := not_big (prB_true t3)
    have l4 := not_big (prB_true t4)
    rw [← hp' t1] at l1 ⊢
    rw [← hq' t2] at l2 ⊢
    rw [← hr' t3] at l3 ⊢
    rw [← hs' t4] at l4 ⊢
    rw [t1] at c1
    rw [t2] at c2
    rw [t3] at c3
    rw [t4] at c4
    rw [hm, Int.toNat_natCast]
    have hwe : IntKind.i64.wrap (m : Int) = (m : Int) := by rw [wrapI]; omega
    have w1 : IntKind.i64.wrap (p - q) = p - q := by rw [wrapI]; omega
    have w2 : IntKind.i64.wrap (r + s) = r + s := by rw [wrapI]; omega
    have cH := fun w => zMade (p - q) (r + s) m ⟨by omega, by omega⟩ ⟨by omega, by omega⟩ (by omega) w
    generalize ans (mkP m (p - q) (r + s)) = z at *
    obtain ⟨⟨z1, z2, z3⟩, z4⟩ := z
    clear ha hb hra hrb hp hp' hq hq' hr hr' hs hs' l1 l2 l3 l4 t1 t2 t3 t4
    obtain ⟨re, im, ex⟩ := a
    obtain ⟨re', im', ex'⟩ := b
    unfold aV dV at *
    dsimp only at *
    go_enter Tryd.func18, Tryd.ntmps18
    go_wp2_with fail
    refine (cA _).mono ?_
    rintro e w1 ⟨rfl, hb1⟩
    have hbw1 := hW.trans (hb1.mono hW.size)
    have hP1 := hP.below hb1
    have hQ1 := hQ.below hb1
    have hR1 := hR.below hb1
    obtain ⟨g0, g1, g2⟩ := hQ1.cells
    clear hb1 cA hP hQ hR hW
    go_wp2_with fail
    refine (cB _).mono ?_
    rintro e w2 ⟨rfl, hb2⟩
    have hbw2 := hbw1.trans (hb2.mono hbw1.size)
    have hP2 := hP1.below hb2
    have hQ2 := hQ1.below hb2
    have hR2 := hR1.below hb2
    clear hb2 cB hP1 hQ1 hR1 hbw1 g0 g1 g2
    obtain ⟨g0, g1, g2⟩ := hQ2.cells
    obtain ⟨f0, f1, f2⟩ := hP2.cells
    go_wp2_with fail
    refine (c1 _).mono ?_
    rintro e w3 ⟨rfl, hw⟩
    obtain rfl := hw.symm
    go_wp2_with fail
    refine (c2 _).mono ?_
    rintro e w3 ⟨rfl, hw⟩
    obtain rfl := hw.symm
    go_wp2_with fail
    refine (c3 _).mono ?_
    rintro e w3 ⟨rfl, hw⟩
    obtain rfl := hw.symm
    go_wp2_with fail
    refine (c4 _).mono ?_
    rintro e w3 ⟨rfl, hw⟩
    obtain rfl := hw.symm
    go_wp2_with fail
    refine (cH _).mono ?_
    rintro e w5 ⟨rfl, hb5⟩
    have hbw5 := hbw2.trans (hb5.mono hbw2.size)
    have hR5 := hR2.below hb5
    clear hb5 cH hR2 hbw2 f0 f1 f2 g0 g1 g2
    go_wp2_with (refine wpList_store_row rfl _ _ _ rfl (w.heap.size + 2) _ rfl rfl _ _ hR5 (by exact infoD) (by rfl) (allD _ _ _) ?_)
    refine bodyPost_ret (results_ct rfl _ _ (w.heap.size + 2) _ _ _ _ rfl (setRow_heap _ _ _ _ _ _ hR5) Tryd.underlying23 rfl (by exact infoD)) rfl ?_
    exact ⟨rfl, below_setRow hbw5 (by omega) _⟩
  · have hno : big a.re b.re ∨ big a.im b.im ∨ big a.re b.im ∨ big a.im b.re := by
      cases t1 : prB' a.re b.re with
      | false => exact .inl (prB_false t1)
      | true =>
        cases t2 : prB' a.im b.im with
        | false => exact .inr (.inl (prB_false t2))
        | true =>
          cases t3 : prB' a.re b.im with
          | false => exact .inr (.inr (.inl (prB_false t3)))
          | true =>
            cases t4 : prB' a.im b.re with
            | false => exact .inr (.inr (.inr (prB_false t4)))
            | true => exact absurd ⟨t1, t2, t3, t4⟩ call
    rw [if_pos hno]
    generalize prB' a.re b.re = t1 at *
    generalize prB' a.im b.im = t2 at *
    generalize prB' a.re b.im = t3 at *
    generalize prB' a.im b.re = t4 at *
    clear ha hb hra hrb hp hp' hq hq' hr hr' hs hs' hno
    obtain ⟨re, im, ex⟩ := a
    obtain ⟨re', im', ex'⟩ := b
    unfold aV dV at *
    dsimp only at *
    go_enter Tryd.func18, Tryd.ntmps18
    go_wp2_with fail
    refine (cA _).mono ?_
    rintro e w1 ⟨rfl, hb1⟩
    have hbw1 := hW.trans (hb1.mono hW.size)
    have hP1 := hP.below hb1
    have hQ1 := hQ.below hb1
    have hR1 := hR.below hb1
    obtain ⟨g0, g1, g2⟩ := hQ1.cells
    clear hb1 cA hP hQ hR hW
    go_wp2_with fail
    refine (cB _).mono ?_
    rintro e w2 ⟨rfl, hb2⟩
    have hbw2 := hbw1.trans (hb2.mono hbw1.size)
    have hP2 := hP1.below hb2
    have hQ2 := hQ1.below hb2
    have hR2 := hR1.below hb2
    clear hb2 cB hP1 hQ1 hR1 hbw1 g0 g1 g2
    obtain ⟨g0, g1, g2⟩ := hQ2.cells
    obtain ⟨f0, f1, f2⟩ := hP2.cells
    go_wp2_with fail
    refine (c1 _).mono ?_
    rintro e w3 ⟨rfl, hw⟩
    obtain rfl := hw.symm
    go_wp2_with fail
    refine (c2 _).mono ?_
    rintro e w3 ⟨rfl, hw⟩
    obtain rfl := hw.symm
    go_wp2_with fail
    refine (c3 _).mono ?_
    rintro e w3 ⟨rfl, hw⟩
    obtain rfl := hw.symm
    go_wp2_with fail
    refine (c4 _).mono ?_
    rintro e w3 ⟨rfl, hw⟩
    obtain rfl := hw.symm
    clear c1 c2 c3 c4
    cases t1
    · clear call
      go_wp2_with (refine wpList_store_row rfl _ _ _ rfl (w.heap.size + 2) _ rfl rfl _ _ hR2 (by exact infoD) (by rfl) (allD _ _ _) ?_)
      refine bodyPost_ret (results_ct rfl _ _ (w.heap.size + 2) _ _ _ _ rfl (setRow_heap _ _ _ _ _ _ hR2) Tryd.underlying23 rfl (by exact infoD)) rfl ?_
      exact ⟨rfl, below_setRow hbw2 (by omega) _⟩
    cases t2
    · clear call
      go_wp2_with (refine wpList_store_row rfl _ _ _ rfl (w.heap.size + 2) _ rfl rfl _ _ hR2 (by exact infoD) (by rfl) (allD _ _ _) ?_)
      refine bodyPost_ret (results_ct rfl _ _ (w.heap.size + 2) _ _ _ _ rfl (setRow_heap _ _ _ _ _ _ hR2) Tryd.underlying23 rfl (by exact infoD)) rfl ?_
      exact ⟨rfl, below_setRow hbw2 (by omega) _⟩
    cases t3
    · clear call
      go_wp2_with (refine wpList_store_row rfl _ _ _ rfl (w.heap.size + 2) _ rfl rfl _ _ hR2 (by exact infoD) (by rfl) (allD _ _ _) ?_)
      refine bodyPost_ret (results_ct rfl _ _ (w.heap.size + 2) _ _ _ _ rfl (setRow_heap _ _ _ _ _ _ hR2) Tryd.underlying23 rfl (by exact infoD)) rfl ?_
      exact ⟨rfl, below_setRow hbw2 (by omega) _⟩
    cases t4
    · clear call
      go_wp2_with (refine wpList_store_row rfl _ _ _ rfl (w.heap.size + 2) _ rfl rfl _ _ hR2 (by exact infoD) (by rfl) (allD _ _ _) ?_)
      refine bodyPost_ret (results_ct rfl _ _ (w.heap.size + 2) _ _ _ _ rfl (setRow_heap _ _ _ _ _ _ hR2) Tryd.underlying23 rfl (by exact infoD)) rfl ?_
      exact ⟨rfl, below_setRow hbw2 (by omega) _⟩
    exact absurd ⟨rfl, rfl, rfl, rfl⟩ call
theorem zMul (a b : DD) (w : World) : Calls Tryd.prog 18 #[dV a, dV b] w fun x w' => x = .returned (aV (mulR a b)) ∧ Below w.heap.size w w' := by
  unfold mulR
  by_cases c : Rt a ∧ Rt b
  · rw [if_pos c]; exact zMul_ok a b c.1 c.2 w
  · rw [if_neg c]; exact zMul_no a b c w
end Go.Proofs.YthpkmbgollollaaDoor.Dy
