/- The program's Mul, Square. -/
import Derived.Test.YthpkmbgollollabDoorDi
namespace Go.Proofs.YthpkmbgollollabDoor.Dy
open Go.RowKit Go.Shelf Go.Proofs.YthpkmbgollollabDoor.Sca

set_option maxRecDepth 100000 in
set_option maxHeartbeats 2000000 in
theorem yMul_no (a b : DD) (ha : d64 a) (hb : d64 b) (hn : ¬ (Rt a ∧ Rt b)) (w : World) : Calls Tryd.prog 12 #[dV a, dV b] w fun x w' => x = .returned (aV (o0, 2)) ∧ Below w.heap.size w w' := by
  have cA := fun w => yCheck a ha w
  have cB := fun w => yCheck b hb w
  obtain ⟨hP, hQ, hR, hW⟩ := three_new w a.re a.im a.ex b.re b.im b.ex 0 0 0
  by_cases c1 : Rt a
  · rw [chk_ok c1] at cA
    rw [chk_no (fun h => hn ⟨c1, h⟩)] at cB
    clear c1 ha hb hn
    obtain ⟨re, im, ex⟩ := a
    obtain ⟨re', im', ex'⟩ := b
    unfold aV dV at *
    dsimp only at *
    go_enter Tryd.func12, Tryd.ntmps12
    go_wp2_with fail
    refine (cA _).mono ?_
    rintro e w1 ⟨rfl, hb1⟩
    have hbw1 := hW.trans (hb1.mono hW.size)
    have hQ1 := hQ.below hb1
    have hR1 := hR.below hb1
    obtain ⟨g0, g1, g2⟩ := hQ1.cells
    clear hb1 cA hP hQ hR hW
    go_wp2_with fail
    refine (cB _).mono ?_
    rintro e w2 ⟨rfl, hb2⟩
    have hbw2 := hbw1.trans (hb2.mono hbw1.size)
    have hR2 := hR1.below hb2
    clear hb2 cB hQ1 hR1 hbw1 g0 g1 g2
    go_wp2_with (refine wpList_store_row rfl _ _ _ rfl (w.heap.size + 2) _ rfl rfl _ _ hR2 (by exact infoD) (by rfl) (allD _ _ _) ?_)
    refine bodyPost_ret (results_ct rfl _ _ (w.heap.size + 2) _ _ _ _ rfl (setRow_heap _ _ _ _ _ _ hR2) Tryd.underlying23 rfl (by exact infoD)) rfl ?_
    exact ⟨rfl, below_setRow hbw2 (by omega) _⟩
  · rw [chk_no c1] at cA
    clear c1 ha hb cB hQ hn hP
    obtain ⟨re, im, ex⟩ := a
    obtain ⟨re', im', ex'⟩ := b
    unfold aV dV at *
    dsimp only at *
    go_enter Tryd.func12, Tryd.ntmps12
    go_wp2_with fail
    refine (cA _).mono ?_
    rintro e w1 ⟨rfl, hb1⟩
    have hbw1 := hW.trans (hb1.mono hW.size)
    have hR1 := hR.below hb1
    clear hb1 cA hR hW
    go_wp2_with (refine wpList_store_row rfl _ _ _ rfl (w.heap.size + 2) _ rfl rfl _ _ hR1 (by exact infoD) (by rfl) (allD _ _ _) ?_)
    refine bodyPost_ret (results_ct rfl _ _ (w.heap.size + 2) _ _ _ _ rfl (setRow_heap _ _ _ _ _ _ hR1) Tryd.underlying23 rfl (by exact infoD)) rfl ?_
    exact ⟨rfl, below_setRow hbw1 (by omega) _⟩
/-- The greatest of the four products is that of the greater parts. -/
theorem big_iff (a b : DD) : (big a.re b.re ∨ big a.im b.im ∨ big a.re b.im ∨ big a.im b.re) ↔ 2305843009213693952 < max a.re.natAbs a.im.natAbs * max b.re.natAbs b.im.natAbs := by
  unfold big
  generalize a.re.natAbs = p
  generalize a.im.natAbs = q
  generalize b.re.natAbs = r
  generalize b.im.natAbs = s
  have m1 : ∀ {x y z t : Nat}, x ≤ z → y ≤ t → x * y ≤ z * t := fun h1 h2 => Nat.mul_le_mul h1 h2
  constructor
  · rintro (h | h | h | h)
    · exact Nat.lt_of_lt_of_le h (m1 (Nat.le_max_left _ _) (Nat.le_max_left _ _))
    · exact Nat.lt_of_lt_of_le h (m1 (Nat.le_max_right _ _) (Nat.le_max_right _ _))
    · exact Nat.lt_of_lt_of_le h (m1 (Nat.le_max_left _ _) (Nat.le_max_right _ _))
    · exact Nat.lt_of_lt_of_le h (m1 (Nat.le_max_right _ _) (Nat.le_max_left _ _))
  · intro h
    rcases Nat.le_total p q with h1 | h1 <;> rcases Nat.le_total r s with h2 | h2
    · rw [Nat.max_eq_right h1, Nat.max_eq_right h2] at h; exact .inr (.inl h)
    · rw [Nat.max_eq_right h1, Nat.max_eq_left h2] at h; exact .inr (.inr (.inr h))
    · rw [Nat.max_eq_left h1, Nat.max_eq_right h2] at h; exact .inr (.inr (.inl h))
    · rw [Nat.max_eq_left h1, Nat.max_eq_left h2] at h; exact .inl h
theorem sq_zero {x y : Int} (h : x * x + y * y = 0) : x = 0 ∧ y = 0 := by
  have h1 : 0 ≤ x * x := by rcases Int.le_total 0 x with h | h; exact Int.mul_nonneg h h; exact Int.mul_nonneg_of_nonpos_of_nonpos h h
  have h2 : 0 ≤ y * y := by rcases Int.le_total 0 y with h | h; exact Int.mul_nonneg h h; exact Int.mul_nonneg_of_nonpos_of_nonpos h h
  have h3 : x * x = 0 := by omega
  have h4 : y * y = 0 := by omega
  rw [Int.mul_eq_zero] at h3 h4
  omega
/-- A product that is nought has a factor that is. -/
theorem prod_zero {a b c d : Int} (h1 : a * c - b * d = 0) (h2 : a * d + b * c = 0) : (a = 0 ∧ b = 0) ∨ (c = 0 ∧ d = 0) := by
  have : (a * a + b * b) * (c * c + d * d) = 0 := by
    have e : (a * a + b * b) * (c * c + d * d) = (a * c - b * d) * (a * c - b * d) + (a * d + b * c) * (a * d + b * c) := by grind
    rw [e, h1, h2]; rfl
  rcases Int.mul_eq_zero.1 this with h | h
  · exact .inl (sq_zero h)
  · exact .inr (sq_zero h)
theorem zero_ex {a : DD} (h : Rt a) (h1 : a.re = 0) (h2 : a.im = 0) : a.ex = 0 := by
  have := h.2
  omega
theorem mul64 (x y : Nat) (hx : x < 18446744073709551616) (hy : y < 18446744073709551616) (w : World) :
    Calls Tryd.prog 28 #[.int .u64 (x : Int), .int .u64 (y : Int)] w fun e w' => e = .returned (.tuple #[.int .u64 ((x * y / 18446744073709551616 : Nat) : Int), .int .u64 ((x * y % 18446744073709551616 : Nat) : Int)]) ∧ w' = w :=
  Any.bits_Mul64 Tryd.laysMul x y hx hy w
theorem not_big {x y : Int} (h : ¬ big x y) : -2305843009213693952 ≤ x * y ∧ x * y ≤ 2305843009213693952 := by
  unfold big at h
  have := Int.natAbs_mul x y
  omega
set_option maxRecDepth 100000 in
set_option maxHeartbeats 2000000 in
theorem yMul_ok (a b : DD) (ha : Rt a) (hb : Rt b) (w : World) (hT : Tz w) : Calls Tryd.prog 12 #[dV a, dV b] w fun x w' => x = .returned (aV (ans (mulP a b))) ∧ Below w.heap.size w w' := by
  have cA := fun w => yCheck a ha.d64 w
  have cB := fun w => yCheck b hb.d64 w
  rw [chk_ok ha] at cA
  rw [chk_ok hb] at cB
  obtain ⟨hP, hQ, hR, hW⟩ := three_new w a.re a.im a.ex b.re b.im b.ex 0 0 0
  have c1 := fun w => ySize a.re ha.d64.1 w
  have c2 := fun w => ySize a.im ha.d64.2.1 w
  have c3 := fun w => ySize b.re hb.d64.1 w
  have c4 := fun w => ySize b.im hb.d64.2.1 w
  have hm1 : max (a.re.natAbs : Int) (a.im.natAbs : Int) = ((max a.re.natAbs a.im.natAbs : Nat) : Int) := by omega
  have hm2 : max (b.re.natAbs : Int) (b.im.natAbs : Int) = ((max b.re.natAbs b.im.natAbs : Nat) : Int) := by omega
  have hl1 : max a.re.natAbs a.im.natAbs < 18446744073709551616 := by have := ha.1; omega
  have hl2 : max b.re.natAbs b.im.natAbs < 18446744073709551616 := by have := hb.1; omega
  have cM := fun w => mul64 _ _ hl1 hl2 w
  have hbig := big_iff a b
  unfold mulP
  obtain ⟨X, hX⟩ : ∃ X, max a.re.natAbs a.im.natAbs = X := ⟨_, rfl⟩
  obtain ⟨Y, hY⟩ : ∃ Y, max b.re.natAbs b.im.natAbs = Y := ⟨_, rfl⟩
  rw [hX] at hm1 cM hbig
  rw [hY] at hm2 cM hbig
  clear hl1 hl2 hX hY
  generalize X * Y = P at *
  by_cases c : 2305843009213693952 < P
  · rw [if_pos (hbig.2 c)]
    obtain ⟨hi, hhi⟩ : ∃ h, P / 18446744073709551616 = h := ⟨_, rfl⟩
    obtain ⟨lo, hlo⟩ : ∃ h, P % 18446744073709551616 = h := ⟨_, rfl⟩
    have hor : 0 < hi ∨ 2305843009213693952 < lo := by omega
    rw [hhi, hlo] at cM
    clear hhi hlo c hbig ha hb
    obtain ⟨re, im, ex⟩ := a
    obtain ⟨re', im', ex'⟩ := b
    unfold aV dV at *
    dsimp only at *
    go_enter Tryd.func12, Tryd.ntmps12
    go_wp2_with fail
    refine (cA _).mono ?_
    rintro e w1 ⟨rfl, hb1⟩
    have hbw1 := hW.trans (hb1.mono hW.size)
    have hP1 := hP.below hb1
    have hQ1 := hQ.below hb1
    have hR1 := hR.below hb1
    obtain ⟨g0, g1, g2⟩ := hQ1.cells
    clear hb1 cA hP hQ hR hW
    go_wp2_with fail
    refine (cB _).mono ?_
    rintro e w2 ⟨rfl, hb2⟩
    have hbw2 := hbw1.trans (hb2.mono hbw1.size)
    have hP2 := hP1.below hb2
    have hQ2 := hQ1.below hb2
    have hR2 := hR1.below hb2
    clear hb2 cB hP1 hQ1 hR1 hbw1 g0 g1 g2
    obtain ⟨g0, g1, g2⟩ := hQ2.cells
    obtain ⟨f0, f1, f2⟩ := hP2.cells
    go_wp2_with fail
    go_quiet (first | (go_at_call_of 29 re; exact Calls.quiet_of_same (c1 _)) | (go_at_call_of 29 im; exact Calls.quiet_of_same (c2 _)) | (go_at_call_of 29 re'; exact Calls.quiet_of_same (c3 _)) | (go_at_call_of 29 im'; exact Calls.quiet_of_same (c4 _)) | (go_at_call 28; exact Calls.quiet_of_same (cM _)))
    have hbw3 := below_drewN hbw2 nq
    have hP3 := hP2.drewN nq
    have hQ3 := hQ2.drewN nq
    have hR3 := hR2.drewN nq
    generalize w2.drewN nq = w3 at *
    clear hP2 hQ2 hR2 hbw2 f0 f1 f2 g0 g1 g2 c1 c2 c3 c4 cM hm1 hm2
    obtain ⟨g0, g1, g2⟩ := hQ3.cells
    obtain ⟨f0, f1, f2⟩ := hP3.cells
    by_cases hz : 0 < hi
    · have hz' : 0 < (hi : Int) := by omega
      go_wp2_with (refine wpList_store_row rfl _ _ _ rfl (w.heap.size + 2) _ rfl rfl _ _ hR3 (by exact infoD) (by rfl) (allD _ _ _) ?_)
      refine bodyPost_ret (results_ct rfl _ _ (w.heap.size + 2) _ _ _ _ rfl (setRow_heap _ _ _ _ _ _ hR3) Tryd.underlying23 rfl (by exact infoD)) rfl ?_
      exact ⟨rfl, below_setRow hbw3 (by omega) _⟩
    · have hz' : ¬ 0 < (hi : Int) := by omega
      have hz2 : 2305843009213693952 < (lo : Int) := by omega
      go_wp2_with (refine wpList_store_row rfl _ _ _ rfl (w.heap.size + 2) _ rfl rfl _ _ hR3 (by exact infoD) (by rfl) (allD _ _ _) ?_)
      refine bodyPost_ret (results_ct rfl _ _ (w.heap.size + 2) _ _ _ _ rfl (setRow_heap _ _ _ _ _ _ hR3) Tryd.underlying23 rfl (by exact infoD)) rfl ?_
      exact ⟨rfl, below_setRow hbw3 (by omega) _⟩
  · rw [if_neg (fun h => c (hbig.1 h))]
    have hnb : ¬ (big a.re b.re ∨ big a.im b.im ∨ big a.re b.im ∨ big a.im b.re) := fun h => c (hbig.1 h)
    have k1 := not_big (fun h => hnb (.inl h))
    have k2 := not_big (fun h => hnb (.inr (.inl h)))
    have k3 := not_big (fun h => hnb (.inr (.inr (.inl h))))
    have k4 := not_big (fun h => hnb (.inr (.inr (.inr h))))
    obtain ⟨e, he⟩ : ∃ e : Nat, a.ex + b.ex = (e : Int) := ⟨(a.ex + b.ex).toNat, by have := ha.1.2.2; have := hb.1.2.2; omega⟩
    have hzero : a.re * b.re - a.im * b.im = 0 ∧ a.re * b.im + a.im * b.re = 0 → e ≤ 64 := by
      rintro ⟨z1, z2⟩
      have h1 := ha.1.2.2
      have h2 := hb.1.2.2
      rcases prod_zero z1 z2 with ⟨q1, q2⟩ | ⟨q1, q2⟩
      · have := zero_ex ha q1 q2; omega
      · have := zero_ex hb q1 q2; omega
    have cH := fun w hT => yHalved (a.re * b.re - a.im * b.im) (a.re * b.im + a.im * b.re) e ⟨by omega, by omega⟩ ⟨by omega, by omega⟩ (by have := ha.1.2.2; have := hb.1.2.2; omega) hzero w hT
    rw [he, Int.toNat_natCast]
    have hhi : P / 18446744073709551616 = 0 := by omega
    have hlo : P % 18446744073709551616 = P := by omega
    rw [hhi, hlo] at cM
    have hP61 : ¬ 2305843009213693952 < (P : Int) := by omega
    have hwe : IntKind.i64.wrap (e : Int) = (e : Int) := by rw [wrapI]; have := ha.1.2.2; have := hb.1.2.2; omega
    have w1 : IntKind.i64.wrap (a.re * b.re) = a.re * b.re := by rw [wrapI]; omega
    have w2 : IntKind.i64.wrap (a.im * b.im) = a.im * b.im := by rw [wrapI]; omega
    have w3 : IntKind.i64.wrap (a.re * b.im) = a.re * b.im := by rw [wrapI]; omega
    have w4 : IntKind.i64.wrap (a.im * b.re) = a.im * b.re := by rw [wrapI]; omega
    have w5 : IntKind.i64.wrap (a.re * b.re - a.im * b.im) = a.re * b.re - a.im * b.im := by rw [wrapI]; omega
    have w6 : IntKind.i64.wrap (a.re * b.im + a.im * b.re) = a.re * b.im + a.im * b.re := by rw [wrapI]; omega
    generalize ans (mkP e (a.re * b.re - a.im * b.im) (a.re * b.im + a.im * b.re)) = z at *
    obtain ⟨⟨z1, z2, z3⟩, z4⟩ := z
    clear ha hb hzero k1 k2 k3 k4 hnb hbig c hhi hlo
    obtain ⟨re, im, ex⟩ := a
    obtain ⟨re', im', ex'⟩ := b
    unfold aV dV at *
    dsimp only at *
    go_enter Tryd.func12, Tryd.ntmps12
    go_wp2_with fail
    refine (cA _).mono ?_
    rintro e w1 ⟨rfl, hb1⟩
    have hbw1 := hW.trans (hb1.mono hW.size)
    have hP1 := hP.below hb1
    have hQ1 := hQ.below hb1
    have hR1 := hR.below hb1
    obtain ⟨g0, g1, g2⟩ := hQ1.cells
    clear hb1 cA hP hQ hR hW
    go_wp2_with fail
    refine (cB _).mono ?_
    rintro e w2 ⟨rfl, hb2⟩
    have hbw2 := hbw1.trans (hb2.mono hbw1.size)
    have hP2 := hP1.below hb2
    have hQ2 := hQ1.below hb2
    have hR2 := hR1.below hb2
    clear hb2 cB hP1 hQ1 hR1 hbw1 g0 g1 g2
    obtain ⟨g0, g1, g2⟩ := hQ2.cells
    obtain ⟨f0, f1, f2⟩ := hP2.cells
    go_wp2_with fail
    go_quiet (first | (go_at_call_of 29 re; exact Calls.quiet_of_same (c1 _)) | (go_at_call_of 29 im; exact Calls.quiet_of_same (c2 _)) | (go_at_call_of 29 re'; exact Calls.quiet_of_same (c3 _)) | (go_at_call_of 29 im'; exact Calls.quiet_of_same (c4 _)) | (go_at_call 28; exact Calls.quiet_of_same (cM _)))
    have hbw3 := below_drewN hbw2 nq
    have hP3 := hP2.drewN nq
    have hQ3 := hQ2.drewN nq
    have hR3 := hR2.drewN nq
    generalize w2.drewN nq = w3 at *
    clear hP2 hQ2 hR2 hbw2 f0 f1 f2 g0 g1 g2 c1 c2 c3 c4 cM hm1 hm2
    obtain ⟨g0, g1, g2⟩ := hQ3.cells
    obtain ⟨f0, f1, f2⟩ := hP3.cells
    go_wp2_with fail
    refine (cH _ (hT.below hbw3)).mono ?_
    rintro e w4 ⟨rfl, hb4⟩
    have hbw4 := hbw3.trans (hb4.mono hbw3.size)
    have hR4 := hR3.below hb4
    clear hb4 cH hP3 hQ3 hR3 hbw3 f0 f1 f2 g0 g1 g2
    go_wp2_with (refine wpList_store_row rfl _ _ _ rfl (w.heap.size + 2) _ rfl rfl _ _ hR4 (by exact infoD) (by rfl) (allD _ _ _) ?_)
    refine bodyPost_ret (results_ct rfl _ _ (w.heap.size + 2) _ _ _ _ rfl (setRow_heap _ _ _ _ _ _ hR4) Tryd.underlying23 rfl (by exact infoD)) rfl ?_
    exact ⟨rfl, below_setRow hbw4 (by omega) _⟩
theorem yMul (a b : DD) (ha : d64 a) (hb : d64 b) (w : World) (hT : Tz w) : Calls Tryd.prog 12 #[dV a, dV b] w fun x w' => x = .returned (aV (mulR a b)) ∧ Below w.heap.size w w' := by
  unfold mulR
  by_cases c : Rt a ∧ Rt b
  · rw [if_pos c]; exact yMul_ok a b c.1 c.2 w hT
  · rw [if_neg c]; exact yMul_no a b ha hb c w
end Go.Proofs.YthpkmbgollollabDoor.Dy
