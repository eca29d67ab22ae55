/- Whole of any floats, as it is walked. -/
import Derived.Test.YtnpdfkcjjedamaaGreatDoorYc2
import Derived.Test.YtnpdfkcjjedamaaGreatDoorYd
namespace Go.Proofs.YtnpdfkcjjedamaaGreatDoor.Sca
open Go.RowKit Go.Lib Go.Shelf

theorem tsum_q (l : List Nat) (h : l.length ≤ 17592186044416) : -(9223372036854775808 * 18446744073709551616 ^ 33) < tsum l ∧ tsum l < 9223372036854775808 * 18446744073709551616 ^ 33 := by
  have h1 := tsum_small l h 2175 rfl
  have e : (2 : Int) ^ 2175 = 9223372036854775808 * 18446744073709551616 ^ 33 := by decide +kernel
  rw [e] at h1
  exact h1
theorem top_cut (a : List Nat) (hl : a.length = 34) (hlt : ∀ (i : Nat) x, a[i]? = some x → x < 18446744073709551616) : valN a = valN (a.take 33) + 18446744073709551616 ^ 33 * wd a 33 ∧ valN (a.take 33) < 18446744073709551616 ^ 33 := by
  have h1 := valN_take a 33 (by omega)
  rw [show a.take (33 + 1) = a from List.take_of_length_le (by omega)] at h1
  refine ⟨h1, ?_⟩
  have := valN_lt (a.take 33) (fun x hx => by
    obtain ⟨i, hi⟩ := List.getElem?_of_mem hx
    rw [List.getElem?_take] at hi
    split at hi
    · exact hlt i x hi
    · cases hi)
  rw [List.length_take, Nat.min_eq_left (by omega)] at this
  exact this
theorem nat_K (Q V L X : Nat) (T K : Int) (hV : V = L + Q * X) (hL : L < Q) (hX : X < 18446744073709551616) (h1 : -(9223372036854775808 * (Q : Int)) < T) (h2 : T < 9223372036854775808 * (Q : Int)) (hv : (V : Int) = T + K * ((Q : Int) * 18446744073709551616)) :
    (0 ≤ T ∧ (V : Int) = T ∧ X < 9223372036854775808) ∨ (T < 0 ∧ (V : Int) = T + (Q : Int) * 18446744073709551616 ∧ 9223372036854775808 ≤ X) := by
  have hQ : (0 : Int) < Q := by omega
  have hV2 : (V : Int) = (L : Int) + (Q : Int) * X := by rw [hV, Int.natCast_add, Int.natCast_mul]
  have hV0 : (V : Int) < (Q : Int) * 18446744073709551616 := by
    have : (Q : Int) * ((X : Int) + 1) ≤ (Q : Int) * 18446744073709551616 := Int.mul_le_mul_of_nonneg_left (by omega) (by omega)
    rw [Int.mul_add, Int.mul_one] at this
    omega
  have hK : K = 0 ∨ K = 1 := by
    rcases Int.lt_or_le K 0 with h | h
    · exfalso
      have : K * ((Q : Int) * 18446744073709551616) ≤ (-1) * ((Q : Int) * 18446744073709551616) := Int.mul_le_mul_of_nonneg_right (by omega) (by omega)
      omega
    · rcases Int.lt_or_le 1 K with h3 | h3
      · exfalso
        have : 2 * ((Q : Int) * 18446744073709551616) ≤ K * ((Q : Int) * 18446744073709551616) := Int.mul_le_mul_of_nonneg_right (by omega) (by omega)
        omega
      · omega
  have hXs : X < 9223372036854775808 → (V : Int) < 9223372036854775808 * (Q : Int) := fun h => by
    have : (Q : Int) * ((X : Int) + 1) ≤ (Q : Int) * 9223372036854775808 := Int.mul_le_mul_of_nonneg_left (by omega) (by omega)
    rw [Int.mul_add, Int.mul_one] at this
    omega
  have hXb : 9223372036854775808 ≤ X → 9223372036854775808 * (Q : Int) ≤ (V : Int) := fun h => by
    have : (Q : Int) * 9223372036854775808 ≤ (Q : Int) * (X : Int) := Int.mul_le_mul_of_nonneg_left (by omega) (by omega)
    omega
  rcases hK with rfl | rfl
  · left
    rw [Int.zero_mul, Int.add_zero] at hv
    refine ⟨by omega, hv, ?_⟩
    rcases Nat.lt_or_ge X 9223372036854775808 with h | h
    · exact h
    · have := hXb h
      omega
  · right
    rw [Int.one_mul] at hv
    refine ⟨by omega, hv, ?_⟩
    rcases Nat.lt_or_ge X 9223372036854775808 with h | h
    · have := hXs h
      omega
    · exact h
theorem tRound (a : List Nat) (ha : a.length = 34) (hlt : ∀ (i : Nat) x, a[i]? = some x → x < 18446744073709551616) (T K : Int) (h1 : -(9223372036854775808 * 18446744073709551616 ^ 33) < T) (h2 : T < 9223372036854775808 * 18446744073709551616 ^ 33) (hv : val a = T + K * 18446744073709551616 ^ 34) (w : World) :
    Calls Tryz.prog 26 #[.agg (aw a)] w fun e w' => e = .returned (.float .f64 (sgR T)) ∧ Below w.heap.size w w' := by
  obtain ⟨hc1, hc2⟩ := top_cut a ha hlt
  have hX : wd a 33 < 18446744073709551616 := by
    have hx : a[33]? = some (a[33]'(by omega)) := List.getElem?_eq_getElem _
    rw [wd_at hx]
    exact hlt 33 _ hx
  rw [val_nat] at hv
  have hk := nat_K (18446744073709551616 ^ 33) (valN a) (valN (a.take 33)) (wd a 33) T K hc1 hc2 hX (by rw [Int.natCast_pow]; exact h1) (by rw [Int.natCast_pow]; exact h2) (by rw [hv, Int.natCast_pow]; rfl)
  have e34 : (18446744073709551616 : Nat) ^ 34 = 18446744073709551616 ^ 33 * 18446744073709551616 := Nat.pow_succ _ _
  rcases hk with ⟨hT, hV, hX2⟩ | ⟨hT, hV, hX2⟩
  · refine (tRound_pos a ha hlt hX2 w).mono ?_
    rintro e w' ⟨k, htop, rfl, hb⟩
    refine ⟨?_, hb⟩
    rw [rndP_val a k ha hlt htop]
    unfold sgR
    rw [if_neg (by omega), Nat.zero_add, show T.natAbs = valN a from by omega]
  · refine (tRound_neg a ha hlt hX2 w).mono ?_
    rintro e w' ⟨a', k, ha', hlt', hvv, htop, rfl, hb⟩
    refine ⟨?_, hb⟩
    rw [rndP_val a' k ha' hlt' htop]
    unfold sgR
    rw [e34] at hvv
    generalize (18446744073709551616 : Nat) ^ 33 = Q at *
    rw [if_pos (by omega), show T.natAbs = valN a' from by omega]
theorem fin_zero (x : Nat) (hx : x < 18446744073709551616) (hf : mg x < 9218868437227405312) : (slM x = 0 → decide (sb (can x) ≠ 0) = decide (x = 9223372036854775808)) ∧ (slM x ≠ 0 → decide (x = 9223372036854775808) = false) := by
  have hm0 : mg x ≠ 0 → slM x ≠ 0 := fun h e => by
    unfold slM spM at e
    rw [if_pos hf, if_neg h] at e
    have ho := (odd_mul (mOf x) (fun e => h ((mOf_zero x).1 e)) (by have := mOf_lt x; omega)).2
    split at e <;> omega
  constructor
  · intro h
    have hz : mg x = 0 := Decidable.byContradiction (fun c => hm0 c h)
    rw [can_fin x hf]
    have := mg_sb x
    rw [Bool.eq_iff_iff, decide_eq_true_iff, decide_eq_true_iff]
    rcases sb_eq x hx with e | e <;> omega
  · intro h
    refine decide_eq_false (fun e => h ?_)
    subst e
    decide +kernel
theorem tm_inf (x : Nat) (hf : ¬ mg x < 9218868437227405312) : tm x = 0 := by rw [tm_abs, if_neg hf]
set_option maxRecDepth 100000 in
set_option maxHeartbeats 2000000 in
theorem sWhole_some (g off n c : Nat) (bs : List Nat) (w : World) (hn : bs.length = n) (hn1 : n ≤ 17592186044416) (hc : ∀ (i : Nat) x, bs[i]? = some x → w.cell? ⟨g, off + i, none⟩ = some (.float .f64 x)) (hlt : ∀ (i : Nat) x, bs[i]? = some x → x < 18446744073709551616) (hT : Tz w) :
    Calls Tryz.prog 9 #[.slice (some ⟨g, off, none⟩) n c] w fun e w' => ∃ r, e = .returned (.float .f64 r) ∧ r < 18446744073709551616 ∧ can r = wholeC bs ∧ Below w.heap.size w w' := by
  have mixed := mixed_ok
  have h0 := tot_new w
  have hb0 : Below w.heap.size w (w.alloc (.cells zero34 44)) := (Below.refl _ _).alloc (Nat.le_refl _) _
  have HC : Hid (∀ (i : Nat) x, bs[i]? = some x → w.cell? ⟨g, off + i, none⟩ = some (.float .f64 x)) := hc
  have HL : Hid (∀ (i : Nat) x, bs[i]? = some x → x < 18446744073709551616) := hlt
  obtain ⟨b0, hb0d⟩ : ∃ b, decide (0 < n) = b := ⟨_, rfl⟩
  have hb0i : decide ((0 : Int) < (n : Int)) = b0 := by
    rw [← hb0d, Bool.eq_iff_iff, decide_eq_true_iff, decide_eq_true_iff]
    omega
  have HB0 : Hid (b0 = decide (0 < bs.length)) := by
    show _ = _
    rw [← hb0d, hn]
  clear hc hlt
  go_enter Tryz.func9, Tryz.ntmps9
  go_wp2
  clear hb0d hb0i
  generalize w.alloc (.cells zero34 44) = W0 at *
  go_loopw [4, 5, 16] (fun ve vs vi wr => ∃ (k E : Nat) (sg : Bool) (ar : List Nat), ve = .float .f64 E ∧ k ≤ n ∧ vi = .int .i64 (k : Int) ∧ vs = .bool sg ∧ Tot wr w.heap.size ar ∧ Below w.heap.size w wr ∧ Hid (∃ K : Int, val ar = tsum (bs.take k) + K * 18446744073709551616 ^ 34) ∧ Hid (sg = (b0 && ng0 (bs.take k))) ∧ Hid (EOk (es (bs.take k)) E)) (fun _ _ vi _ => n - (Go.RowKit.intOf vi).toNat)
  case atStart => exact ⟨0, 0, b0, List.replicate 34 0, rfl, Nat.zero_le _, rfl, rfl, h0, hb0, ⟨0, by rw [val_zero]; rfl⟩, by show _ = _; cases b0 <;> rfl, .inl ⟨rfl, rfl⟩⟩
  case round =>
    obtain ⟨k, E, sg, ar, rfl, hk, rfl, rfl, hTo, hBe, HV, HS, HE⟩ := hrel
    clear h0 hb0
    by_cases hkn : k < n
    · have hkz : decide ((k : Int) < (n : Int)) = true := decide_eq_true (by omega)
      obtain ⟨x, hx⟩ : ∃ x, bs[k]? = some x := ⟨bs[k]'(by omega), List.getElem?_eq_getElem _⟩
      have hxc := cell_b (HC.out k x hx) hBe
      have hxl := HL.out k x hx
      have htk : bs.take (k + 1) = bs.take k ++ [x] := by rw [List.take_add_one, hx]; rfl
      have cS := sSplit x hxl wr (hT.below hBe)
      have HT1 : Hid (tsum (bs.take (k + 1)) = tsum (bs.take k) + tm x) := tsum_take bs k x hx
      have HN1 : Hid (ng0 (bs.take (k + 1)) = (ng0 (bs.take k) && decide (¬ mg x < 9218868437227405312 ∨ x = 9223372036854775808))) := by show _ = _; rw [htk]; exact ng0_snoc _ x
      have HE1 : Hid (es (bs.take (k + 1)) = eStep (es (bs.take k)) x) := by show _ = _; rw [htk]; exact es_snoc _ x
      clear htk
      by_cases hxf : mg x < 9218868437227405312
      · have hF : spF x = 0 := by unfold spF; rw [if_pos hxf]
        rw [hF] at cS
        have cA := sAdd (slM x) (slE x) w.heap.size ar wr (slM_bd x) (slE_bd2 x) hTo
        have cG := fun w => sSigned x hxl w
        have HTM : Hid (tm x = slM x * 2 ^ (slE x + 1074).toNat) := rfl
        have HZ : Hid ((slM x = 0 → decide (sb (can x) ≠ 0) = decide (x = 9223372036854775808)) ∧ (slM x ≠ 0 → decide (x = 9223372036854775808) = false)) := fin_zero x hxl hxf
        have HE2 : Hid (EOk (es (bs.take (k + 1))) E) := by
          show EOk _ _
          rw [HE1.out, eStep_fin _ hxf]
          exact HE.out
        have HN2 : Hid (ng0 (bs.take (k + 1)) = (ng0 (bs.take k) && decide (x = 9223372036854775808))) := by
          show _ = _
          rw [HN1.out]
          congr 1
          rw [Bool.eq_iff_iff, decide_eq_true_iff, decide_eq_true_iff]
          exact ⟨fun h => h.elim (fun h => absurd hxf h) id, .inr⟩
        clear HE HE1 HN1
        generalize decide (sb (can x) ≠ 0) = gs at *
        generalize slM x = m at *
        generalize slE x = e at *
        clear hxf hF hx
        by_cases hm0 : m = 0
        · have hmz : (m == 0) = true := by rw [beq_iff_eq]; exact hm0
          have HG : Hid (gs = decide (x = 9223372036854775808)) := HZ.out.1 hm0
          clear HZ hm0
          cases sg
          · as_aux_lemma =>
            have HS1 : Hid (false = (b0 && ng0 (bs.take (k + 1)))) := by show _ = _; rw [HN2.out, ← Bool.and_assoc, ← HS.out]; rfl
            go_wp2_with (first | (go_at_call 23; refine cS.mono ?_; rintro e' w' ⟨rfl, hw⟩; obtain rfl := hw.symm))
            refine cA.mono ?_
            rintro e' w1 ⟨rfl, a', hT1, hG1, KK⟩
            have hB1 : Below w.heap.size w w1 := hBe.grown hG1 hBe.size (fun q hq => by cases hq; exact Nat.le_refl _)
            have HV1 : Hid (∃ K : Int, val a' = tsum (bs.take (k + 1)) + K * 18446744073709551616 ^ 34) := by
              obtain ⟨K0, h0⟩ := HV.out
              obtain ⟨K1, h1⟩ := KK
              exact ⟨K0 + K1, by rw [h1, h0, HT1.out, HTM.out, Int.add_mul]; omega⟩
            clear KK hG1 cA hTo hBe HV
            go_wp2
            exact ⟨⟨k + 1, E, false, a', rfl, by omega, by go_num, rfl, hT1, hB1, HV1, HS1, HE2⟩, by simp [Go.RowKit.intOf]; omega⟩
          · as_aux_lemma =>
            have HS1 : Hid (gs = (b0 && ng0 (bs.take (k + 1)))) := by show _ = _; rw [HN2.out, ← Bool.and_assoc, ← HS.out, ← HG.out]; rfl
            go_wp2_with (first | (go_at_call 23; refine cS.mono ?_; rintro e' w' ⟨rfl, hw⟩; obtain rfl := hw.symm))
            refine cA.mono ?_
            rintro e' w1 ⟨rfl, a', hT1, hG1, KK⟩
            have hB1 : Below w.heap.size w w1 := hBe.grown hG1 hBe.size (fun q hq => by cases hq; exact Nat.le_refl _)
            have HV1 : Hid (∃ K : Int, val a' = tsum (bs.take (k + 1)) + K * 18446744073709551616 ^ 34) := by
              obtain ⟨K0, h0⟩ := HV.out
              obtain ⟨K1, h1⟩ := KK
              exact ⟨K0 + K1, by rw [h1, h0, HT1.out, HTM.out, Int.add_mul]; omega⟩
            clear KK hG1 cA hTo hBe HV
            go_wp2_with (go_at_call 25; refine (cG _).mono ?_; rintro e' w' ⟨rfl, hw⟩; obtain rfl := hw.symm)
            exact ⟨⟨k + 1, E, gs, a', rfl, by omega, by go_num, rfl, hT1, hB1, HV1, HS1, HE2⟩, by simp [Go.RowKit.intOf]; omega⟩
        · have hmz : (m == 0) = false := by rw [beq_eq_false_iff_ne]; exact hm0
          have HS1 : Hid (false = (b0 && ng0 (bs.take (k + 1)))) := by show _ = _; rw [HN2.out, HZ.out.2 hm0, Bool.and_false, Bool.and_false]
          clear HZ hm0
          cases sg
          · as_aux_lemma =>
            skip
            go_wp2_with (first | (go_at_call 23; refine cS.mono ?_; rintro e' w' ⟨rfl, hw⟩; obtain rfl := hw.symm))
            refine cA.mono ?_
            rintro e' w1 ⟨rfl, a', hT1, hG1, KK⟩
            have hB1 : Below w.heap.size w w1 := hBe.grown hG1 hBe.size (fun q hq => by cases hq; exact Nat.le_refl _)
            have HV1 : Hid (∃ K : Int, val a' = tsum (bs.take (k + 1)) + K * 18446744073709551616 ^ 34) := by
              obtain ⟨K0, h0⟩ := HV.out
              obtain ⟨K1, h1⟩ := KK
              exact ⟨K0 + K1, by rw [h1, h0, HT1.out, HTM.out, Int.add_mul]; omega⟩
            clear KK hG1 cA hTo hBe HV
            go_wp2
            exact ⟨⟨k + 1, E, false, a', rfl, by omega, by go_num, rfl, hT1, hB1, HV1, HS1, HE2⟩, by simp [Go.RowKit.intOf]; omega⟩
          · as_aux_lemma =>
            skip
            go_wp2_with (first | (go_at_call 23; refine cS.mono ?_; rintro e' w' ⟨rfl, hw⟩; obtain rfl := hw.symm))
            refine cA.mono ?_
            rintro e' w1 ⟨rfl, a', hT1, hG1, KK⟩
            have hB1 : Below w.heap.size w w1 := hBe.grown hG1 hBe.size (fun q hq => by cases hq; exact Nat.le_refl _)
            have HV1 : Hid (∃ K : Int, val a' = tsum (bs.take (k + 1)) + K * 18446744073709551616 ^ 34) := by
              obtain ⟨K0, h0⟩ := HV.out
              obtain ⟨K1, h1⟩ := KK
              exact ⟨K0 + K1, by rw [h1, h0, HT1.out, HTM.out, Int.add_mul]; omega⟩
            clear KK hG1 cA hTo hBe HV
            go_wp2
            exact ⟨⟨k + 1, E, false, a', rfl, by omega, by go_num, rfl, hT1, hB1, HV1, HS1, HE2⟩, by simp [Go.RowKit.intOf]; omega⟩
      · as_aux_lemma =>
        have hF : spF x = 20 := by unfold spF; rw [if_neg hxf]
        rw [hF] at cS
        have HV1 : Hid (∃ K : Int, val ar = tsum (bs.take (k + 1)) + K * 18446744073709551616 ^ 34) := by
          obtain ⟨K, hK⟩ := HV.out
          exact ⟨K, by rw [HT1.out, tm_inf x hxf, Int.add_zero]; exact hK⟩
        have HS1 : Hid (sg = (b0 && ng0 (bs.take (k + 1)))) := by
          show _ = _
          rw [HN1.out, decide_eq_true (.inl hxf), Bool.and_true]
          exact HS.out
        clear HV HS HN1 HT1
        generalize slM x = m at *
        generalize slE x = e at *
        rcases add_end _ E x HE.out hxl hxf with ⟨r, hr, he⟩ | ⟨hr, he⟩
        · as_aux_lemma =>
          have hadd : ∀ t w, (binOp .add t (.float .f64 E) (.float .f64 x)).run Tryz.prog w = .ok (.float .f64 r) w := fun t w => run_float_arith w .add t .f64 E x _ hr
          have HE2 : Hid (EOk (es (bs.take (k + 1))) r) := by show EOk _ _; rw [HE1.out]; exact he
          clear HE HE1 hr he hxf hF hx
          go_wp2_with (first | (go_at_call 23; refine cS.mono ?_; rintro e' w' ⟨rfl, hw⟩; obtain rfl := hw.symm))
          exact ⟨⟨k + 1, r, sg, ar, rfl, by omega, by go_num, rfl, hTo, hBe, HV1, HS1, HE2⟩, by simp [Go.RowKit.intOf]; omega⟩
        · as_aux_lemma =>
          have hadd : ∀ t w, (binOp .add t (.float .f64 E) (.float .f64 x)).run Tryz.prog w = .ok (.float .f64 (nanAt E x w)) w.drew := fun t w => run_float_nan w .add (by simp) t E x hr
          obtain ⟨hn2, hn3⟩ := nanAt_nan E x wr
          have HE2 : Hid (EOk (es (bs.take (k + 1))) (nanAt E x wr)) := by show EOk _ _; rw [HE1.out, he]; exact .inr (.inr (.inr ⟨rfl, hn2, hn3⟩))
          have hTo2 := hTo.drew
          have hBe2 : Below w.heap.size w wr.drew := ⟨hBe.os, hBe.tape, hBe.output, hBe.size, hBe.block⟩
          clear HE HE1 hr he hxf hF hx hn2 hn3
          go_wp2_with (first | (go_at_call 23; refine cS.mono ?_; rintro e' w' ⟨rfl, hw⟩; obtain rfl := hw.symm))
          exact ⟨⟨k + 1, nanAt E x wr, sg, ar, rfl, by omega, by go_num, rfl, hTo2, hBe2, HV1, HS1, HE2⟩, by simp [Go.RowKit.intOf]; omega⟩
    · obtain rfl : k = n := by omega
      rw [show bs.take k = bs from by rw [← hn, List.take_length]] at HV HS HE
      have hen := end_ne _ E HE.out
      by_cases hes : es bs = 0
      · rw [hes, decide_eq_false (by omega)] at hen
        have HSG : Hid (sg = sgB bs) := by show _ = _; rw [HS.out, HB0.out]; rfl
        clear HS HB0 HC HL HE
        cases sg
        · as_aux_lemma =>
          have hq := tsum_q bs (by omega)
          have HW : Hid (can (sgR (tsum bs)) = wholeC bs ∧ sgR (tsum bs) < 18446744073709551616) := by
            have hr := rung_le (tsum bs).natAbs (-1074)
            have hlt2 : sgR (tsum bs) < 18446744073709551616 := by unfold sgR; split <;> omega
            refine ⟨?_, hlt2⟩
            unfold wholeC
            rw [hes, if_neg (by omega), if_neg (by omega), if_neg (by omega), ← HSG.out, if_neg (by simp)]
            refine can_num _ ?_
            unfold sgR mg
            split <;> omega
          obtain ⟨K, hK⟩ := HV.out
          have cR := fun w => tRound ar hTo.len hTo.lt (tsum bs) K hq.1 hq.2 hK w
          have hbk := hTo.blk
          have hsz : (Tryz.prog.info? 44).map (·.size) = some (aw ar).size := by rw [aw_size, hTo.len]; kernel_rfl
          clear HV hq hK hT HSG hes
          generalize sgR (tsum bs) = R at *
          go_wp2_with (refine wpList_load_row rfl 44 _ rfl w.heap.size rfl 44 (aw ar) (0, 0) _ hbk Tryz.underlying44 rfl hsz ?_)
          refine (cR _).mono ?_
          rintro e' w1 ⟨rfl, hB1⟩
          go_wp2
          go_ret
          exact ⟨R, rfl, HW.out.2, HW.out.1, hBe.trans (hB1.mono hBe.size)⟩
        · as_aux_lemma =>
          have HW : Hid (can 9223372036854775808 = wholeC bs) := by
            show _ = _
            unfold wholeC
            rw [hes, if_neg (by omega), if_neg (by omega), if_neg (by omega), ← HSG.out, if_pos rfl]
            decide +kernel
          have cO := fun w => sOf 9223372036854775808 w
          clear HV hT HSG hes
          go_wp2_with fail
          refine (cO _).mono ?_
          rintro e' w1 ⟨rfl, hw⟩
          obtain rfl := hw.symm
          go_wp2
          go_ret
          exact ⟨9223372036854775808, rfl, by omega, HW.out, hBe⟩
      · as_aux_lemma =>
        rw [decide_eq_true hes] at hen
        have HW : Hid (can E = wholeC bs ∧ E < 18446744073709551616) := by
          have hE := HE.out
          refine ⟨?_, hE.lt⟩
          rcases hE with ⟨h, _⟩ | ⟨h, rfl⟩ | ⟨h, rfl⟩ | ⟨h, h1, h2⟩
          · exact absurd h hes
          · unfold wholeC
            rw [h, if_neg (by omega), if_pos rfl]
            decide +kernel
          · unfold wholeC
            rw [h, if_neg (by omega), if_neg (by omega), if_pos rfl]
            decide +kernel
          · unfold wholeC
            rw [h, if_pos rfl]
            exact can_nan E h1
        clear HV hT HS HB0 HC HL HE hes
        go_wp2
        go_ret
        exact ⟨E, rfl, HW.out.2, HW.out.1, hBe⟩
end Go.Proofs.YtnpdfkcjjedamaaGreatDoor.Sca
