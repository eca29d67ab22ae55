/- The document's Whole, as it is walked. -/
import Derived.Test.YtnpdfkcjjedamaaGreatDoorZf
import Derived.Test.YtnpdfkcjjedamaaGreatDoorZa
import Derived.Test.YtnpdfkcjjedamaaGreatDoorQc
namespace Go.Proofs.YtnpdfkcjjedamaaGreatDoor.Sca
open Go.RowKit Go.Lib Go.Shelf Go.Proofs.YtnpdfkcjjedamaaGreatDoor.Oct

theorem make72 (w : World) : (Instr.makeSlice 50 (.int .i64 72) (.int .i64 72)).run Tryz.prog w = .ok (.slice (some ⟨w.heap.size, 0, none⟩) 72 72) (w.alloc (.cells (qv (List.replicate 72 0)) 2)) := by kernel_rfl
theorem valq_zero : valq (List.replicate 72 0) = 0 := by decide +kernel
set_option maxRecDepth 100000 in
set_option maxHeartbeats 4000000 in
theorem qWhole (ao : Option Addr) (n c : Nat) (bs : List Nat) (w : World) (hn : bs.length = n) (hn1 : n ≤ 17592186044416) (hF : Fl w ao bs) (hlt : ∀ x ∈ bs, x < 18446744073709551616) :
    Calls Tryz.prog 13 #[.slice ao n c] w fun e w' => ∃ r, e = .returned (.float .f64 r) ∧ r < 18446744073709551616 ∧ can r = wholeC bs ∧ Below w.heap.size w w' := by
  have mixed := mixed_ok
  have hmk := make72
  have h0 : Qw (w.alloc (.cells (qv (List.replicate 72 0)) 2)) w.heap.size (List.replicate 72 0) := ⟨rfl, heap_alloc_new w _⟩
  have hb0 : Below w.heap.size w (w.alloc (.cells (qv (List.replicate 72 0)) 2)) := (Below.refl _ _).alloc (Nat.le_refl _) _
  have HF : Hid (Fl w ao bs) := hF
  have HL : Hid (∀ x ∈ bs, x < 18446744073709551616) := hlt
  obtain ⟨b0, hb0d⟩ : ∃ b, decide (0 < n) = b := ⟨_, rfl⟩
  have hb0i : decide ((0 : Int) < (n : Int)) = b0 := by
    rw [← hb0d, Bool.eq_iff_iff, decide_eq_true_iff, decide_eq_true_iff]
    omega
  have HB0 : Hid (b0 = decide (0 < bs.length)) := by
    show _ = _
    rw [← hb0d, hn]
  clear hF hlt
  generalize hZ : qv (List.replicate 72 0) = Z at *
  clear hZ
  go_enter Tryz.func13, Tryz.ntmps13
  go_wp2
  clear hb0d hb0i hmk
  generalize w.alloc (.cells Z 2) = W0 at *
  go_loopw [4, 5, 6, 7] (fun vu vd vn vi wr => ∃ (k : Nat) (up dn nn : Bool) (ar : List Int), vu = .bool up ∧ vd = .bool dn ∧ vn = .bool nn ∧ vi = .int .i64 (k : Int) ∧ k ≤ n ∧ Qw wr w.heap.size ar ∧ Below w.heap.size w wr ∧ Hid (valq ar = tsum (bs.take k)) ∧ Hid (∀ (j : Nat) x, ar[j]? = some x → -(4294967296 * (((k % 1000 : Nat) : Int) + 1)) ≤ x ∧ x ≤ 4294967296 * (((k % 1000 : Nat) : Int) + 1)) ∧ Hid (up = (bs.take k).any pinf) ∧ Hid (dn = (bs.take k).any minf) ∧ Hid ((bs.take k).any nanB = false) ∧ Hid (nn = (b0 && al0 (bs.take k)))) (fun _ _ _ vi _ => n - (Go.RowKit.intOf vi).toNat)
  case atStart =>
    refine ⟨0, false, false, b0, List.replicate 72 0, rfl, rfl, rfl, rfl, Nat.zero_le _, h0, hb0, by show _ = _; rw [valq_zero]; rfl, fun j x hj => ?_, rfl, rfl, rfl, by show _ = _; cases b0 <;> rfl⟩
    rw [List.getElem?_replicate] at hj
    split at hj
    · cases hj; decide
    · cases hj
  case round =>
    obtain ⟨k, up, dn, nn, ar, rfl, rfl, rfl, rfl, hk, hQ, hBe, HV, HBd0, HU, HD, HA, HN⟩ := hrel
    clear h0 hb0
    by_cases hkn : k < n
    · have hkz : decide ((k : Int) < (n : Int)) = true := decide_eq_true (by omega)
      obtain ⟨x, hx⟩ : ∃ x, bs[k]? = some x := ⟨bs[k]'(by omega), List.getElem?_eq_getElem _⟩
      have hne : bs ≠ [] := fun e => by rw [e] at hx; simp at hx
      obtain ⟨g, off, rfl, hcell⟩ := HF.out.resolve_left hne
      have hxc := cell_b (hcell k x hx) hBe
      have hxm := List.mem_of_getElem? hx
      have hxl := HL.out x hxm
      have htk : bs.take (k + 1) = bs.take k ++ [x] := by rw [List.take_add_one, hx]; rfl
      have cB := fun w => qBits x hxl w
      have cF := fun w => qFinite x hxl w
      have HT1 : Hid (tsum (bs.take (k + 1)) = tsum (bs.take k) + tm x) := tsum_take bs k x hx
      have HQ : Hid (-(4294967296 ^ 71) < tsum (bs.take (k + 1)) ∧ tsum (bs.take (k + 1)) < 4294967296 ^ 71) := tsum_q71 _ (by rw [List.length_take]; omega)
      by_cases hnan : 9218868437227405312 < mg x
      · as_aux_lemma =>
          rw [can_nan x hnan] at cB
          have HR : Hid (can x = wholeC bs) := by show _ = _; rw [can_nan x hnan, wholeC_3 (es_nan bs x hxm hnan)]
          clear htk hcell hne hx hxm HT1 HQ HV HBd0 HU HD HA HN hnan cF
          go_wp2_with (first | (go_at_call 28; refine (cB _).mono ?_; rintro e' w' ⟨rfl, hw⟩; obtain rfl := hw.symm))
          go_ret
          exact ⟨x, rfl, hxl, HR.out, hBe⟩
      rw [can_num x hnan] at cB
      have HA2 : Hid ((bs.take (k + 1)).any nanB = false) := by show _ = _; rw [htk, any_snoc, HA.out, show nanB x = false from decide_eq_false hnan]; rfl
      have hb1 : ((x : Int) == 9221120237041090561) = false := by
        rw [beq_eq_false_iff_ne]
        intro e
        have : x = 9221120237041090561 := by omega
        rw [this] at hnan
        exact hnan (by decide +kernel)
      obtain ⟨md, hmd⟩ : ∃ md, k % 1000 = md := ⟨_, rfl⟩
      have hmz : (k : Int) % 1000 = (md : Int) := by omega
      have hmdl : md < 1000 := by omega
      have HBd : Hid (∀ (j : Nat) x, ar[j]? = some x → -(4294967296 * ((md : Int) + 1)) ≤ x ∧ x ≤ 4294967296 * ((md : Int) + 1)) := by rw [← hmd]; exact HBd0
      clear HBd0
      by_cases hxf : mg x < 9218868437227405312
      · rw [decide_eq_true hxf] at cF
        have hP : ((x : Int) == 9218868437227405312) = false := by
          rw [beq_eq_false_iff_ne]
          intro e
          have : x = 9218868437227405312 := by omega
          rw [this] at hxf
          revert hxf
          decide +kernel
        have hM : ((x : Int) == 18442240474082181120) = false := by
          rw [beq_eq_false_iff_ne]
          intro e
          have : x = 18442240474082181120 := by omega
          rw [this] at hxf
          revert hxf
          decide +kernel
        obtain ⟨sx, hsx⟩ : ∃ sx, ((x : Int) == 9223372036854775808) = sx := ⟨_, rfl⟩
        have HSX : Hid (decide (x = 9223372036854775808) = sx) := by
          show _ = _
          rw [← hsx, Bool.eq_iff_iff, decide_eq_true_iff, beq_iff_eq]
          omega
        have HU2 : Hid (up = (bs.take (k + 1)).any pinf) := by show _ = _; rw [htk, any_snoc, ← HU.out, show pinf x = false from decide_eq_false (by omega), Bool.or_false]
        have HD2 : Hid (dn = (bs.take (k + 1)).any minf) := by show _ = _; rw [htk, any_snoc, ← HD.out, show minf x = false from decide_eq_false (by omega), Bool.or_false]
        have HN2 : Hid ((nn && sx) = (b0 && al0 (bs.take (k + 1)))) := by show _ = _; rw [htk, al0_snoc, HSX.out, ← Bool.and_assoc, ← HN.out]
        have cPa := fun w => qParts x hxl hxf w
        have cSi := fun w => qSigned x hxl w
        have HTM : Hid ((if decide (sb (can x) ≠ 0) = true then -((mOf x * 2 ^ (pOf x + 1074).toNat : Nat) : Int) else ((mOf x * 2 ^ (pOf x + 1074).toNat : Nat) : Int)) = tm x) := tm_parts x hxf
        have hp971 : pOf x ≤ 971 := by unfold pOf; omega
        have cA := qAdd w.heap.size 72 (mOf x) (pOf x) (decide (sb (can x) ≠ 0)) ar wr (mOf_lt x) (pOf_ge x) hp971 (fun j x hj => by have := HBd.out j x hj; omega) hQ
        generalize decide (sb (can x) ≠ 0) = gs at *
        clear htk hcell hne hx hxm hnan hxf HU HD HN HA HSX
        generalize mOf x = mm at *
        generalize pOf x = pp at *
        clear hp971
        by_cases h999 : md = 999
        · have hmq : ((md : Int) == 999) = true := by rw [beq_iff_eq]; omega
          cases up <;> cases dn <;> cases nn
          all_goals
            as_aux_lemma =>
              go_wp2_with (first | (go_at_call 28; refine (cB _).mono ?_; rintro e' w' ⟨rfl, hw⟩; obtain rfl := hw.symm) | (go_at_call 29; refine (cF _).mono ?_; rintro e' w' ⟨rfl, hw⟩; obtain rfl := hw.symm) | (go_at_call 30; refine (cPa _).mono ?_; rintro e' w' ⟨rfl, hw⟩; obtain rfl := hw.symm) | (go_at_call 32; refine (cSi _).mono ?_; rintro e' w' ⟨rfl, hw⟩; obtain rfl := hw.symm))
              refine cA.mono ?_
              rintro e' w1 ⟨rfl, a', hQ1, hG1, hV1, hD1⟩
              have hB1 : Below w.heap.size w w1 := hBe.grown hG1 hBe.size (fun q hq => by cases hq; exact Nat.le_refl _)
              have HV1 : Hid (valq a' = tsum (bs.take (k + 1))) := by show _ = _; rw [hV1, HV.out, HT1.out, ← HTM.out]
              have HB1 : Hid (∀ (j : Nat) x, a'[j]? = some x → -(4294967296 * ((md : Int) + 2)) ≤ x ∧ x ≤ 4294967296 * ((md : Int) + 2)) := fun j x hj => by
                obtain ⟨x0, hx0⟩ := list_at ar j (by have := (List.getElem?_eq_some_iff.1 hj).1; rw [hQ1.len] at this; rw [hQ.len]; exact this)
                have h1 := hD1 j x x0 hj hx0
                have h2 := HBd.out j x0 hx0
                omega
              clear hV1 hD1 hG1 cA hQ hBe HV HBd
              have cC := qCarried w.heap.size 72 a' w1 (fun j x hj => by have := HB1.out j x hj; omega) hQ1
              go_wp2_with fail
              refine cC.mono ?_
              rintro e' w2 ⟨rfl, a2, hQ2, hG2, hV2, hN2⟩
              have hB2 : Below w.heap.size w w2 := hB1.grown hG2 hB1.size (fun q hq => by cases hq; exact Nat.le_refl _)
              have HV2 : Hid (valq a2 = tsum (bs.take (k + 1))) := by show _ = _; rw [hV2, HV1.out]
              have HB2 : Hid (∀ (j : Nat) x, a2[j]? = some x → -(4294967296 * ((((k + 1) % 1000 : Nat) : Int) + 1)) ≤ x ∧ x ≤ 4294967296 * ((((k + 1) % 1000 : Nat) : Int) + 1)) := fun j x hj => by
                have := bd_carried a2 hQ2.len hN2 _ HV2.out HQ.out.1 HQ.out.2 j x hj
                have h0 : (k + 1) % 1000 = 0 := by omega
                rw [h0]
                omega
              clear hG2 hV2 hN2 cC
              go_wp2
              exact ⟨⟨k + 1, _, _, _, a2, rfl, rfl, rfl, by go_num, by omega, hQ2, hB2, HV2, HB2, HU2, HD2, HA2, HN2⟩, by simp [Go.RowKit.intOf]; omega⟩
        · have hmq : ((md : Int) == 999) = false := by rw [beq_eq_false_iff_ne]; omega
          cases up <;> cases dn <;> cases nn
          all_goals
            as_aux_lemma =>
              go_wp2_with (first | (go_at_call 28; refine (cB _).mono ?_; rintro e' w' ⟨rfl, hw⟩; obtain rfl := hw.symm) | (go_at_call 29; refine (cF _).mono ?_; rintro e' w' ⟨rfl, hw⟩; obtain rfl := hw.symm) | (go_at_call 30; refine (cPa _).mono ?_; rintro e' w' ⟨rfl, hw⟩; obtain rfl := hw.symm) | (go_at_call 32; refine (cSi _).mono ?_; rintro e' w' ⟨rfl, hw⟩; obtain rfl := hw.symm))
              refine cA.mono ?_
              rintro e' w1 ⟨rfl, a', hQ1, hG1, hV1, hD1⟩
              have hB1 : Below w.heap.size w w1 := hBe.grown hG1 hBe.size (fun q hq => by cases hq; exact Nat.le_refl _)
              have HV1 : Hid (valq a' = tsum (bs.take (k + 1))) := by show _ = _; rw [hV1, HV.out, HT1.out, ← HTM.out]
              have HB1 : Hid (∀ (j : Nat) x, a'[j]? = some x → -(4294967296 * ((md : Int) + 2)) ≤ x ∧ x ≤ 4294967296 * ((md : Int) + 2)) := fun j x hj => by
                obtain ⟨x0, hx0⟩ := list_at ar j (by have := (List.getElem?_eq_some_iff.1 hj).1; rw [hQ1.len] at this; rw [hQ.len]; exact this)
                have h1 := hD1 j x x0 hj hx0
                have h2 := HBd.out j x0 hx0
                omega
              clear hV1 hD1 hG1 cA hQ hBe HV HBd
              have HB2 : Hid (∀ (j : Nat) x, a'[j]? = some x → -(4294967296 * ((((k + 1) % 1000 : Nat) : Int) + 1)) ≤ x ∧ x ≤ 4294967296 * ((((k + 1) % 1000 : Nat) : Int) + 1)) := fun j x hj => by
                have := HB1.out j x hj
                have h0 : (k + 1) % 1000 = md + 1 := by omega
                rw [h0]
                omega
              go_wp2
              exact ⟨⟨k + 1, _, _, _, a', rfl, rfl, rfl, by go_num, by omega, hQ1, hB1, HV1, HB2, HU2, HD2, HA2, HN2⟩, by simp [Go.RowKit.intOf]; omega⟩
      · rw [decide_eq_false hxf] at cF
        have hm : mg x = 9218868437227405312 := by omega
        have HVn : Hid (valq ar = tsum (bs.take (k + 1))) := by show _ = _; rw [HT1.out, tm_inf x hxf, Int.add_zero]; exact HV.out
        have hsg : decide (x = 9223372036854775808) = false := decide_eq_false (fun e => by rw [e] at hm; revert hm; decide +kernel)
        have HN2 : Hid (false = (b0 && al0 (bs.take (k + 1)))) := by show _ = _; rw [htk, al0_snoc, hsg, Bool.and_false, Bool.and_false]
        have cC := qCarried w.heap.size 72 ar wr (fun j x hj => by have := HBd.out j x hj; omega) hQ
        have HBn : Hid (md ≠ 999 → ∀ (j : Nat) x, ar[j]? = some x → -(4294967296 * ((((k + 1) % 1000 : Nat) : Int) + 1)) ≤ x ∧ x ≤ 4294967296 * ((((k + 1) % 1000 : Nat) : Int) + 1)) := fun h999 j x hj => by
          have := HBd.out j x hj
          have h0 : (k + 1) % 1000 = md + 1 := by omega
          rw [h0]
          omega
        have HBm := HBn
        clear HBn
        rcases inf_two x hxl hm with ⟨hs, rfl⟩ | ⟨hs, rfl⟩
        · have HU2 : Hid (true = (bs.take (k + 1)).any pinf) := by
            show _ = _
            rw [htk, any_snoc, show pinf 9218868437227405312 = true from by decide +kernel]
            rw [Bool.or_true]
          have HD2 : Hid (dn = (bs.take (k + 1)).any minf) := by
            show _ = _
            rw [htk, any_snoc, ← HD.out, show minf 9218868437227405312 = false from by decide +kernel]
            rw [Bool.or_false]
          clear htk hcell hne hx hxm hnan hxf HU HD HN HA hm hs hsg hxl HT1 HV hb1
          by_cases h999 : md = 999
          · have hmq : ((md : Int) == 999) = true := by rw [beq_iff_eq]; omega
            cases up <;> cases dn <;> cases nn
            all_goals
              as_aux_lemma =>
                go_wp2_with (first | (go_at_call 28; refine (cB _).mono ?_; rintro e' w' ⟨rfl, hw⟩; obtain rfl := hw.symm) | (go_at_call 29; refine (cF _).mono ?_; rintro e' w' ⟨rfl, hw⟩; obtain rfl := hw.symm))
                refine cC.mono ?_
                rintro e' w2 ⟨rfl, a2, hQ2, hG2, hV2, hN2⟩
                have hB2 : Below w.heap.size w w2 := hBe.grown hG2 hBe.size (fun q hq => by cases hq; exact Nat.le_refl _)
                have HV2 : Hid (valq a2 = tsum (bs.take (k + 1))) := by show _ = _; rw [hV2, HVn.out]
                have HB2 : Hid (∀ (j : Nat) x, a2[j]? = some x → -(4294967296 * ((((k + 1) % 1000 : Nat) : Int) + 1)) ≤ x ∧ x ≤ 4294967296 * ((((k + 1) % 1000 : Nat) : Int) + 1)) := fun j x hj => by
                  have := bd_carried a2 hQ2.len hN2 _ HV2.out HQ.out.1 HQ.out.2 j x hj
                  have h0 : (k + 1) % 1000 = 0 := by omega
                  rw [h0]
                  omega
                clear hG2 hV2 hN2 cC
                go_wp2
                exact ⟨⟨k + 1, _, _, _, a2, rfl, rfl, rfl, by go_num, by omega, hQ2, hB2, HV2, HB2, HU2, HD2, HA2, HN2⟩, by simp [Go.RowKit.intOf]; omega⟩
          · have hmq : ((md : Int) == 999) = false := by rw [beq_eq_false_iff_ne]; omega
            have HBn := hide (HBm.out h999)
            clear HBm cC
            cases up <;> cases dn <;> cases nn
            all_goals
              as_aux_lemma =>
                go_wp2_with (first | (go_at_call 28; refine (cB _).mono ?_; rintro e' w' ⟨rfl, hw⟩; obtain rfl := hw.symm) | (go_at_call 29; refine (cF _).mono ?_; rintro e' w' ⟨rfl, hw⟩; obtain rfl := hw.symm))
                exact ⟨⟨k + 1, _, _, _, ar, rfl, rfl, rfl, by go_num, by omega, hQ, hBe, HVn, HBn, HU2, HD2, HA2, HN2⟩, by simp [Go.RowKit.intOf]; omega⟩
        · have HU2 : Hid (up = (bs.take (k + 1)).any pinf) := by
            show _ = _
            rw [htk, any_snoc, ← HU.out, show pinf 18442240474082181120 = false from by decide +kernel]
            rw [Bool.or_false]
          have HD2 : Hid (true = (bs.take (k + 1)).any minf) := by
            show _ = _
            rw [htk, any_snoc, show minf 18442240474082181120 = true from by decide +kernel]
            rw [Bool.or_true]
          clear htk hcell hne hx hxm hnan hxf HU HD HN HA hm hs hsg hxl HT1 HV hb1
          by_cases h999 : md = 999
          · have hmq : ((md : Int) == 999) = true := by rw [beq_iff_eq]; omega
            cases up <;> cases dn <;> cases nn
            all_goals
              as_aux_lemma =>
                go_wp2_with (first | (go_at_call 28; refine (cB _).mono ?_; rintro e' w' ⟨rfl, hw⟩; obtain rfl := hw.symm) | (go_at_call 29; refine (cF _).mono ?_; rintro e' w' ⟨rfl, hw⟩; obtain rfl := hw.symm))
                refine cC.mono ?_
                rintro e' w2 ⟨rfl, a2, hQ2, hG2, hV2, hN2⟩
                have hB2 : Below w.heap.size w w2 := hBe.grown hG2 hBe.size (fun q hq => by cases hq; exact Nat.le_refl _)
                have HV2 : Hid (valq a2 = tsum (bs.take (k + 1))) := by show _ = _; rw [hV2, HVn.out]
                have HB2 : Hid (∀ (j : Nat) x, a2[j]? = some x → -(4294967296 * ((((k + 1) % 1000 : Nat) : Int) + 1)) ≤ x ∧ x ≤ 4294967296 * ((((k + 1) % 1000 : Nat) : Int) + 1)) := fun j x hj => by
                  have := bd_carried a2 hQ2.len hN2 _ HV2.out HQ.out.1 HQ.out.2 j x hj
                  have h0 : (k + 1) % 1000 = 0 := by omega
                  rw [h0]
                  omega
                clear hG2 hV2 hN2 cC
                go_wp2
                exact ⟨⟨k + 1, _, _, _, a2, rfl, rfl, rfl, by go_num, by omega, hQ2, hB2, HV2, HB2, HU2, HD2, HA2, HN2⟩, by simp [Go.RowKit.intOf]; omega⟩
          · have hmq : ((md : Int) == 999) = false := by rw [beq_eq_false_iff_ne]; omega
            have HBn := hide (HBm.out h999)
            clear HBm cC
            cases up <;> cases dn <;> cases nn
            all_goals
              as_aux_lemma =>
                go_wp2_with (first | (go_at_call 28; refine (cB _).mono ?_; rintro e' w' ⟨rfl, hw⟩; obtain rfl := hw.symm) | (go_at_call 29; refine (cF _).mono ?_; rintro e' w' ⟨rfl, hw⟩; obtain rfl := hw.symm))
                exact ⟨⟨k + 1, _, _, _, ar, rfl, rfl, rfl, by go_num, by omega, hQ, hBe, HVn, HBn, HU2, HD2, HA2, HN2⟩, by simp [Go.RowKit.intOf]; omega⟩
    · as_aux_lemma =>
      obtain rfl : k = n := by omega
      rw [show bs.take k = bs from by rw [← hn, List.take_length]] at HV HU HD HA HN
      have HES : Hid (es bs = if (up && dn) then 3 else if up then 1 else if dn then 2 else 0) := by show _ = _; rw [es_of bs HA.out, ← HU.out, ← HD.out]
      have hq := tsum_q71 bs (by omega)
      have HQ : Hid (-(4294967296 ^ 71) < tsum bs ∧ tsum bs < 4294967296 ^ 71) := hq
      have hmdl : k % 1000 < 1000 := Nat.mod_lt _ (by decide)
      have cC := qCarried w.heap.size 72 ar wr (fun j x hj => by have := HBd0.out j x hj; omega) hQ
      clear hq HU HD HA HBd0 HF HL hmdl
      cases up <;> cases dn
      · have hes : es bs = 0 := HES.out
        have HW : Hid (wholeC bs = if nn then 9223372036854775808 else sgR (tsum bs)) := by show _ = _; rw [wholeC_0 hes, ← al0_ng0 bs hes, ← HB0.out, ← HN.out]
        have HNZ : Hid (nn = true → tsum bs = 0) := fun h => al0_sum bs (by
          have := HN.out
          rw [h] at this
          rw [eq_comm, Bool.and_eq_true] at this
          exact this.2)
        clear hes HES HN HB0
        go_wp2_with fail
        refine cC.mono ?_
        rintro e' w1 ⟨rfl, a1, hQ1, hG1, hV1, hN1⟩
        have hB1 : Below w.heap.size w w1 := hBe.grown hG1 hBe.size (fun q hq => by cases hq; exact Nat.le_refl _)
        have hVT : valq a1 = tsum bs := hV1.trans HV.out
        have HBD : Hid (∀ (j : Nat) x, a1[j]? = some x → -4294967296 ≤ x ∧ x ≤ 4294967296) := bd_carried a1 hQ1.len hN1 _ hVT HQ.out.1 HQ.out.2
        obtain ⟨z, hz, hcase⟩ := words_of a1 hQ1.len hN1 _ hVT HQ.out.1 HQ.out.2
        have hzc := hQ1.cell 71 z hz
        have HVT : Hid (valq a1 = tsum bs) := hVT
        clear cC hG1 hV1 hN1 hVT hz HV hQ hBe
        rcases hcase with ⟨hT0, rfl, l, rfl, hl72, hllt, hpv⟩ | ⟨hT0, rfl⟩
        · have cL := qLeading w.heap.size 72 l w1 hl72 hllt hQ1
          have HNA : Hid ((tsum bs).natAbs = pvn l ∧ ¬ tsum bs < 0) := ⟨by omega, by omega⟩
          have hrl := rung_le (pvn l) (-1074)
          clear hl72 hllt HVT HBD HQ hpv hT0
          cases nn
          · have HR : Hid (can (rung (pvn l) (-1074)) = wholeC bs) := by
              show _ = _
              rw [HW.out, if_neg (by simp)]
              unfold sgR
              rw [if_neg HNA.out.2, HNA.out.1, Nat.zero_add]
              exact can_num _ (by unfold mg; omega)
            clear HW HNZ HNA
            generalize rung (pvn l) (-1074) = R at *
            go_wp2_with fail
            refine cL.mono ?_
            rintro e2 w2 ⟨rfl, q, rfl⟩
            go_wp2
            go_ret
            exact ⟨R, rfl, by omega, HR.out, below_drewN hB1 q⟩
          · have hp0 : pvn l = 0 := by
              have h1 := HNZ.out rfl
              have h2 := HNA.out.1
              rw [h1] at h2
              exact h2.symm
            rw [hp0, show rung 0 (-1074) = 0 from rfl] at cL
            have HR : Hid (can 9223372036854775808 = wholeC bs) := by
              show _ = _
              rw [HW.out, if_pos rfl]
              decide +kernel
            have cB := fun w => qBits 0 (by decide) w
            rw [show can 0 = 0 from by decide +kernel] at cB
            have cO := fun w => qOf 9223372036854775808 w
            have hor : bits .or .u64 0 9223372036854775808 = 9223372036854775808 := by decide +kernel
            clear HW HNZ HNA hp0 hrl
            go_wp2_with fail
            refine cL.mono ?_
            rintro e2 w2 ⟨rfl, q, hq⟩
            have hB2 : Below w.heap.size w w2 := by rw [hq]; exact below_drewN hB1 q
            clear hq cL
            go_wp2_with fail
            refine (cB _).mono ?_
            rintro e3 w3 ⟨rfl, hw⟩
            obtain rfl := hw.symm
            go_wp2_with fail
            refine (cO _).mono ?_
            rintro e4 w4 ⟨rfl, hw⟩
            obtain rfl := hw.symm
            go_wp2
            go_ret
            exact ⟨9223372036854775808, rfl, by omega, HR.out, hB2⟩
        · have hnn : nn = false := by
            cases nn
            · rfl
            · have := HNZ.out rfl
              omega
          subst hnn
          have HT0 : Hid (tsum bs < 0) := hT0
          have hlen1 := hQ1.len
          clear hT0 HNZ
          go_wp2
          go_loopw [12] (fun vi wr => ∃ (i : Nat) (ar2 : List Int), vi = .int .i64 (i : Int) ∧ i ≤ 72 ∧ Qw wr w.heap.size ar2 ∧ Below w.heap.size w wr ∧ Hid (∀ j, j < i → ar2[j]? = (a1[j]?).map (fun x => -x)) ∧ Hid (∀ j, i ≤ j → ar2[j]? = a1[j]?)) (fun vi _ => 72 - (Go.RowKit.intOf vi).toNat)
          case atStart => exact ⟨0, a1, rfl, by omega, hQ1, hB1, fun j hj => absurd hj (Nat.not_lt_zero _), fun _ _ => rfl⟩
          case round =>
            obtain ⟨i, ar2, rfl, hi, hQ2, hB2, HL1, HG1⟩ := hrel
            clear hQ1 hB1 hzc
            by_cases hi72 : i < 72
            · have hiz : decide ((i : Int) < 72) = true := decide_eq_true (by omega)
              have hi0 : (0 : Int) ≤ (i : Int) := by omega
              have hi1 : (i : Int) < 72 := by omega
              obtain ⟨x, hx, hxc⟩ := hQ2.at i hi72
              have hxa : a1[i]? = some x := by rw [← HG1.out i (Nat.le_refl _)]; exact hx
              have hxb := HBD.out i x hxa
              have hxf := hQ2.free i
              have hQ3 := hQ2.set i (-x)
              have hB3 : Below w.heap.size w (wr.setCell ⟨w.heap.size, i, none⟩ (.int .i64 (-x))) := hB2.setCell (Nat.le_refl _) _
              have HL2 : Hid (∀ j, j < i + 1 → (ar2.set i (-x))[j]? = (a1[j]?).map (fun x => -x)) := fun j hj => by
                by_cases e : i = j
                · subst e
                  rw [List.getElem?_set_self (by rw [hQ2.len]; omega), hxa]
                  rfl
                · rw [List.getElem?_set_ne e]
                  exact HL1.out j (by omega)
              have HG2 : Hid (∀ j, i + 1 ≤ j → (ar2.set i (-x))[j]? = a1[j]?) := fun j hj => by
                rw [List.getElem?_set_ne (by omega)]
                exact HG1.out j (by omega)
              have hneg : IntKind.i64.wrap (0 - x) = -x := by simp [IntKind.wrap, IntKind.bits, IntKind.signed]; omega
              obtain ⟨nx, hnx⟩ : ∃ nx, -x = nx := ⟨_, rfl⟩
              rw [hnx] at hQ3 hB3 HL2 HG2 hneg
              clear hQ2 hB2 HL1 HG1 hx hxa
              go_wp2
              generalize wr.setCell ⟨w.heap.size, i, none⟩ (.int .i64 nx) = wz at *
              exact ⟨⟨i + 1, ar2.set i nx, by go_num, by omega, hQ3, hB3, HL2, HG2⟩, by simp [Go.RowKit.intOf]; omega⟩
            · obtain rfl : i = 72 := by omega
              have ham : ar2 = a1.map (fun x => -x) := by
                apply List.ext_getElem?
                intro j
                rw [List.getElem?_map]
                by_cases hj : j < 72
                · exact HL1.out j hj
                · rw [List.getElem?_eq_none (by rw [hQ2.len]; omega), List.getElem?_eq_none (by omega)]
                  rfl
              have HVN : Hid (valq ar2 = -tsum bs) := by show _ = _; rw [ham, valq_neg, HVT.out]
              have cC2 := qCarried w.heap.size 72 ar2 wr (fun j x hj => by
                rw [ham, List.getElem?_map] at hj
                cases hy : a1[j]? with
                | none => rw [hy] at hj; cases hj
                | some y =>
                  rw [hy, Option.map_some] at hj
                  have := HBD.out j y hy
                  have e : -y = x := Option.some.inj hj
                  omega) hQ2
              clear ham HL1 HG1 HBD HVT
              go_wp2_with fail
              refine cC2.mono ?_
              rintro e' w3 ⟨rfl, a3, hQ3, hG3, hV3, hN3⟩
              have hB3 : Below w.heap.size w w3 := hB2.grown hG3 hB2.size (fun q hq => by cases hq; exact Nat.le_refl _)
              obtain ⟨z, hz, hcase⟩ := words_of a3 hQ3.len hN3 (-tsum bs) (hV3.trans HVN.out) (by have := HQ.out; generalize (4294967296 : Int) ^ 71 = P at *; omega) (by have := HQ.out; generalize (4294967296 : Int) ^ 71 = P at *; omega)
              have hneg := HT0.out
              obtain ⟨_, _, l, rfl, hl72, hllt, hpv⟩ := hcase.resolve_right (fun h => by omega)
              have cL := qLeading w.heap.size 72 l w3 hl72 hllt hQ3
              have hrl := rung_le (pvn l) (-1074)
              have HR : Hid (can (rung (pvn l) (-1074) + 9223372036854775808) = wholeC bs) := by
                show _ = _
                rw [HW.out, if_neg (by simp)]
                unfold sgR
                rw [if_pos hneg, show (tsum bs).natAbs = pvn l from by omega, Nat.add_comm]
                exact can_num _ (by unfold mg; omega)
              clear cC2 hG3 hV3 hN3 hz hQ2 hB2 HVN HQ hneg hl72 hllt hpv HW HT0 hcase
              generalize rung (pvn l) (-1074) = R at *
              have cB := fun w => qBits R (by omega) w
              rw [can_num R (by unfold mg; omega)] at cB
              have hor := or_sign R (by omega)
              obtain ⟨R2, hR2⟩ : ∃ R2, R + 9223372036854775808 = R2 := ⟨_, rfl⟩
              rw [hR2] at hor HR
              have hR2l : R2 < 18446744073709551616 := by omega
              have cO := fun w => qOf R2 w
              clear hrl hR2
              go_wp2_with fail
              refine cL.mono ?_
              rintro e2 w4 ⟨rfl, q, hq⟩
              have hB4 : Below w.heap.size w w4 := by rw [hq]; exact below_drewN hB3 q
              clear hq cL
              go_wp2_with fail
              refine (cB _).mono ?_
              rintro e3 w5 ⟨rfl, hw⟩
              obtain rfl := hw.symm
              go_wp2_with fail
              refine (cO _).mono ?_
              rintro e4 w6 ⟨rfl, hw⟩
              obtain rfl := hw.symm
              go_wp2
              go_ret
              exact ⟨R2, rfl, hR2l, HR.out, hB4⟩
      · have HR : Hid (can 18442240474082181120 = wholeC bs) := by show _ = _; rw [wholeC_2 HES.out]; decide +kernel
        have cO := fun w => qOf 18442240474082181120 w
        clear cC HQ HES HN
        go_wp2_with fail
        refine (cO _).mono ?_
        rintro e4 w6 ⟨rfl, hw⟩
        obtain rfl := hw.symm
        go_wp2
        go_ret
        exact ⟨18442240474082181120, rfl, by omega, HR.out, hBe⟩
      · have HR : Hid (can 9218868437227405312 = wholeC bs) := by show _ = _; rw [wholeC_1 HES.out]; decide +kernel
        have cO := fun w => qOf 9218868437227405312 w
        clear cC HQ HES HN
        go_wp2_with fail
        refine (cO _).mono ?_
        rintro e4 w6 ⟨rfl, hw⟩
        obtain rfl := hw.symm
        go_wp2
        go_ret
        exact ⟨9218868437227405312, rfl, by omega, HR.out, hBe⟩
      · have HR : Hid (can 9221120237041090561 = wholeC bs) := by show _ = _; rw [wholeC_3 HES.out]; decide +kernel
        have cO := fun w => qOf 9221120237041090561 w
        clear cC HQ HES HN
        go_wp2_with fail
        refine (cO _).mono ?_
        rintro e4 w6 ⟨rfl, hw⟩
        obtain rfl := hw.symm
        go_wp2
        go_ret
        exact ⟨9221120237041090561, rfl, by omega, HR.out, hBe⟩
end Go.Proofs.YtnpdfkcjjedamaaGreatDoor.Sca
