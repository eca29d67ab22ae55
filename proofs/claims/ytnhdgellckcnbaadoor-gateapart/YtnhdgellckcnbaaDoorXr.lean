/- GateApart, walked. -/
import Derived.Test.YtnhdgellckcnbaaDoorXp
import Derived.BigQuiet
namespace Go.Proofs.YtnhdgellckcnbaaDoor.Gt
open Go.RowKit Go.Proofs.YtnhdgellckcnbaaDoor.Oct

theorem or_of {p q : Bool} (h : p = false → q = false → False) : (p || q) = true := by
  cases p <;> cases q <;> simp at h ⊢
set_option maxRecDepth 100000 in
set_option maxHeartbeats 4000000 in
theorem xGateApart (a : Int) (la : List Int) (b : Int) (lb : List Int) (ao ao' : Option Addr) (c c' : Nat) (hla : la.length ≤ 1000000000000000) (hlb : lb.length ≤ 1000000000000000) (hc : la.length ≤ c) (hc' : lb.length ≤ c') (w : World) (hT : Tb w) (hD : Td w) (hA : Ns w ao la) (hB : Ns w ao' lb) :
    Calls Tryd.prog 6 #[.int .i64 a, .slice ao la.length c, .int .i64 b, .slice ao' lb.length c'] w fun e w' => e = .returned (.bool true) ∧ Below w.heap.size w w' := by
  have c1 : ∀ W, Below w.heap.size w W → Calls Tryd.prog 17 #[.int .i64 a, .slice ao la.length c, .int .i64 b, .slice ao' lb.length c'] W fun e w' => e = .returned (.tuple #[.bool (comP a la b lb).1, .int .i64 (comP a la b lb).2]) ∧ Below W.heap.size W w' := fun W hW => gCommute a la b lb ao ao' c c' hla hlb hc hc' W (hT.below hW) (hD.below hW) (hA.below hW) (hB.below hW)
  have c2 : ∀ W, Below w.heap.size w W → Calls Tryd.prog 17 #[.int .i64 b, .slice ao' lb.length c', .int .i64 a, .slice ao la.length c] W fun e w' => e = .returned (.tuple #[.bool (comP b lb a la).1, .int .i64 (comP b lb a la).2]) ∧ Below W.heap.size W w' := fun W hW => gCommute b lb a la ao' ao c' c hlb hla hc' hc W (hT.below hW) (hD.below hW) (hB.below hW) (hA.below hW)
  have c3 : ∀ W, Below w.heap.size w W → Calls Tryd.prog 17 #[.int .i64 a, .slice ao la.length c, .int .i64 a, .slice ao la.length c] W fun e w' => e = .returned (.tuple #[.bool (comP a la a la).1, .int .i64 (comP a la a la).2]) ∧ Below W.heap.size W w' := fun W hW => gCommute a la a la ao ao c c hla hla hc hc W (hT.below hW) (hD.below hW) (hA.below hW) (hA.below hW)
  have c4 : ∀ W, Below w.heap.size w W → Calls Tryd.prog 17 #[.int .i64 a, .slice ao la.length c, .int .i64 (rw' a).v, .slice ao la.length c] W fun e w' => e = .returned (.tuple #[.bool (comP a la (rw' a).v la).1, .int .i64 (comP a la (rw' a).v la).2]) ∧ Below W.heap.size W w' := fun W hW => gCommute a la (rw' a).v la ao ao c c hla hla hc hc W (hT.below hW) (hD.below hW) (hA.below hW) (hA.below hW)
  have cN := jNum
  have cL : ∀ W, Below w.heap.size w W → Calls Tryd.prog 14 #[] W fun e w' => e = .returned (.bool true) ∧ Below W.heap.size W w' := fun W hW => jAlive W (hT.below hW) (hD.below hW)
  have cI : ∀ W, Below w.heap.size w W → Calls Tryd.prog 19 #[.int .i64 a] W fun e w' => e = .returned (.int .i64 (rw' a).v) ∧ Below W.heap.size W w' := fun W hW => gInverse a W (hT.below hW)
  have cDa : ∀ W, Below w.heap.size w W → Calls Tryd.prog 20 #[.int .i64 a] W fun e w' => e = .returned (.bool (dgB (rw' a))) ∧ Below W.heap.size W w' := fun W hW => gDiagonal a W (hT.below hW)
  have cDb : ∀ W, Below w.heap.size w W → Calls Tryd.prog 20 #[.int .i64 b] W fun e w' => e = .returned (.bool (dgB (rw' b))) ∧ Below W.heap.size W w' := fun W hW => gDiagonal b W (hT.below hW)
  have b0 := Below.refl w.heap.size w
  cases hg : gdP a la b lb
  · have n1 := com_no hg
    have n2 := com_no ((gd_flip a la b lb).trans hg)
    generalize comP a la b lb = R at *
    generalize comP b lb a la = B at *
    obtain ⟨R1, R2⟩ := R
    obtain ⟨B1, B2⟩ := B
    obtain ⟨rfl, n1⟩ := n1
    obtain ⟨rfl, n2⟩ := n2
    dsimp only at n1 n2 c1 c2
    clear c3 c4 cI cDa cDb hg hA hB hT hD
    go_enter Tryd.func6, Tryd.ntmps6
    go_wp2_with fail
    refine (c1 _ b0).mono ?_
    rintro e w1 ⟨rfl, q1⟩
    go_wp2_with fail
    refine (c2 _ q1).mono ?_
    rintro e w2 ⟨rfl, q2⟩
    replace q2 := q1.trans (q2.mono q1.size)
    clear q1 c1 c2 b0
    go_wp2_with (first
      | (go_at_call 10; refine (cN _ _).mono ?_; rintro e' w' ⟨rfl, hw⟩; obtain rfl := hw.symm))
    refine (cL _ q2).mono ?_
    rintro e w3 ⟨rfl, q3⟩
    replace q3 := q2.trans (q3.mono q2.size)
    go_wp2_with fail
    go_ret
    exact ⟨rfl, q3⟩
  · have s1 := com_sym hg
    have s2 := com_own hg
    have s3 : (comP a la b lb).1 = false → ∃ q ∈ lb, q ∈ la := fun h => by
      rw [com_yes hg] at h
      have h' : (decide ((allP la lb).length = la.length + lb.length) || alc a.toNat b.toNat la lb) = false := h
      rw [Bool.or_eq_false_iff] at h'
      have := of_decide_eq_false h'.1
      rw [all_len] at this
      simpa using this
    have s4 : (comP a la b lb).2 = 0 := by rw [com_yes hg]
    rw [s1.1] at c2
    rw [s2.1] at c3
    rw [s2.2] at c4
    have H1 := hide s1.2
    have H3 := hide s3
    clear s1 s2 s3 hg
    generalize comP a la b lb = R at *
    obtain ⟨R1, R2⟩ := R
    dsimp only at s4 H1 H3 c1 c2 c3 c4
    subst s4
    have HA := hide hA
    have HB := hide hB
    obtain ⟨n, hn⟩ : ∃ n, la.length = n := ⟨_, rfl⟩
    obtain ⟨m, hm⟩ : ∃ m, lb.length = m := ⟨_, rfl⟩
    have HN := hide hn
    have HM := hide hm
    rw [hn] at hla hc c1 c2 c3 c4 ⊢
    rw [hm] at hlb hc' c1 c2 ⊢
    clear hA hB hT hD hn hm
    go_enter Tryd.func6, Tryd.ntmps6
    go_wp2_with fail
    refine (c1 _ b0).mono ?_
    rintro e w1 ⟨rfl, q1⟩
    go_wp2_with fail
    refine (c2 _ q1).mono ?_
    rintro e w2 ⟨rfl, q2⟩
    replace q2 := q1.trans (q2.mono q1.size)
    clear q1 c1 c2 b0
    go_wp2_with (first
      | (go_at_call 10; refine (cN _ _).mono ?_; rintro e' w' ⟨rfl, hw⟩; obtain rfl := hw.symm))
    go_loopw [13, 14, 15] (fun vc vi _ wr => ∃ (i : Nat) (cm : Bool), vc = .bool cm ∧ vi = .int .i64 (i : Int) ∧ i ≤ n ∧ Hid (cm = false → ∀ j, j < i → ∀ x, la[j]? = some x → x ∉ lb) ∧ Below w.heap.size w wr) (fun _ vi _ _ => n - (Go.RowKit.intOf vi).toNat)
    case atStart => exact ⟨0, false, rfl, rfl, by omega, hide (fun _ j hj => absurd hj (by omega)), q2⟩
    case round =>
      clear q2
      obtain ⟨i, cm, rfl, rfl, hi, HS, hb⟩ := hrel
      by_cases h : i < n
      · have hd : decide ((i : Int) < (n : Int)) = true := decide_eq_true (by omega)
        obtain ⟨x, hx⟩ : ∃ x, la[i]? = some x := ⟨_, List.getElem?_eq_getElem (by rw [HN.out]; exact h)⟩
        go_wp2_with fail
        go_loopw [13, 15] (fun vc vk wi => ∃ (k : Nat) (cm : Bool), vc = .bool cm ∧ vk = .int .i64 (k : Int) ∧ k ≤ m ∧ Hid (cm = false → (∀ j, j < i → ∀ x, la[j]? = some x → x ∉ lb) ∧ ∀ t, t < k → lb[t]? ≠ some x) ∧ Below w.heap.size w wi) (fun _ vk _ => m - (Go.RowKit.intOf vk).toNat)
        case atStart => exact ⟨0, cm, rfl, rfl, by omega, hide (fun h => ⟨HS.out h, fun t ht => absurd ht (by omega)⟩), hb⟩
        case round =>
          clear HS hb
          obtain ⟨k, cm2, rfl, rfl, hk, HK, hb⟩ := hrel
          by_cases hkm : k < m
          · have hkd : decide ((k : Int) < (m : Int)) = true := decide_eq_true (by omega)
            obtain ⟨y, hy⟩ : ∃ y, lb[k]? = some y := ⟨_, List.getElem?_eq_getElem (by rw [HM.out]; exact hkm)⟩
            obtain ⟨g, off, hgo, hcs⟩ := (HA.out.below hb).resolve_left (fun e => by rw [e] at hx; simp at hx)
            obtain ⟨g', off', hgo', hcs'⟩ := (HB.out.below hb).resolve_left (fun e => by rw [e] at hy; simp at hy)
            subst hgo hgo'
            have hcx := hcs i x hx
            have hcy := hcs' k y hy
            have hiZ : (i : Int) < (n : Int) := by omega
            have hkZ : (k : Int) < (m : Int) := by omega
            have HK2 : Hid ((cm2 || (x == y)) = false → (∀ j, j < i → ∀ x, la[j]? = some x → x ∉ lb) ∧ ∀ t, t < k + 1 → lb[t]? ≠ some x) := hide (fun h => by
              rw [Bool.or_eq_false_iff] at h
              refine ⟨(HK.out h.1).1, fun t ht => ?_⟩
              by_cases e : t = k
              · rw [e, hy]
                intro e'
                cases e'
                simp at h
              · exact (HK.out h.1).2 t (by omega))
            clear HK hcs hcs' hx hy
            cases cm2
            · go_wp2_with fail
              go_quiet (fail)
              go_wp2_with fail
              exact ⟨⟨k + 1, _, rfl, by go_num, by omega, HK2, below_drewN hb _⟩, by simp [Go.RowKit.intOf]; omega⟩
            · go_wp2_with fail
              go_quiet (fail)
              go_wp2_with fail
              exact ⟨⟨k + 1, true, rfl, by go_num, by omega, HK2, below_drewN hb _⟩, by simp [Go.RowKit.intOf]; omega⟩
          · obtain rfl : k = m := by omega
            have HS2 : Hid (cm2 = false → ∀ j, j < i + 1 → ∀ x, la[j]? = some x → x ∉ lb) := hide (fun hcm j hj z hz hmem => by
              by_cases e : j = i
              · subst e
                rw [hx] at hz
                cases hz
                obtain ⟨t, ht, e⟩ := List.getElem_of_mem hmem
                exact (HK.out hcm).2 t (by rw [← HM.out]; exact ht) (by rw [List.getElem?_eq_getElem ht, e])
              · exact (HK.out hcm).1 j (by omega) z hz hmem)
            clear HK hx
            go_wp2_with fail
            exact ⟨⟨i + 1, cm2, rfl, by go_num, by omega, HS2, hb⟩, by simp [Go.RowKit.intOf]; omega⟩
      · obtain rfl : n = i := by omega
        have H6 : cm = false → R1 = false → False := fun hcm hr => by
          obtain ⟨q, q1, q2⟩ := H3.out hr
          obtain ⟨t, ht, e⟩ := List.getElem_of_mem q2
          exact HS.out hcm t (by rw [← HN.out]; exact ht) q (by rw [List.getElem?_eq_getElem ht, e]) q1
        have H4 : (cm || R1) = true := or_of H6
        clear H6
        have H5 := H1.out
        clear HS H1 H3
        have hd : decide ((n : Int) < (n : Int)) = false := decide_eq_false (by omega)
        go_wp2_with fail
        refine (c3 _ hb).mono ?_
        rintro e w3 ⟨rfl, q3⟩
        replace q3 := hb.trans (q3.mono hb.size)
        clear hb c3
        go_wp2_with fail
        refine (cI _ q3).mono ?_
        rintro e w4 ⟨rfl, q4⟩
        replace q4 := q3.trans (q4.mono q3.size)
        clear q3 cI
        go_wp2_with fail
        refine (c4 _ q4).mono ?_
        rintro e w5 ⟨rfl, q5⟩
        replace q5 := q4.trans (q5.mono q4.size)
        clear q4 c4
        generalize dgB (rw' a) = dA at *
        generalize dgB (rw' b) = dB at *
        cases R1
        · have e1 := H5 rfl
          obtain rfl : cm = true := by simpa using H4
          cases dA
          · clear H4 H5 e1 cDb
            go_wp2_with (first
              | (go_at_call 10; refine (cN _ _).mono ?_; rintro e' w' ⟨rfl, hw⟩; obtain rfl := hw.symm)
              | (go_at_call 20; refine (cDa _ q5).mono ?_; rintro e' w6 ⟨rfl, q6⟩; replace q6 := q5.trans (q6.mono q5.size))
              | (go_at_call 14; refine (cL _ q6).mono ?_; rintro e' w7 ⟨rfl, q7⟩; replace q7 := q6.trans (q7.mono q6.size)))
            go_ret
            exact ⟨rfl, q7⟩
          · obtain rfl : dB = false := by simpa using e1
            clear H4 H5 e1
            go_wp2_with (first
              | (go_at_call 10; refine (cN _ _).mono ?_; rintro e' w' ⟨rfl, hw⟩; obtain rfl := hw.symm)
              | (go_at_call_of 20 a; refine (cDa _ q5).mono ?_; rintro e' w6 ⟨rfl, q6⟩; replace q6 := q5.trans (q6.mono q5.size); clear cDa)
              | (go_at_call_of 20 b; refine (cDb _ q6).mono ?_; rintro e' w7 ⟨rfl, q7⟩; replace q7 := q6.trans (q7.mono q6.size))
              | (go_at_call 14; refine (cL _ q7).mono ?_; rintro e' w8 ⟨rfl, q8⟩; replace q8 := q7.trans (q8.mono q7.size)))
            go_ret
            exact ⟨rfl, q8⟩
        · clear H4 H5
          cases cm <;> cases dA <;> cases dB
          all_goals
            go_wp2_with (first
              | (go_at_call 10; refine (cN _ _).mono ?_; rintro e' w' ⟨rfl, hw⟩; obtain rfl := hw.symm))
            refine (cDa _ q5).mono ?_
            rintro e' w6 ⟨rfl, q6⟩
            replace q6 := q5.trans (q6.mono q5.size)
            clear cDa q5
            go_wp2_with fail
            first
              | (refine (cDb _ q6).mono ?_; rintro e' w7 ⟨rfl, q7⟩; replace q7 := q6.trans (q7.mono q6.size); clear cDb q6)
              | (have q7 := q6; clear q6)
            go_wp2_with (first
              | (go_at_call 10; refine (cN _ _).mono ?_; rintro e' w' ⟨rfl, hw⟩; obtain rfl := hw.symm)
              | (go_at_call 14; refine (cL _ q7).mono ?_; rintro e' w8 ⟨rfl, q8⟩; replace q8 := q7.trans (q8.mono q7.size)))
            go_ret
            exact ⟨rfl, q8⟩
end Go.Proofs.YtnhdgellckcnbaaDoor.Gt
