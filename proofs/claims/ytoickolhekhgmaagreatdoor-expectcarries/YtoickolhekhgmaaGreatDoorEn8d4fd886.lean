import Derived.Test.YtoickolhekhgmaaGreatDoorEncfc45d73
namespace Go.Proofs.YtoickolhekhgmaaGreatDoor.Gt
end Go.Proofs.YtoickolhekhgmaaGreatDoor.Gt
namespace Go.Proofs.YtoickolhekhgmaaGreatDoor.Pau
end Go.Proofs.YtoickolhekhgmaaGreatDoor.Pau
set_option maxRecDepth 100000
set_option maxHeartbeats 8000000
namespace Go.Proofs.YtoickolhekhgmaaGreatDoor.Tbl
open Go.RowKit Go.Proofs.YtoickolhekhgmaaGreatDoor.Pau Go.Proofs.YtoickolhekhgmaaGreatDoor.Gt
theorem tPaired (t : TT) (a b : Option Addr) (ca cb i j : Nat) (hi : i < t.s.length) (hj : j < t.s.length) (hi' : i < t.d.length) (hj' : j < t.d.length) (w : World) (h : Th w t a b ca cb) :
    Calls Tryz.prog 109 #[tV t a b ca cb, .int .i64 (i : Int), .int .i64 (j : Int)] w fun e w' => e = .returned (.bool (prB t i j)) /\ Below w.heap.size w w' := by
  have c1 := fun W => tCommute (t.s.getD i oP) (t.s.getD j oP) (h.ws.getD hi) (h.ws.getD hj) W
  have c2 := fun W => tCommute (t.d.getD i oP) (t.d.getD j oP) (h.wd.getD hi') (h.wd.getD hj') W
  have c3 := fun W => tCommute (t.d.getD i oP) (t.s.getD j oP) (h.wd.getD hi') (h.ws.getD hj) W
  obtain ⟨gs, os, rfl, hs⟩ := h.s.get (by omega)
  obtain ⟨gd, od, rfl, hd⟩ := h.d.get (by omega)
  have HS1 := hide (hs i _ (get_of hi))
  have HS2 := hide (hs j _ (get_of hj))
  have HD1 := hide (hd i _ (get_of hi'))
  have HD2 := hide (hd j _ (get_of hj'))
  have hns := h.na
  have hnd := h.nb
  unfold prB
  have hne : decide (i ≠ j) = ((i : Int) != (j : Int)) := by
    by_cases e : i = j
    . subst e; simp
    . rw [decide_eq_true e]; exact (bne_iff_ne.2 (by omega)).symm
  rw [hne]
  generalize cmB (t.s.getD i oP) (t.s.getD j oP) = r1 at *
  generalize cmB (t.d.getD i oP) (t.d.getD j oP) = r2 at *
  generalize cmB (t.d.getD i oP) (t.s.getD j oP) = r3 at *
  generalize t.s.getD i oP = s1 at *
  generalize t.s.getD j oP = s2 at *
  generalize t.d.getD i oP = d1 at *
  generalize t.d.getD j oP = d2 at *
  unfold tV
  generalize t.s.length = ns at *
  generalize t.d.length = nd at *
  obtain ⟨n, sl, dl⟩ := t
  simp only at *
  clear h hs hd hne
  obtain ⟨m1, x1, z1, p1⟩ := s1
  obtain ⟨m2, x2, z2, p2⟩ := s2
  obtain ⟨m3, x3, z3, p3⟩ := d1
  obtain ⟨m4, x4, z4, p4⟩ := d2
  have HB := hide (bnew w (.cells #[.int .i64 n, .slice (some ⟨gs, os, none⟩) ns ca, .slice (some ⟨gd, od, none⟩) nd cb] 30))
  have HA := hide (At3.new w (.int .i64 n) (.slice (some ⟨gs, os, none⟩) ns ca) (.slice (some ⟨gd, od, none⟩) nd cb))
  generalize hW : w.alloc (.cells #[.int .i64 n, .slice (some ⟨gs, os, none⟩) ns ca, .slice (some ⟨gd, od, none⟩) nd cb] 30) = V at *
  have HC : Hid (∀ W, Below V.heap.size V W -> (W.cell? ⟨w.heap.size, 0, none⟩ = some (.int .i64 n) /\ W.cell? ⟨w.heap.size, 1, none⟩ = some (.slice (some ⟨gs, os, none⟩) ns ca) /\ W.cell? ⟨w.heap.size, 2, none⟩ = some (.slice (some ⟨gd, od, none⟩) nd cb) /\ w.heap.size < W.heap.size) /\ Pc W gs (os + i * 4) ⟨m1, x1, z1, p1⟩ /\ Pc W gs (os + j * 4) ⟨m2, x2, z2, p2⟩ /\ Pc W gd (od + i * 4) ⟨m3, x3, z3, p3⟩ /\ Pc W gd (od + j * 4) ⟨m4, x4, z4, p4⟩ /\ gs < W.heap.size /\ gd < W.heap.size) := hide (fun W hb => by
    have hb' := bkp HB.out hb
    exact ⟨(HA.out.below hb).cells, HS1.out.below hb', HS2.out.below hb', HD1.out.below hb', HD2.out.below hb', (HS1.out.below hb').lt, (HD1.out.below hb').lt⟩)
  unfold pV at c1 c2 c3
  simp only at c1 c2 c3
  have hn1 : (n : Int) = n := rfl
  clear HS1 HS2 HD1 HD2 hn1
  cases r1
  rotate_left
  cases r2
  all_goals (
    go_enter Tryz.func109, Tryz.ntmps109
    go_wp2_with fail
    refine wp_region_quiet_C (C := fun W => Below V.heap.size V W) (by kernel_rfl) (by kernel_rfl) (bdrew (Below.refl _ _) 1) ?_
    refine unhideP ?_
    repeat
      refine wpQuiet_stepH (fun K hK => ?_)
      go_simp
      first
        | (refine hK _ ?_; clear hK K)
        | (apply Exists.intro
           refine ⟨fun W hW => ?_, hK _ ?_⟩
           first
             | ((with_reducible refine Calls.mono (c1 _) ?_); rintro e x ⟨rfl, hb⟩; exact ⟨rfl, bkp hW hb⟩)
             | ((with_reducible refine Calls.mono (c2 _) ?_); rintro e x ⟨rfl, hb⟩; exact ⟨rfl, bkp hW hb⟩)
             | ((with_reducible refine Calls.mono (c3 _) ?_); rintro e x ⟨rfl, hb⟩; exact ⟨rfl, bkp hW hb⟩)
             | (obtain ⟨⟨p0, p1, p2, p3⟩, ⟨a0, a1, a2, a3⟩, ⟨b0, b1, b2, b3⟩, ⟨d0, d1, d2, d3⟩, ⟨e0, e1, e2, e3⟩, q1, q2⟩ := HC.out W hW; go_simp; rfl)
           clear hK K)
    refine wpQuiet_nilH ?_
    intro W hW
    have HF := hide (bkp HB.out hW)
    clear hW HC
    go_wp2_with fail
    go_ret
    exact ⟨by first | rfl | simp, HF.out⟩)
def chI (t : TT) : Int := if chB t = true then 0 else 140
theorem ch_size {t : TT} (h : chB t = true) : szB t = true := by
  unfold chB at h
  simp only [Bool.and_eq_true] at h
  exact h.1.1
theorem sz_of {t : TT} (h : szB t = true) : 0 <= t.n /\ t.n <= 64 /\ t.s.length = t.n.toNat /\ t.d.length = t.n.toNat := by
  have := of_decide_eq_true h
  omega
theorem ch_no {t : TT} (h : szB t = false) : chI t = 140 := by
  unfold chI
  rw [if_neg]
  intro e
  rw [ch_size e] at h
  cases h
theorem tCheck_sz (t : TT) (a b : Option Addr) (ca cb : Nat) (hz : szB t = false) (w : World) :
    Calls Tryz.prog 80 #[tV t a b ca cb] w fun e w' => e = .returned (.int .i64 140) /\ Below w.heap.size w w' := by
  have hz' := of_decide_eq_false hz
  unfold tV
  generalize t.s.length = ns at *
  generalize t.d.length = nd at *
  obtain ⟨n, sl, dl⟩ := t
  simp only at *
  clear hz
  have HB := hide (bnew w (.cells #[.int .i64 n, .slice a ns ca, .slice b nd cb] 30))
  by_cases h1 : n < 0
  . have d1 : decide (n < 0) = true := decide_eq_true h1
    clear hz'
    go_enter Tryz.func80, Tryz.ntmps80
    go_wp2_with fail
    go_ret
    exact ⟨rfl, HB.out⟩
  . have d1 : decide (n < 0) = false := decide_eq_false h1
    by_cases h2 : 64 < n
    . have d2 : decide (64 < n) = true := decide_eq_true h2
      clear hz'
      go_enter Tryz.func80, Tryz.ntmps80
      go_wp2_with fail
      go_ret
      exact ⟨rfl, HB.out⟩
    . have d2 : decide (64 < n) = false := decide_eq_false h2
      by_cases h3 : (ns : Int) = n
      . have d3 : ((ns : Int) != n) = false := by simpa using h3
        have d4 : ((nd : Int) != n) = true := by
          have : ¬ (nd : Int) = n := fun e => hz' ⟨by omega, by omega, h3, e⟩
          simpa using this
        clear hz' h3
        go_enter Tryz.func80, Tryz.ntmps80
        go_wp2_with fail
        go_ret
        exact ⟨rfl, HB.out⟩
      . have d3 : ((ns : Int) != n) = true := by simpa using h3
        clear hz' h3
        go_enter Tryz.func80, Tryz.ntmps80
        go_wp2_with fail
        go_ret
        exact ⟨rfl, HB.out⟩
theorem all_range {f : Nat -> Bool} {n : Nat} : (List.range n).all f = true ↔ ∀ k, k < n -> f k = true := by
  rw [List.all_eq_true]
  exact ⟨fun h k hk => h k (List.mem_range.2 hk), fun h k hk => h k (List.mem_range.1 hk)⟩
theorem ch_iff {t : TT} : chB t = true ↔ szB t = true /\ (∀ k, k < t.n.toNat -> sg2 t k = true) /\ ∀ i, i < t.n.toNat -> ∀ j, j < t.n.toNat -> prB t i j = true := by
  unfold chB
  rw [Bool.and_eq_true, Bool.and_eq_true, all_range, all_range, and_assoc]
  simp only [all_range]
theorem chI_no {t : TT} (h : ¬ chB t = true) : chI t = 140 := if_neg h
theorem tCheck (t : TT) (a b : Option Addr) (ca cb : Nat) (w : World) (h : Th w t a b ca cb) :
    Calls Tryz.prog 80 #[tV t a b ca cb] w fun e w' => e = .returned (.int .i64 (chI t)) /\ Below w.heap.size w w' := by
  cases hz : szB t with
  | false =>
    rw [ch_no hz]
    exact tCheck_sz t a b ca cb hz w
  | true =>
    obtain ⟨h0, h64, hls, hld⟩ := sz_of hz
    obtain ⟨N, hN⟩ : ∃ N : Nat, t.n = (N : Int) := ⟨t.n.toNat, by omega⟩
    rw [hN, Int.toNat_natCast] at hls hld
    have hN64 : N <= 64 := by omega
    have HG : Hid (∀ k, k < N -> ∀ W, Below w.heap.size w W -> (∃ gs os, a = some ⟨gs, os, none⟩ /\ gs < W.heap.size /\ Pc W gs (os + k * 4) (t.s.getD k oP)) /\ (∃ gd od, b = some ⟨gd, od, none⟩ /\ gd < W.heap.size /\ Pc W gd (od + k * 4) (t.d.getD k oP))) := hide (fun k hk W hb => ⟨(h.s.below hb).at (get_of (by omega)), (h.d.below hb).at (get_of (by omega))⟩)
    have HS1 : Hid (∀ k, k < N -> ∀ W, Calls Tryz.prog 81 #[pV (t.s.getD k oP), .int .i64 (N : Int)] W fun e w' => e = .returned (.bool (sgB (t.s.getD k oP) t.n)) /\ Below W.heap.size W w') := hide (fun k hk W => by rw [hN]; exact tSigned _ (h.ws.getD (by omega)) _ W)
    have HS2 : Hid (∀ k, k < N -> ∀ W, Calls Tryz.prog 81 #[pV (t.d.getD k oP), .int .i64 (N : Int)] W fun e w' => e = .returned (.bool (sgB (t.d.getD k oP) t.n)) /\ Below W.heap.size W w') := hide (fun k hk W => by rw [hN]; exact tSigned _ (h.wd.getD (by omega)) _ W)
    have HP : Hid (∀ i j, i < N -> j < N -> ∀ W, Below w.heap.size w W -> Calls Tryz.prog 109 #[.agg #[.int .i64 (N : Int), .slice a N ca, .slice b N cb], .int .i64 (i : Int), .int .i64 (j : Int)] W fun e w' => e = .returned (.bool (prB t i j)) /\ Below W.heap.size W w') := hide (fun i j hi hj W hb => by
      have := tPaired t a b ca cb i j (by omega) (by omega) (by omega) (by omega) W (h.below hb)
      unfold tV at this
      rw [hN, hls, hld] at this
      exact this)
    have HI : Hid ((∀ k, k < N -> sg2 t k = true) -> (∀ i, i < N -> ∀ j, j < N -> prB t i j = true) -> chI t = 0) := hide (fun h1 h2 => by
      unfold chI
      exact if_pos (ch_iff.2 ⟨hz, by rw [hN]; exact h1, by rw [hN]; exact h2⟩))
    have HN1 : Hid (∀ k, k < N -> sg2 t k = false -> chI t = 140) := hide (fun k hk e => chI_no (fun hc => by have := (ch_iff.1 hc).2.1 k (by omega); rw [e] at this; cases this))
    have HN2 : Hid (∀ i j, i < N -> j < N -> prB t i j = false -> chI t = 140) := hide (fun i j hi hj e => chI_no (fun hc => by have := (ch_iff.1 hc).2.2 i (by omega) j (by omega); rw [e] at this; cases this))
    have HSG : Hid (∀ k, sg2 t k = (sgB (t.s.getD k oP) t.n && sgB (t.d.getD k oP) t.n)) := hide (fun k => rfl)
    unfold tV
    rw [hN, hls, hld]
    generalize chI t = R at *
    generalize t.n = tn at *
    clear h hz h0 h64 hls hld hN
    have HB := hide (bnew w (.cells #[.int .i64 (N : Int), .slice a N ca, .slice b N cb] 30))
    have HA := hide (At3.new w (.int .i64 (N : Int)) (.slice a N ca) (.slice b N cb))
    have d2 : decide (64 < (N : Int)) = false := decide_eq_false (by omega)
    have d3 : ((N : Int) != (N : Int)) = false := by simp
    go_enter Tryz.func80, Tryz.ntmps80
    go_wp2_with fail
    go_loopw [32] (fun vi wr => ∃ i : Nat, vi = .int .i64 (i : Int) /\ i <= N /\ Hid (∀ k, k < i -> sg2 t k = true) /\ Hid (Below w.heap.size w wr /\ At3 wr w.heap.size (.int .i64 (N : Int)) (.slice a N ca) (.slice b N cb))) (fun vi _ => N - (Go.RowKit.intOf vi).toNat)
    case atStart => exact ⟨0, rfl, Nat.zero_le _, hide (fun k hk => absurd hk (Nat.not_lt_zero _)), hide ⟨HB.out, HA.out⟩⟩
    case round =>
      obtain ⟨i, rfl, hi, HK, HW⟩ := hrel
      clear HB HA
      by_cases hlt : i < N
      . have hd : decide ((i : Int) < (N : Int)) = true := decide_eq_true (by omega)
        obtain ⟨⟨gs, os, rfl, -, -⟩, ⟨gd, od, rfl, -, -⟩⟩ := HG.out i hlt _ HW.out.1
        have c1 := HS1.out i hlt
        have c2 := HS2.out i hlt
        have hsg := HSG.out i
        have hn1 := HN1.out i hlt
        have HCC : Hid (∀ W, Below wr.heap.size wr W -> (W.cell? ⟨w.heap.size, 0, none⟩ = some (.int .i64 (N : Int)) /\ W.cell? ⟨w.heap.size, 1, none⟩ = some (.slice (some ⟨gs, os, none⟩) N ca) /\ W.cell? ⟨w.heap.size, 2, none⟩ = some (.slice (some ⟨gd, od, none⟩) N cb) /\ w.heap.size < W.heap.size) /\ Pc W gs (os + i * 4) (t.s.getD i oP) /\ Pc W gd (od + i * 4) (t.d.getD i oP) /\ gs < W.heap.size /\ gd < W.heap.size) := hide (fun W hb => by
          have hb' := bkp HW.out.1 hb
          obtain ⟨⟨gs', os', e1, q1, p1⟩, ⟨gd', od', e2, q2, p2⟩⟩ := HG.out i hlt _ hb'
          cases e1
          cases e2
          exact ⟨(HW.out.2.below hb).cells, p1, p2, q1, q2⟩)
        generalize sgB (t.s.getD i oP) tn = r1 at *
        generalize sgB (t.d.getD i oP) tn = r2 at *
        generalize t.s.getD i oP = s1 at *
        generalize t.d.getD i oP = d1 at *
        obtain ⟨m1, x1, z1, p1⟩ := s1
        obtain ⟨m2, x2, z2, p2⟩ := d1
        unfold pV at c1 c2
        simp only at c1 c2
        obtain ⟨⟨q0, q1, q2, q3⟩, -⟩ := HCC.out wr (Below.refl _ _)
        have HE : Hid (r1 = true -> r2 = true -> ∀ k, k < i + 1 -> sg2 t k = true) := hide (fun e1 e2 k hk => by
          by_cases e : k = i
          . subst e; rw [hsg, e1, e2]; rfl
          . exact HK.out k (by omega))
        have HF : Hid ((r1 && r2) = false -> R = 140) := hide (fun e => hn1 (by rw [hsg, e]))
        clear hsg hn1
        cases r1
        rotate_left
        cases r2
        all_goals (
          go_wp2_with fail
          refine wp_region_quiet_C (C := fun W => Below wr.heap.size wr W) (by kernel_rfl) (by kernel_rfl) (bdrew (Below.refl _ _) 1) ?_
          refine unhideP ?_
          repeat
            refine wpQuiet_stepH (fun K hK => ?_)
            go_simp
            first
              | (refine hK _ ?_; clear hK K)
              | (apply Exists.intro
                 refine ⟨fun W hW => ?_, hK _ ?_⟩
                 first
                   | ((with_reducible refine Calls.mono (c1 _) ?_); rintro e x ⟨rfl, hb⟩; exact ⟨rfl, bkp hW hb⟩)
                   | ((with_reducible refine Calls.mono (c2 _) ?_); rintro e x ⟨rfl, hb⟩; exact ⟨rfl, bkp hW hb⟩)
                   | (obtain ⟨⟨p0, p1, p2, p3⟩, ⟨a0, a1, a2, a3⟩, ⟨b0, b1, b2, b3⟩, e1, e2⟩ := HCC.out W hW; go_simp; rfl)
                 clear hK K)
          refine wpQuiet_nilH ?_
          intro W hW
          have HX := hide (And.intro (bkp HW.out.1 hW) (HW.out.2.below hW))
          clear hW HCC HW q0 q1 q2 q3 c1 c2
          go_wp2_with fail)
        . have hR := HF.out rfl
          subst hR
          go_ret
          exact ⟨rfl, HX.out.1⟩
        . have HE' := hide (HE.out (by trivial) (by trivial))
          go_roundw
          case rel => exact ⟨i + 1, by go_num, by omega, HE', HX⟩
          case measure => simp [Go.RowKit.intOf]; omega
        . have hR := HF.out rfl
          subst hR
          go_ret
          exact ⟨rfl, HX.out.1⟩
      . obtain rfl : N = i := by omega
        have hd : decide ((N : Int) < (N : Int)) = false := decide_eq_false (by omega)
        have HI2 := hide (HI.out HK.out)
        obtain ⟨q0, q1, q2, q3⟩ := HW.out.2.cells
        clear HI HK HN1 HSG HS1 HS2
        go_wp2_with fail
        clear q0 q1 q2 q3
        go_loopw [58] (fun vi wr => ∃ i : Nat, vi = .int .i64 (i : Int) /\ i <= N /\ Hid (∀ k, k < i -> ∀ j, j < N -> prB t k j = true) /\ Hid (Below w.heap.size w wr /\ At3 wr w.heap.size (.int .i64 (N : Int)) (.slice a N ca) (.slice b N cb))) (fun vi _ => N - (Go.RowKit.intOf vi).toNat)
        case atStart => exact ⟨0, rfl, Nat.zero_le _, hide (fun k hk => absurd hk (Nat.not_lt_zero _)), HW⟩
        case round =>
          rename_i wr1
          obtain ⟨i, rfl, hi, HK, HV⟩ := hrel
          clear HW
          by_cases hlt : i < N
          . have hd1 : decide ((i : Int) < (N : Int)) = true := decide_eq_true (by omega)
            obtain ⟨q0, q1, q2, q3⟩ := HV.out.2.cells
            go_wp2_with fail
            clear q0 q1 q2 q3
            go_loopw [63] (fun vj wr => ∃ j : Nat, vj = .int .i64 (j : Int) /\ j <= N /\ Hid (∀ k, k < j -> prB t i k = true) /\ Hid (Below w.heap.size w wr /\ At3 wr w.heap.size (.int .i64 (N : Int)) (.slice a N ca) (.slice b N cb))) (fun vj _ => N - (Go.RowKit.intOf vj).toNat)
            case atStart => exact ⟨0, rfl, Nat.zero_le _, hide (fun k hk => absurd hk (Nat.not_lt_zero _)), HV⟩
            case round =>
              rename_i wr2
              obtain ⟨j, rfl, hj, HJ, HU⟩ := hrel
              clear HV
              obtain ⟨q0, q1, q2, q3⟩ := HU.out.2.cells
              by_cases hjt : j < N
              . have hd2 : decide ((j : Int) < (N : Int)) = true := decide_eq_true (by omega)
                have c1 := HP.out i j hlt hjt _ HU.out.1
                have hn2 := HN2.out i j hlt hjt
                have HE : Hid (prB t i j = true -> ∀ k, k < j + 1 -> prB t i k = true) := hide (fun e k hk => by
                  by_cases e' : k = j
                  . subst e'; exact e
                  . exact HJ.out k (by omega))
                generalize prB t i j = r at *
                cases r
                . have hR := hn2 rfl
                  subst hR
                  go_wp2_with (go_at_call 109; refine c1.mono ?_; rintro e w1 ⟨rfl, hb1⟩; have HX := hide (And.intro (bkp HU.out.1 hb1) (HU.out.2.below hb1)))
                  go_ret
                  exact ⟨rfl, HX.out.1⟩
                . have HE' := hide (HE.out rfl)
                  clear hn2
                  go_wp2_with (go_at_call 109; refine c1.mono ?_; rintro e w1 ⟨rfl, hb1⟩; have HX := hide (And.intro (bkp HU.out.1 hb1) (HU.out.2.below hb1)))
                  go_roundw
                  case rel => exact ⟨j + 1, by go_num, by omega, HE', HX⟩
                  case measure => simp [Go.RowKit.intOf]; omega
              . obtain rfl : N = j := by omega
                have hd2 : decide ((N : Int) < (N : Int)) = false := decide_eq_false (by omega)
                have HE' : Hid (∀ k, k < i + 1 -> ∀ j, j < N -> prB t k j = true) := hide (fun k hk j hj => by
                  by_cases e' : k = i
                  . subst e'; exact HJ.out j hj
                  . exact HK.out k (by omega) j hj)
                go_wp2_with fail
                go_roundw
                case rel => exact ⟨i + 1, by go_num, by omega, HE', HU⟩
                case measure => simp [Go.RowKit.intOf]; omega
          . obtain rfl : N = i := by omega
            have hR := HI2.out HK.out
            subst hR
            go_wp2_with fail
            go_ret
            exact ⟨rfl, HV.out.1⟩
end Go.Proofs.YtoickolhekhgmaaGreatDoor.Tbl
