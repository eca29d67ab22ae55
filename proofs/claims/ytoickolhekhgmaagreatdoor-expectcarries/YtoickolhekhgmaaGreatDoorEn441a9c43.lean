import Derived.Test.YtoickolhekhgmaaGreatDoorEneee5c356
namespace Go.Proofs.YtoickolhekhgmaaGreatDoor.Gt
end Go.Proofs.YtoickolhekhgmaaGreatDoor.Gt
namespace Go.Proofs.YtoickolhekhgmaaGreatDoor.Pau
end Go.Proofs.YtoickolhekhgmaaGreatDoor.Pau
set_option maxRecDepth 100000
set_option maxHeartbeats 8000000
namespace Go.Proofs.YtoickolhekhgmaaGreatDoor.Tbl
open Go.RowKit Go.Shelf Go.Proofs.YtoickolhekhgmaaGreatDoor.Pau Go.Proofs.YtoickolhekhgmaaGreatDoor.Gt
theorem dRight_sz (t : TT) (a b : Option Addr) (ca cb : Nat) (hz : szB t = false) (w : World) :
    Calls Tryz.prog 20 #[tV t a b ca cb] w fun e w' => e = .returned (.bool false) /\ Below w.heap.size w w' := by
  have hz' := of_decide_eq_false hz
  unfold tV
  generalize t.s.length = ns at *
  generalize t.d.length = nd at *
  obtain ⟨n, sl, dl⟩ := t
  simp only at *
  clear hz
  have HB := hide (bnew w (.cells #[.int .i64 n, .slice a ns ca, .slice b nd cb] 30))
  by_cases h1 : n < 0
  . have d1 : decide (n < 0) = true := decide_eq_true h1
    clear hz'
    go_enter Tryz.func20, Tryz.ntmps20
    go_wp2_with fail
    go_ret
    exact ⟨rfl, HB.out⟩
  . have d1 : decide (n < 0) = false := decide_eq_false h1
    by_cases h2 : 64 < n
    . have d2 : decide (64 < n) = true := decide_eq_true h2
      clear hz'
      go_enter Tryz.func20, Tryz.ntmps20
      go_wp2_with fail
      go_ret
      exact ⟨rfl, HB.out⟩
    . have d2 : decide (64 < n) = false := decide_eq_false h2
      by_cases h3 : (ns : Int) = n
      . have d3 : ((ns : Int) != n) = false := by simpa using h3
        have d4 : ((nd : Int) != n) = true := by
          have : ¬ (nd : Int) = n := fun e => hz' ⟨by omega, by omega, h3, e⟩
          simpa using this
        clear hz' h3
        go_enter Tryz.func20, Tryz.ntmps20
        go_wp2_with fail
        go_ret
        exact ⟨rfl, HB.out⟩
      . have d3 : ((ns : Int) != n) = true := by simpa using h3
        clear hz' h3
        go_enter Tryz.func20, Tryz.ntmps20
        go_wp2_with fail
        go_ret
        exact ⟨rfl, HB.out⟩
def prB' (t : TT) (i j : Nat) : Bool := comB (t.s.getD i oP) (t.s.getD j oP) && comB (t.d.getD i oP) (t.d.getD j oP) && (comB (t.d.getD i oP) (t.s.getD j oP) == decide (i ≠ j))
theorem sg_rr {t : TT} {N k : Nat} (hN : t.n = (N : Int)) (h : sg2 t k = true) : Rr N (t.s.getD k oP) /\ Rr N (t.d.getD k oP) := by
  unfold sg2 sgB at h
  simp only [Bool.and_eq_true, decide_eq_true_eq] at h
  exact ⟨⟨h.1.2.1, h.1.1.trans hN⟩, ⟨h.2.2.1, h.2.1.trans hN⟩⟩
theorem cm_eq {N : Nat} {a b : P} (ha : Rr N a) (hb : Rr N b) : cmB a b = comB a b := by
  unfold cmB
  rw [ha.fit hb, Bool.true_and]
theorem pr_same {t : TT} {N i j : Nat} (hN : t.n = (N : Int)) (hi : sg2 t i = true) (hj : sg2 t j = true) : prB t i j = prB' t i j := by
  obtain ⟨s1, d1⟩ := sg_rr hN hi
  obtain ⟨s2, d2⟩ := sg_rr hN hj
  unfold prB prB'
  rw [cm_eq s1 s2, cm_eq d1 d2, cm_eq d1 s2]
theorem sg_eq (p : P) (n : Int) : sgB p n = (rt p && decide (p.n = n) && !decide (p.ph.tmod 2 = 1)) := by
  unfold sgB
  cases hr : rt p
  . simp
  . obtain ⟨-, -, -, -, h4, h5⟩ := rt_iff.1 hr
    have : decide (p.ph = 0 ∨ p.ph = 2) = !decide (p.ph.tmod 2 = 1) := by
      rw [Int.tmod_eq_emod_of_nonneg h4]
      have : p.ph = 0 ∨ p.ph = 1 ∨ p.ph = 2 ∨ p.ph = 3 := by omega
      rcases this with e | e | e | e <;> rw [e] <;> decide
    rw [this]
    simp
theorem dRightT (t : TT) (a b : Option Addr) (ca cb : Nat) (w : World) (h : Th w t a b ca cb) :
    Calls Tryz.prog 20 #[tV t a b ca cb] w fun e w' => e = .returned (.bool (chB t)) /\ Below w.heap.size w w' := by
  cases hz : szB t with
  | false =>
    have : chB t = false := by
      cases e : chB t
      . rfl
      . rw [ch_size e] at hz; cases hz
    rw [this]
    exact dRight_sz t a b ca cb hz w
  | true =>
    obtain ⟨h0, h64, hls, hld⟩ := sz_of hz
    obtain ⟨N, hN⟩ : ∃ N : Nat, t.n = (N : Int) := ⟨t.n.toNat, by omega⟩
    rw [hN, Int.toNat_natCast] at hls hld
    have hN64 : N <= 64 := by omega
    have HG : Hid (∀ k, k < N -> ∀ W, Below w.heap.size w W -> (∃ gs os, a = some ⟨gs, os, none⟩ /\ gs < W.heap.size /\ Pc W gs (os + k * 4) (t.s.getD k oP)) /\ (∃ gd od, b = some ⟨gd, od, none⟩ /\ gd < W.heap.size /\ Pc W gd (od + k * 4) (t.d.getD k oP))) := hide (fun k hk W hb => ⟨(h.s.below hb).at (get_of (by omega)), (h.d.below hb).at (get_of (by omega))⟩)
    have HWs : Hid (∀ k, k < N -> Wd (t.s.getD k oP) /\ Wd (t.d.getD k oP)) := hide (fun k hk => ⟨h.ws.getD (by omega), h.wd.getD (by omega)⟩)
    have HI : Hid ((∀ k, k < N -> sg2 t k = true) -> (∀ i, i < N -> ∀ j, j < N -> prB' t i j = true) -> chB t = true) := hide (fun h1 h2 => ch_iff.2 ⟨hz, by rw [hN]; exact h1, by rw [hN]; exact fun i hi j hj => by rw [pr_same hN (h1 i hi) (h1 j hj)]; exact h2 i hi j hj⟩)
    have HN1 : Hid (∀ k, k < N -> sg2 t k = false -> chB t = false) := hide (fun k hk e => by
      cases hc : chB t
      . rfl
      . have := (ch_iff.1 hc).2.1 k (by omega); rw [e] at this; cases this)
    have HN2 : Hid ((∀ k, k < N -> sg2 t k = true) -> ∀ i j, i < N -> j < N -> prB' t i j = false -> chB t = false) := hide (fun hs i j hi hj e => by
      cases hc : chB t
      . rfl
      . have := (ch_iff.1 hc).2.2 i (by omega) j (by omega); rw [pr_same hN (hs i hi) (hs j hj), e] at this; cases this)
    have HSG : Hid (∀ k, sg2 t k = (sgB (t.s.getD k oP) t.n && sgB (t.d.getD k oP) t.n)) := hide (fun k => rfl)
    rw [hN] at HSG
    unfold tV
    rw [hN, hls, hld]
    generalize chB t = R at *
    clear h hz h0 h64 hls hld hN
    have HB := hide (bnew w (.cells #[.int .i64 (N : Int), .slice a N ca, .slice b N cb] 30))
    have HA := hide (At3.new w (.int .i64 (N : Int)) (.slice a N ca) (.slice b N cb))
    have d2 : decide (64 < (N : Int)) = false := decide_eq_false (by omega)
    have d3 : ((N : Int) != (N : Int)) = false := by simp
    go_enter Tryz.func20, Tryz.ntmps20
    go_wp2_with fail
    go_loopw [4] (fun vi wr => ∃ i : Nat, vi = .int .i64 (i : Int) /\ i <= N /\ Hid (∀ k, k < i -> sg2 t k = true) /\ Hid (Below w.heap.size w wr /\ At3 wr w.heap.size (.int .i64 (N : Int)) (.slice a N ca) (.slice b N cb))) (fun vi _ => N - (Go.RowKit.intOf vi).toNat)
    case atStart => exact ⟨0, rfl, Nat.zero_le _, hide (fun k hk => absurd hk (Nat.not_lt_zero _)), hide ⟨HB.out, HA.out⟩⟩
    case round =>
      obtain ⟨i, rfl, hi, HK, HW⟩ := hrel
      clear HB HA
      by_cases hlt : i < N
      . have hd : decide ((i : Int) < (N : Int)) = true := decide_eq_true (by omega)
        go_wp2_with fail
        go_loopw [5] (fun vk wr => ∃ k : Nat, vk = .int .i64 (k : Int) /\ k <= 2 /\ Hid ((1 <= k -> sgB (t.s.getD i oP) (N : Int) = true) /\ (2 <= k -> sgB (t.d.getD i oP) (N : Int) = true)) /\ Hid (Below w.heap.size w wr /\ At3 wr w.heap.size (.int .i64 (N : Int)) (.slice a N ca) (.slice b N cb))) (fun vk _ => 2 - (Go.RowKit.intOf vk).toNat)
        case atStart => exact ⟨0, rfl, Nat.zero_le _, hide ⟨fun e => absurd e (by decide), fun e => absurd e (by decide)⟩, HW⟩
        case round =>
          obtain ⟨k, rfl, hk, HJ, HV⟩ := hrel
          clear HW
          obtain ⟨⟨gs, os, rfl, hgs, hps⟩, ⟨gd, od, rfl, hgd, hpd⟩⟩ := HG.out i hlt _ HV.out.1
          obtain ⟨q0, q1, q2, q3⟩ := HV.out.2.cells
          by_cases hk2 : k = 2
          . subst hk2
            have HKE : Hid (∀ k, k < i + 1 -> sg2 t k = true) := hide (fun k hk => by
              by_cases e : k = i
              . subst e; rw [HSG.out, HJ.out.1 (by decide), HJ.out.2 (by decide)]; rfl
              . exact HK.out k (by omega))
            go_wp2_with fail
            go_roundw
            case rel => exact ⟨i + 1, by go_num, by omega, HKE, HV⟩
            case measure => simp [Go.RowKit.intOf]; omega
          . by_cases hk0 : k = 0
            . subst hk0
              obtain ⟨ps, hE⟩ : ∃ p, t.s.getD i oP = p := ⟨_, rfl⟩
              have hww : Wd ps := hE ▸ (HWs.out i hlt).1
              have HCR := hide (fun W => dRight ps hww W)
              have hsg := sg_eq ps (N : Int)
              have HNO : Hid (sgB ps (N : Int) = false -> R = false) := hide (fun e => HN1.out i hlt (by rw [HSG.out, hE, e]; rfl))
              have HYE : Hid (sgB ps (N : Int) = true -> (1 <= 0 + 1 -> sgB (t.s.getD i oP) (N : Int) = true) /\ (2 <= 0 + 1 -> sgB (t.d.getD i oP) (N : Int) = true)) := hide (fun e => by
                have e' := e
                rw [← hE] at e'
                exact ⟨fun _ => e', fun h2 => absurd h2 (by decide)⟩)
              rw [hE] at hps
              clear hE
              obtain ⟨a0, a1, a2, a3⟩ := hps
              obtain ⟨b0, b1, b2, b3⟩ := hpd
              generalize sgB ps (N : Int) = sg at *
              obtain ⟨pn, px, pz, pp⟩ := ps
              unfold pV at HCR
              simp only at *
              have hbn := bnew wr (.cells #[.int .i64 pn, .int .u64 (px : Int), .int .u64 (pz : Int), .int .i64 pp] 27)
              have HV1 := hide (And.intro (bkp HV.out.1 hbn) (HV.out.2.below hbn))
              have HP1 := hide (At4.new wr (.int .i64 pn) (.int .u64 (px : Int)) (.int .u64 (pz : Int)) (.int .i64 pp))
              clear hbn
              go_wp2_with fail
              generalize rt ⟨pn, px, pz, pp⟩ = r at *
              refine (HCR.out _).mono ?_
              rintro e w5 ⟨rfl, hb5⟩
              have HV5 := hide (And.intro (bkp HV1.out.1 hb5) (HV1.out.2.below hb5))
              obtain ⟨c0, c1, c2, c3, c4⟩ := (HP1.out.below hb5).cells
              clear hb5 HV1 HP1 HV HCR a0 a1 a2 a3 b0 b1 b2 b3 q0 q1 q2 q3 hgs hgd
              cases r with
              | false =>
                have hR := HNO.out (by rw [hsg]; rfl)
                subst hR
                clear hsg HNO HYE
                go_wp2_with fail
                go_ret
                exact ⟨rfl, HV5.out.1⟩
              | true =>
                by_cases hpn : pn = (N : Int)
                . subst hpn
                  by_cases hpp : Int.tmod pp 2 = 1
                  . have hR := HNO.out (by rw [hsg, decide_eq_true hpp]; simp)
                    subst hR
                    have e1 : (Int.tmod pp 2 == 1) = true := by simpa using hpp
                    clear hsg HNO HYE hpp
                    go_wp2_with fail
                    go_ret
                    exact ⟨rfl, HV5.out.1⟩
                  . have HY := hide (HYE.out (by rw [hsg, decide_eq_false hpp]; simp))
                    have e1 : (Int.tmod pp 2 == 1) = false := beq_false_of_ne hpp
                    clear hsg HNO HYE hpp
                    go_wp2_with fail
                    go_roundw
                    case rel => exact ⟨0 + 1, by go_num, by omega, HY, HV5⟩
                    case measure => simp [Go.RowKit.intOf]
                . have hR := HNO.out (by rw [hsg, decide_eq_false hpn]; simp)
                  subst hR
                  have e1 : (pn != (N : Int)) = true := bne_iff_ne.2 hpn
                  clear hsg HNO HYE hpn
                  go_wp2_with fail
                  go_ret
                  exact ⟨rfl, HV5.out.1⟩
            . obtain rfl : k = 1 := by omega
              obtain ⟨ps, hE⟩ : ∃ p, t.d.getD i oP = p := ⟨_, rfl⟩
              have hww : Wd ps := hE ▸ (HWs.out i hlt).2
              have HCR := hide (fun W => dRight ps hww W)
              have hsg := sg_eq ps (N : Int)
              have HNO : Hid (sgB ps (N : Int) = false -> R = false) := hide (fun e => HN1.out i hlt (by rw [HSG.out, hE, e]; simp))
              have HYE : Hid (sgB ps (N : Int) = true -> (1 <= 1 + 1 -> sgB (t.s.getD i oP) (N : Int) = true) /\ (2 <= 1 + 1 -> sgB (t.d.getD i oP) (N : Int) = true)) := hide (fun e => by
                have e' := e
                rw [← hE] at e'
                exact ⟨fun _ => HJ.out.1 (by decide), fun _ => e'⟩)
              rw [hE] at hpd
              clear hE
              obtain ⟨a0, a1, a2, a3⟩ := hps
              obtain ⟨b0, b1, b2, b3⟩ := hpd
              obtain ⟨os1, hos⟩ : ∃ p, t.s.getD i oP = p := ⟨_, rfl⟩
              rw [hos] at a0 a1 a2 a3
              clear hos
              obtain ⟨on, ox, oz, op⟩ := os1
              generalize sgB ps (N : Int) = sg at *
              obtain ⟨pn, px, pz, pp⟩ := ps
              unfold pV at HCR
              simp only at *
              have hbn := bnew wr (.cells #[.int .i64 pn, .int .u64 (px : Int), .int .u64 (pz : Int), .int .i64 pp] 27)
              have HV1 := hide (And.intro (bkp HV.out.1 hbn) (HV.out.2.below hbn))
              have HP1 := hide (At4.new wr (.int .i64 pn) (.int .u64 (px : Int)) (.int .u64 (pz : Int)) (.int .i64 pp))
              clear hbn
              go_wp2_with fail
              generalize rt ⟨pn, px, pz, pp⟩ = r at *
              refine (HCR.out _).mono ?_
              rintro e w5 ⟨rfl, hb5⟩
              have HV5 := hide (And.intro (bkp HV1.out.1 hb5) (HV1.out.2.below hb5))
              obtain ⟨c0, c1, c2, c3, c4⟩ := (HP1.out.below hb5).cells
              clear hb5 HV1 HP1 HV HCR a0 a1 a2 a3 b0 b1 b2 b3 q0 q1 q2 q3 hgs hgd
              cases r with
              | false =>
                have hR := HNO.out (by rw [hsg]; rfl)
                subst hR
                clear hsg HNO HYE
                go_wp2_with fail
                go_ret
                exact ⟨rfl, HV5.out.1⟩
              | true =>
                by_cases hpn : pn = (N : Int)
                . subst hpn
                  by_cases hpp : Int.tmod pp 2 = 1
                  . have hR := HNO.out (by rw [hsg, decide_eq_true hpp]; simp)
                    subst hR
                    have e1 : (Int.tmod pp 2 == 1) = true := by simpa using hpp
                    clear hsg HNO HYE hpp
                    go_wp2_with fail
                    go_ret
                    exact ⟨rfl, HV5.out.1⟩
                  . have HY := hide (HYE.out (by rw [hsg, decide_eq_false hpp]; simp))
                    have e1 : (Int.tmod pp 2 == 1) = false := beq_false_of_ne hpp
                    clear hsg HNO HYE hpp
                    go_wp2_with fail
                    go_roundw
                    case rel => exact ⟨1 + 1, by go_num, by omega, HY, HV5⟩
                    case measure => simp [Go.RowKit.intOf]
                . have hR := HNO.out (by rw [hsg, decide_eq_false hpn]; simp)
                  subst hR
                  have e1 : (pn != (N : Int)) = true := bne_iff_ne.2 hpn
                  clear hsg HNO HYE hpn
                  go_wp2_with fail
                  go_ret
                  exact ⟨rfl, HV5.out.1⟩
      . obtain rfl : N = i := by omega
        have hd : decide ((N : Int) < (N : Int)) = false := decide_eq_false (by omega)
        have HI2 := hide (HI.out HK.out)
        have HN3 := hide (HN2.out HK.out)
        clear HI HK HN1 HSG HN2
        go_wp2_with fail
        go_loopw [7] (fun vi wr => ∃ i : Nat, vi = .int .i64 (i : Int) /\ i <= N /\ Hid (∀ k, k < i -> ∀ j, j < N -> prB' t k j = true) /\ Hid (Below w.heap.size w wr /\ At3 wr w.heap.size (.int .i64 (N : Int)) (.slice a N ca) (.slice b N cb))) (fun vi _ => N - (Go.RowKit.intOf vi).toNat)
        case atStart => exact ⟨0, rfl, Nat.zero_le _, hide (fun k hk => absurd hk (Nat.not_lt_zero _)), HW⟩
        case round =>
          obtain ⟨i, rfl, hi, HK, HV⟩ := hrel
          clear HW
          by_cases hlt : i < N
          . have hd1 : decide ((i : Int) < (N : Int)) = true := decide_eq_true (by omega)
            go_wp2_with fail
            go_loopw [8] (fun vj wr => ∃ j : Nat, vj = .int .i64 (j : Int) /\ j <= N /\ Hid (∀ k, k < j -> prB' t i k = true) /\ Hid (Below w.heap.size w wr /\ At3 wr w.heap.size (.int .i64 (N : Int)) (.slice a N ca) (.slice b N cb))) (fun vj _ => N - (Go.RowKit.intOf vj).toNat)
            case atStart => exact ⟨0, rfl, Nat.zero_le _, hide (fun k hk => absurd hk (Nat.not_lt_zero _)), HV⟩
            case round =>
              obtain ⟨j, rfl, hj, HJ, HU⟩ := hrel
              clear HV
              by_cases hjt : j < N
              . have hd2 : decide ((j : Int) < (N : Int)) = true := decide_eq_true (by omega)
                have hn2 := HN3.out i j hlt hjt
                have HE : Hid (prB' t i j = true -> ∀ k, k < j + 1 -> prB' t i k = true) := hide (fun e k hk => by
                  by_cases e' : k = j
                  . subst e'; exact e
                  . exact HJ.out k (by omega))
                have c1 := fun W => dCommute14 _ _ (HWs.out i hlt).1 (HWs.out j hjt).1 W
                have c2 := fun W => dCommute14 _ _ (HWs.out i hlt).2 (HWs.out j hjt).2 W
                have c3 := fun W => dCommute14 _ _ (HWs.out i hlt).2 (HWs.out j hjt).1 W
                have hpr : prB' t i j = (comB (t.s.getD i oP) (t.s.getD j oP) && comB (t.d.getD i oP) (t.d.getD j oP) && (comB (t.d.getD i oP) (t.s.getD j oP) == decide (i ≠ j))) := rfl
                have hne : decide (i ≠ j) = ((i : Int) != (j : Int)) := by
                  by_cases e : i = j
                  . subst e; simp
                  . rw [decide_eq_true e]; exact (bne_iff_ne.2 (by omega)).symm
                rw [hne] at hpr
                obtain ⟨⟨gs, os, rfl, -, -⟩, ⟨gd, od, rfl, -, -⟩⟩ := HG.out i hlt _ HU.out.1
                have HC : Hid (∀ W, Below wr.heap.size wr W -> (W.cell? ⟨w.heap.size, 0, none⟩ = some (.int .i64 (N : Int)) /\ W.cell? ⟨w.heap.size, 1, none⟩ = some (.slice (some ⟨gs, os, none⟩) N ca) /\ W.cell? ⟨w.heap.size, 2, none⟩ = some (.slice (some ⟨gd, od, none⟩) N cb) /\ w.heap.size < W.heap.size) /\ Pc W gs (os + i * 4) (t.s.getD i oP) /\ Pc W gs (os + j * 4) (t.s.getD j oP) /\ Pc W gd (od + i * 4) (t.d.getD i oP) /\ Pc W gd (od + j * 4) (t.d.getD j oP) /\ gs < W.heap.size /\ gd < W.heap.size) := hide (fun W hb => by
                  have hb' := bkp HU.out.1 hb
                  obtain ⟨⟨gs', os', e1, k1, p1⟩, ⟨gd', od', e2, k2, p2⟩⟩ := HG.out i hlt _ hb'
                  obtain ⟨⟨gs2, os2, e3, -, p3⟩, ⟨gd2, od2, e4, -, p4⟩⟩ := HG.out j hjt _ hb'
                  cases e1
                  cases e2
                  cases e3
                  cases e4
                  exact ⟨(HU.out.2.below hb).cells, p1, p3, p2, p4, k1, k2⟩)
                generalize prB' t i j = pr at *
                generalize comB (t.s.getD i oP) (t.s.getD j oP) = r1 at *
                generalize comB (t.d.getD i oP) (t.d.getD j oP) = r2 at *
                generalize comB (t.d.getD i oP) (t.s.getD j oP) = r3 at *
                generalize t.s.getD i oP = s1 at *
                generalize t.s.getD j oP = s2 at *
                generalize t.d.getD i oP = d1 at *
                generalize t.d.getD j oP = d2' at *
                obtain ⟨m1, x1, z1, p1⟩ := s1
                obtain ⟨m2, x2, z2, p2⟩ := s2
                obtain ⟨m3, x3, z3, p3⟩ := d1
                obtain ⟨m4, x4, z4, p4⟩ := d2'
                unfold pV at c1 c2 c3
                simp only at c1 c2 c3
                have HPR := hide hpr
                clear hpr hne HJ
                cases r1
                rotate_left
                cases r2
                rotate_left
                by_cases hq : (r3 == ((i : Int) != (j : Int))) = true
                all_goals (
                  go_wp2_with fail
                  refine wp_region_quiet_C (C := fun W => Below wr.heap.size wr W) (by kernel_rfl) (by kernel_rfl) (bdrew (Below.refl _ _) 1) ?_
                  refine unhideP ?_
                  repeat
                    refine wpQuiet_stepH (fun K hK => ?_)
                    go_simp
                    first
                      | (refine hK _ ?_; clear hK K)
                      | (apply Exists.intro
                         refine ⟨fun W hW => ?_, hK _ ?_⟩
                         first
                           | ((with_reducible refine Calls.mono (c1 _) ?_); rintro e x ⟨rfl, hb⟩; exact ⟨rfl, bkp hW hb⟩)
                           | ((with_reducible refine Calls.mono (c2 _) ?_); rintro e x ⟨rfl, hb⟩; exact ⟨rfl, bkp hW hb⟩)
                           | ((with_reducible refine Calls.mono (c3 _) ?_); rintro e x ⟨rfl, hb⟩; exact ⟨rfl, bkp hW hb⟩)
                           | (obtain ⟨⟨p0, p1, p2, p3⟩, ⟨a0, a1, a2, a3⟩, ⟨b0, b1, b2, b3⟩, ⟨d0, d1, d2, d3⟩, ⟨e0, e1, e2, e3⟩, q1, q2⟩ := HC.out W hW; go_simp; rfl)
                         clear hK K)
                  refine wpQuiet_nilH ?_
                  intro W hW
                  have HX := hide (And.intro (bkp HU.out.1 hW) (HU.out.2.below hW))
                  clear hW HC HU c1 c2 c3)
                . have HE' := hide (HE.out (by rw [HPR.out, hq]; rfl))
                  have e1 : (r3 != ((i : Int) != (j : Int))) = false := by unfold bne at *; rw [hq]; rfl
                  clear hn2 HE HPR hq
                  go_wp2_with fail
                  go_roundw
                  case rel => exact ⟨j + 1, by go_num, by omega, HE', HX⟩
                  case measure => simp [Go.RowKit.intOf]; omega
                . have hq' : (r3 == ((i : Int) != (j : Int))) = false := by simpa using hq
                  have hR := hn2 (by rw [HPR.out, hq']; rfl)
                  subst hR
                  have e1 : (r3 != ((i : Int) != (j : Int))) = true := by unfold bne at *; rw [hq']; rfl
                  clear hn2 HE HPR hq hq'
                  go_wp2_with fail
                  go_ret
                  exact ⟨rfl, HX.out.1⟩
                . have hR := hn2 (by rw [HPR.out]; rfl)
                  subst hR
                  clear hn2 HE HPR
                  go_wp2_with fail
                  go_ret
                  exact ⟨rfl, HX.out.1⟩
                . have hR := hn2 (by rw [HPR.out]; rfl)
                  subst hR
                  clear hn2 HE HPR
                  go_wp2_with fail
                  go_ret
                  exact ⟨rfl, HX.out.1⟩
              . obtain rfl : N = j := by omega
                have hd2 : decide ((N : Int) < (N : Int)) = false := decide_eq_false (by omega)
                have HE' : Hid (∀ k, k < i + 1 -> ∀ j, j < N -> prB' t k j = true) := hide (fun k hk j hj => by
                  by_cases e' : k = i
                  . subst e'; exact HJ.out j hj
                  . exact HK.out k (by omega) j hj)
                go_wp2_with fail
                go_roundw
                case rel => exact ⟨i + 1, by go_num, by omega, HE', HU⟩
                case measure => simp [Go.RowKit.intOf]; omega
          . obtain rfl : N = i := by omega
            have hR := HI2.out HK.out
            subst hR
            go_wp2_with fail
            go_ret
            exact ⟨rfl, HV.out.1⟩
end Go.Proofs.YtoickolhekhgmaaGreatDoor.Tbl
