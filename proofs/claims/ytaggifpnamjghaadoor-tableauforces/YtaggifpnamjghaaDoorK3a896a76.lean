import Derived.Test.YtaggifpnamjghaaDoorKc4aa3abb
import Derived.Test.YtaggifpnamjghaaDoorK27a76083
import Derived.Deep.Cut
set_option maxRecDepth 100000
set_option maxHeartbeats 8000000
namespace Go.Proofs.YtaggifpnamjghaaDoor.Tbl
open Go.RowKit Go.Shelf Go.Proofs.YtaggifpnamjghaaDoor.Pau Go.Proofs.YtaggifpnamjghaaDoor.Gt
theorem mul_step (l : List P) (q : P) (k : Nat) (T : P -> Bool) (i : Nat) (h1 : i ≠ k) (h2 : T (l.getD i oP) = true) : (upd l (mulF q k T) i).set i (pdP (l.getD i oP) q) = upd l (mulF q k T) (i + 1) := by
  have := upd_succ l (mulF q k T) i
  unfold mulF at this
  rw [if_pos ⟨h1, h2⟩] at this
  exact this
theorem mul_stay (l : List P) (q : P) (k : Nat) (T : P -> Bool) (i : Nat) (h : i = k ∨ T (l.getD i oP) = false) : upd l (mulF q k T) (i + 1) = upd l (mulF q k T) i := upd_same _ _ _ (fun _ => by
  unfold mulF
  rw [if_neg]
  rintro ⟨h1, h2⟩
  rcases h with h | h
  . exact h1 h
  . rw [h] at h2; cases h2)
structure Fi2 (t : TT) (p : P) (N k : Nat) : Prop where
  n : t.n = (N : Int)
  n64 : N <= 64
  ls : t.s.length = N
  ld : t.d.length = N
  kl : k < N
  lo : loI t p = (k : Int)
  ix : lsI t p = k
  ts : ∀ i, i < N -> tnB p (t.s.getD i oP) = !comB (t.s.getD i oP) p
  td : ∀ i, i < N -> tnB p (t.d.getD i oP) = !comB (t.d.getD i oP) p
  ws : ∀ i, i < N -> Wd (t.s.getD i oP)
  wd : ∀ i, i < N -> Wd (t.d.getD i oP)
theorem fi2_of {t : TT} {p : P} (hc : chB t = true) (hsg : sgB p t.n = true) (hl : lsB t p = true) : ∃ N k, Fi2 t p N k /\ Rr N p := by
  obtain ⟨h0, h64, hls, hld⟩ := sz_of (ch_size hc)
  obtain ⟨N, hN⟩ : ∃ N : Nat, t.n = (N : Int) := ⟨t.n.toNat, by omega⟩
  rw [hN, Int.toNat_natCast] at hls hld
  rw [hN] at hsg
  have hp := (sgB_iff.1 hsg).1
  have hr := fun i (hi : i < N) => sg_rr hN ((ch_iff.1 hc).2.1 i (by rw [hN]; omega))
  have hk := ls_at hc hN hp hl
  refine ⟨N, lsI t p, ⟨hN, by omega, hls, hld, hk.1, ?_, rfl, fun i hi => ?_, fun i hi => ?_, fun i hi => (hr i hi).1.wd, fun i hi => (hr i hi).2.wd⟩, hp⟩
  . unfold loI; rw [if_pos hl]
  . unfold tnB; rw [cm_eq (hr i hi).1 hp]
  . unfold tnB; rw [cm_eq (hr i hi).2 hp]
theorem get_some {w : World} {B : Nat} {ao : Option Addr} {l : List P} (h : POo w B ao l) (h0 : 0 < l.length) : ∃ g, ao = some ⟨g, 0, none⟩ /\ B <= g /\ PO w g l := by
  rcases h with h | h
  . rw [h] at h0; simp at h0
  . exact h
theorem dForce_two (t : TT) (a b : Option Addr) (ca cb : Nat) (p : P) (hp : Wd p) (hm : mbI t p = 0) (hcs : csI t p = 0) (hl : lsB t p = true) (w : World) (h : Th w t a b ca cb) :
    Calls Tryd.prog 12 #[tV t a b ca cb, pV p] w fun e w' => ∃ a' b' ca' cb', e = .returned (.tuple #[tV (fcT t p) a' b' ca' cb', .int .i64 1, .int .i64 0]) /\ Th w' (fcT t p) a' b' ca' cb' /\ Below w.heap.size w w' := by
  have HT := hide h
  obtain ⟨hc, hz, hsg⟩ := cs_ok hcs
  obtain ⟨hs64, hd64⟩ := ch_len hc
  have HC1 := hide (fun W (hb : Below w.heap.size w W) => dMember t a b ca cb p hp W (h.below hb))
  have HC2 := hide (fun W (hb : Below w.heap.size w W) => dCopy t a b ca cb (by omega) (by omega) W (h.below hb))
  rw [hm, hcs] at HC1
  obtain ⟨hA, hP, hZ⟩ := three343 w (.int .i64 t.n) (.slice a t.s.length ca) (.slice b t.d.length cb) (.int .i64 p.n) (.int .u64 (p.x : Int)) (.int .u64 (p.z : Int)) (.int .i64 p.ph) (.int .i64 0) (.slice none 0 0) (.slice none 0 0)
  have HA := hide hA
  have HP := hide hP
  have HZ := hide hZ
  have HB0 := hide (bkp (bkp (bnew w (.cells #[.int .i64 t.n, .slice a t.s.length ca, .slice b t.d.length cb] 24)) (bnew _ (.cells #[.int .i64 p.n, .int .u64 (p.x : Int), .int .u64 (p.z : Int), .int .i64 p.ph] 32))) (bnew _ (.cells #[.int .i64 0, .slice none 0 0, .slice none 0 0] 24)))
  clear hA hP hZ h
  obtain ⟨N, k, hF, hpr⟩ := fi2_of hc hsg hl
  have HC3 := hide (fun W (hb : Below w.heap.size w W) => dLoose t a b ca cb hc p N hF.n hpr W (HT.out.below hb))
  rw [hF.lo] at HC3
  have hk := hF.kl
  obtain ⟨gs, os, rfl, hcs1⟩ := HT.out.s.get (by rw [hF.ls]; omega)
  obtain ⟨gd, od, rfl, hcd1⟩ := HT.out.d.get (by rw [hF.ld]; omega)
  have HRS : Hid (∀ V, Below w.heap.size w V -> ∀ i, i < N -> Pc V gs (os + i * 4) (t.s.getD i oP) /\ gs < V.heap.size) := hide (fun V hb i hi => by
    have := (hcs1 i _ (get_of (by rw [hF.ls]; exact hi))).below hb
    exact ⟨this, this.lt⟩)
  have HRD : Hid (∀ V, Below w.heap.size w V -> ∀ i, i < N -> Pc V gd (od + i * 4) (t.d.getD i oP) /\ gd < V.heap.size) := hide (fun V hb i hi => by
    have := (hcd1 i _ (get_of (by rw [hF.ld]; exact hi))).below hb
    exact ⟨this, this.lt⟩)
  have HCS : Hid (∀ i, i < N -> ∀ W, Calls Tryd.prog 35 #[pV (t.s.getD i oP), pV p] W fun e w' => e = .returned (.bool (comB (t.s.getD i oP) p)) /\ Below W.heap.size W w') := hide (fun i hi W => dCommute _ _ (hF.ws i hi) hp W)
  have HCD : Hid (∀ i, i < N -> ∀ W, Calls Tryd.prog 35 #[pV (t.d.getD i oP), pV p] W fun e w' => e = .returned (.bool (comB (t.d.getD i oP) p)) /\ Below W.heap.size W w') := hide (fun i hi W => dCommute _ _ (hF.wd i hi) hp W)
  have HMS : Hid (∀ i, i < N -> ∀ W, Calls Tryd.prog 36 #[pV (t.s.getD i oP), pV (t.s.getD k oP)] W fun e w' => e = .returned (pV (pdP (t.s.getD i oP) (t.s.getD k oP))) /\ Below W.heap.size W w') := hide (fun i hi W => dTimes _ _ (hF.ws i hi) (hF.ws k hk) W)
  have HMD : Hid (∀ i, i < N -> ∀ W, Calls Tryd.prog 36 #[pV (t.d.getD i oP), pV (t.s.getD k oP)] W fun e w' => e = .returned (pV (pdP (t.d.getD i oP) (t.s.getD k oP))) /\ Below W.heap.size W w') := hide (fun i hi W => dTimes _ _ (hF.wd i hi) (hF.ws k hk) W)
  have HSa : Hid (∀ i, i < N -> ¬ i = k -> comB (t.s.getD i oP) p = false -> (upd t.s (mulF (t.s.getD k oP) k (tnB p)) i).set i (pdP (t.s.getD i oP) (t.s.getD k oP)) = upd t.s (mulF (t.s.getD k oP) k (tnB p)) (i + 1)) := hide (fun i hi h1 h2 => mul_step _ _ _ _ _ h1 (by rw [hF.ts i hi, h2]; rfl))
  have HSb : Hid (∀ i, i < N -> (i = k ∨ comB (t.s.getD i oP) p = true) -> upd t.s (mulF (t.s.getD k oP) k (tnB p)) (i + 1) = upd t.s (mulF (t.s.getD k oP) k (tnB p)) i) := hide (fun i hi h1 => mul_stay _ _ _ _ _ (h1.imp id (fun e => by rw [hF.ts i hi, e]; rfl)))
  have HDa : Hid (∀ i, i < N -> ¬ i = k -> comB (t.d.getD i oP) p = false -> (upd t.d (mulF (t.s.getD k oP) k (tnB p)) i).set i (pdP (t.d.getD i oP) (t.s.getD k oP)) = upd t.d (mulF (t.s.getD k oP) k (tnB p)) (i + 1)) := hide (fun i hi h1 h2 => mul_step _ _ _ _ _ h1 (by rw [hF.td i hi, h2]; rfl))
  have HDb : Hid (∀ i, i < N -> (i = k ∨ comB (t.d.getD i oP) p = true) -> upd t.d (mulF (t.s.getD k oP) k (tnB p)) (i + 1) = upd t.d (mulF (t.s.getD k oP) k (tnB p)) i) := hide (fun i hi h1 => mul_stay _ _ _ _ _ (h1.imp id (fun e => by rw [hF.td i hi, e]; rfl)))
  have HGS : Hid (∀ i j, j < N -> ∃ x, (upd t.s (mulF (t.s.getD k oP) k (tnB p)) i)[j]? = some x) := hide (fun i j hj => ⟨_, upd_at _ _ _ _ (by rw [hF.ls]; exact hj)⟩)
  have HGD : Hid (∀ i j, j < N -> ∃ x, (upd t.d (mulF (t.s.getD k oP) k (tnB p)) i)[j]? = some x) := hide (fun i j hj => ⟨_, upd_at _ _ _ _ (by rw [hF.ld]; exact hj)⟩)
  have HU0 : Hid (upd t.s (mulF (t.s.getD k oP) k (tnB p)) 0 = t.s /\ upd t.d (mulF (t.s.getD k oP) k (tnB p)) 0 = t.d) := hide ⟨upd_zero _ _, upd_zero _ _⟩
  have HEND : Hid (∀ W g1 g2 c1 c2, PO W g1 ((upd t.s (mulF (t.s.getD k oP) k (tnB p)) N).set k p) -> PO W g2 ((upd t.d (mulF (t.s.getD k oP) k (tnB p)) N).set k (t.s.getD k oP)) -> N <= c1 -> N <= c2 -> Th W (fcT t p) (some ⟨g1, 0, none⟩) (some ⟨g2, 0, none⟩) c1 c2) := hide (fun W g1 g2 c1 c2 h1 h2 h3 h4 => by
    have e1 : (fcT t p).s = (upd t.s (mulF (t.s.getD k oP) k (tnB p)) N).set k p := by unfold fcT mlL; rw [hF.ix, hF.ls]
    have e2 : (fcT t p).d = (upd t.d (mulF (t.s.getD k oP) k (tnB p)) N).set k (t.s.getD k oP) := by unfold fcT mlL; rw [hF.ix, hF.ld]
    have l1 : (fcT t p).s.length = N := by rw [e1, List.length_set, upd_len, hF.ls]
    have l2 : (fcT t p).d.length = N := by rw [e2, List.length_set, upd_len, hF.ld]
    have w1 : Wl (fcT t p).s := wl_set (wl_ml HT.out.ws (by rw [hF.ix]; exact hF.ws k hk) _ _) hp _
    have w2 : Wl (fcT t p).d := wl_set (wl_ml HT.out.wd (by rw [hF.ix]; exact hF.ws k hk) _ _) (by rw [hF.ix]; exact hF.ws k hk) _
    refine ⟨by rw [e1]; exact h1.pin, by rw [e2]; exact h2.pin, w1, w2, by rw [l1]; exact h3, by rw [l2]; exact h4, by rw [l1]; have := hF.n64; omega, by rw [l2]; have := hF.n64; omega⟩)
  have HLEN : Hid ((fcT t p).n = (N : Int) /\ (fcT t p).s.length = N /\ (fcT t p).d.length = N) := hide ⟨hF.n, by show (List.set _ _ _).length = N; rw [List.length_set, ml_len, hF.ls], by show (List.set _ _ _).length = N; rw [List.length_set, ml_len, hF.ld]⟩
  have HTN : Hid (∀ W B a' b' c1 c2, Tn W B t a' b' c1 c2 -> ∃ g1 g2, a' = some ⟨g1, 0, none⟩ /\ b' = some ⟨g2, 0, none⟩ /\ B <= g1 /\ B <= g2 /\ g1 ≠ g2 /\ PO W g1 t.s /\ PO W g2 t.d /\ N <= c1 /\ N <= c2) := hide (fun W B a' b' c1 c2 hT => by
    obtain ⟨g1, e1, b1, o1⟩ := get_some hT.s (by rw [hF.ls]; omega)
    obtain ⟨g2, e2, b2, o2⟩ := get_some hT.d (by rw [hF.ld]; omega)
    refine ⟨g1, g2, e1, e2, b1, b2, ?_, o1, o2, by rw [← hF.ls]; exact hT.la, by rw [← hF.ld]; exact hT.lb⟩
    rcases hT.ne with e | e | e
    . have := hF.ls; rw [e] at this; simp at this; omega
    . have := hF.ld; rw [e] at this; simp at this; omega
    . exact e _ _ e1 e2)
  have hn64 := hF.n64
  unfold tV at HC1 HC2 HC3 ⊢
  rw [HLEN.out.1, HLEN.out.2.1, HLEN.out.2.2]
  rw [hF.ls, hF.ld, hF.n] at HC1 HC2 HC3 HA HP HZ HB0 ⊢
  clear HLEN hcs1 hcd1 hm hcs hc hz hsg hp HT hF hpr hs64 hd64 hl
  generalize upd t.s (mulF (t.s.getD k oP) k (tnB p)) = US at *
  generalize upd t.d (mulF (t.s.getD k oP) k (tnB p)) = UD at *
  generalize fcT t p = R at *
  obtain ⟨pn, px, pz, pph⟩ := p
  unfold pV at HC1 HC3 HCS HCD HMS HMD ⊢
  simp only at *
  go_enter Tryd.func12, Tryd.ntmps12
  go_wp2_with fail
  refine (HC1.out _ HB0.out).mono ?_
  rintro e w1 ⟨rfl, hb1⟩
  have HB1 := hide (bkp HB0.out hb1)
  have HA1 := hide (HA.out.below hb1)
  have HP1 := hide (HP.out.below hb1)
  have HZ1 := hide (HZ.out.below hb1)
  have HL1 : Hid (w.heap.size + 1 + 1 < w1.heap.size) := hide HZ1.out.lt
  clear hb1 HA HP HZ HB0 HC1
  obtain ⟨x0, x1, x2, x3⟩ := HA1.out.cells
  go_wp2_with fail
  refine (HC2.out _ HB1.out).mono ?_
  rintro e w2 ⟨a', b', ca', cb', rfl, hTn, hb2⟩
  have HTn := hide hTn
  have HB2 := hide (bkp HB1.out hb2)
  have HA2 := hide (HA1.out.below hb2)
  have HP2 := hide (HP1.out.below hb2)
  have HZ2 := hide (HZ1.out.below hb2)
  have HL2 : Hid (w1.heap.size <= w2.heap.size) := hide hb2.size
  clear hb2 hTn HB1 HA1 HP1 HZ1 HC2 x0 x1 x2 x3
  obtain ⟨g1, g2, rfl, rfl, hg1, hg2, hg12, ho1, ho2, hl1, hl2⟩ := HTN.out _ _ _ _ _ _ HTn.out
  have HI0 : Hid (Fo w (w2.alloc (.cells #[.int .i64 (N : Int), .slice (some ⟨g1, 0, none⟩) N ca', .slice (some ⟨g2, 0, none⟩) N cb'] 24)) N ⟨pn, px, pz, pph⟩ (some ⟨gs, os, none⟩) (some ⟨gd, od, none⟩) ca cb w2.heap.size g1 g2 ca' cb' (US 0) (UD 0)) := hide (by
    have hb := bnew w2 (.cells #[.int .i64 (N : Int), .slice (some ⟨g1, 0, none⟩) N ca', .slice (some ⟨g2, 0, none⟩) N cb'] 24)
    have q1 := ho1.lt
    have q2 := ho2.lt
    have q3 := HL1.out
    have q4 := HL2.out
    exact ⟨HA2.out.below hb, HP2.out.below hb, HZ2.out.below hb, At3.new _ _ _ _, by rw [HU0.out.1]; exact ho1.below hb, by rw [HU0.out.2]; exact ho2.below hb, bkp HB2.out hb, by omega, by omega, by omega, hg12, by omega, by omega⟩)
  have HLL := hide (And.intro hl1 hl2)
  clear HTN HTn HA2 HP2 HZ2 HB2 HU0 hg1 hg2 hg12 ho1 ho2 hl1 hl2 HL1 HL2
  obtain ⟨x0, x1, x2, x3⟩ := HI0.out.tb.cells
  obtain ⟨y0, y1, y2, y3, y4⟩ := HI0.out.pp.cells
  go_wp2_with fail
  generalize w2.alloc (.cells #[.int .i64 (N : Int), .slice (some ⟨g1, 0, none⟩) N ca', .slice (some ⟨g2, 0, none⟩) N cb'] 24) = V3 at *
  refine (HC3.out _ HI0.out.bw).mono ?_
  rintro e w4 ⟨rfl, hb4⟩
  have HI4 := hide (HI0.out.keep hb4)
  clear HI0 HC3 hb4 x0 x1 x2 x3 y0 y1 y2 y3 y4
  go_wp2_with fail
  go_loopw [11] (fun vi wr => ∃ i : Nat, vi = .int .i64 (i : Int) /\ i <= N /\ Hid (Fo w wr N ⟨pn, px, pz, pph⟩ (some ⟨gs, os, none⟩) (some ⟨gd, od, none⟩) ca cb w2.heap.size g1 g2 ca' cb' (US i) (UD i))) (fun vi _ => N - (Go.RowKit.intOf vi).toNat)
  case atStart => exact ⟨0, rfl, Nat.zero_le _, HI4⟩
  case round =>
    obtain ⟨i, rfl, hi, HI⟩ := hrel
    clear HI4
    obtain ⟨x0, x1, x2, x3⟩ := HI.out.tb.cells
    by_cases h : i < N
    . have hd : decide ((i : Int) < (N : Int)) = true := decide_eq_true (by omega)
      have hsa := HSa.out i h
      have hsb := HSb.out i h
      have hda := HDa.out i h
      have hdb := HDb.out i h
      have c1 := HCS.out i h
      have c2 := HCD.out i h
      have c3 := HMS.out i h
      have c4 := HMD.out i h
      have HPS := hide (fun V hb => HRS.out V hb i h)
      have HPD := hide (fun V hb => HRD.out V hb i h)
      have HPK := hide (fun V hb => HRS.out V hb k hk)
      generalize pdP (t.s.getD i oP) (t.s.getD k oP) = QS at *
      generalize pdP (t.d.getD i oP) (t.s.getD k oP) = QD at *
      generalize comB (t.s.getD i oP) ⟨pn, px, pz, pph⟩ = bS at *
      generalize comB (t.d.getD i oP) ⟨pn, px, pz, pph⟩ = bD at *
      generalize t.s.getD i oP = si at *
      generalize t.d.getD i oP = di at *
      generalize t.s.getD k oP = sk at *
      obtain ⟨m1, u1, v1, f1⟩ := si
      obtain ⟨m2, u2, v2, f2⟩ := di
      obtain ⟨m3, u3, v3, f3⟩ := sk
      obtain ⟨m4, u4, v4, f4⟩ := QS
      obtain ⟨m5, u5, v5, f5⟩ := QD
      simp only at c1 c2 c3 c4
      have hij : (i : Int) = i := rfl
      clear hij HSa HSb HDa HDb HCS HCD HMS HMD HRS HRD HEND HLL
      go_wp2_with fail
      by_cases hk1 : i = k
      . have HUS := hide (hsb (.inl hk1))
        have HUD := hide (hdb (.inl hk1))
        have e1 : ((i : Int) != (k : Int)) = false := by rw [hk1]; simp
        clear hsa hsb hda hdb hk1 x0 x1 x2 x3
        have HCS : Hid (∀ W, Below wr.heap.size wr W -> (W.cell? ⟨w.heap.size, 0, none⟩ = some (.int .i64 (N : Int)) /\ W.cell? ⟨w.heap.size, 1, none⟩ = some (.slice (some ⟨gs, os, none⟩) N ca) /\ W.cell? ⟨w.heap.size, 2, none⟩ = some (.slice (some ⟨gd, od, none⟩) N cb) /\ w.heap.size < W.heap.size) /\ (W.cell? ⟨w.heap.size + 1, 0, none⟩ = some (.int .i64 pn) /\ W.cell? ⟨w.heap.size + 1, 1, none⟩ = some (.int .u64 (px : Int)) /\ W.cell? ⟨w.heap.size + 1, 2, none⟩ = some (.int .u64 (pz : Int)) /\ W.cell? ⟨w.heap.size + 1, 3, none⟩ = some (.int .i64 pph) /\ w.heap.size + 1 < W.heap.size) /\ Pc W gs (os + i * 4) ⟨m1, u1, v1, f1⟩ /\ Pc W gd (od + i * 4) ⟨m2, u2, v2, f2⟩ /\ gs < W.heap.size /\ gd < W.heap.size) := hide (fun W hW => ⟨(HI.out.tb.below hW).cells, (HI.out.pp.below hW).cells, (HPS.out W (bkp HI.out.bw hW)).1, (HPD.out W (bkp HI.out.bw hW)).1, (HPS.out W (bkp HI.out.bw hW)).2, (HPD.out W (bkp HI.out.bw hW)).2⟩)
        refine wp_region_quiet_C (C := fun W => Below wr.heap.size wr W) (by kernel_rfl) (by kernel_rfl) (bdrew (Below.refl _ _) 1) ?_
        refine unhideP ?_
        repeat
          refine wpQuiet_stepH (fun K hK => ?_)
          go_simp
          first
            | (refine hK _ ?_; clear hK K)
            | (apply Exists.intro
               refine ⟨fun W hW => ?_, hK _ ?_⟩
               first
                 | ((with_reducible refine Calls.mono (c1 _) ?_); rintro e x ⟨rfl, hb⟩; exact ⟨rfl, bkp hW hb⟩)
                 | (obtain ⟨⟨p0, p1, p2, p3⟩, ⟨a0, a1, a2, a3, a4⟩, ⟨b0, b1, b2, b3⟩, ⟨d0, d1, d2, d3⟩, e1, e2⟩ := HCS.out W hW; go_simp; rfl)
               clear hK K)
        refine wpQuiet_nilH ?_
        intro WS hWS
        have HIS := hide (HI.out.keep hWS)
        clear hWS HI HCS
        go_wp2_with fail
        have HXS : Hid (Fo w WS N ⟨pn, px, pz, pph⟩ (some ⟨gs, os, none⟩) (some ⟨gd, od, none⟩) ca cb w2.heap.size g1 g2 ca' cb' (US (i + 1)) (UD i)) := hide (by rw [HUS.out]; exact HIS.out)
        clear HIS
        have HCD : Hid (∀ W, Below WS.heap.size WS W -> (W.cell? ⟨w.heap.size, 0, none⟩ = some (.int .i64 (N : Int)) /\ W.cell? ⟨w.heap.size, 1, none⟩ = some (.slice (some ⟨gs, os, none⟩) N ca) /\ W.cell? ⟨w.heap.size, 2, none⟩ = some (.slice (some ⟨gd, od, none⟩) N cb) /\ w.heap.size < W.heap.size) /\ (W.cell? ⟨w.heap.size + 1, 0, none⟩ = some (.int .i64 pn) /\ W.cell? ⟨w.heap.size + 1, 1, none⟩ = some (.int .u64 (px : Int)) /\ W.cell? ⟨w.heap.size + 1, 2, none⟩ = some (.int .u64 (pz : Int)) /\ W.cell? ⟨w.heap.size + 1, 3, none⟩ = some (.int .i64 pph) /\ w.heap.size + 1 < W.heap.size) /\ Pc W gs (os + i * 4) ⟨m1, u1, v1, f1⟩ /\ Pc W gd (od + i * 4) ⟨m2, u2, v2, f2⟩ /\ gs < W.heap.size /\ gd < W.heap.size) := hide (fun W hW => ⟨(HXS.out.tb.below hW).cells, (HXS.out.pp.below hW).cells, (HPS.out W (bkp HXS.out.bw hW)).1, (HPD.out W (bkp HXS.out.bw hW)).1, (HPS.out W (bkp HXS.out.bw hW)).2, (HPD.out W (bkp HXS.out.bw hW)).2⟩)
        refine wp_region_quiet_C (C := fun W => Below WS.heap.size WS W) (by kernel_rfl) (by kernel_rfl) (bdrew (Below.refl _ _) 1) ?_
        refine unhideP ?_
        repeat
          refine wpQuiet_stepH (fun K hK => ?_)
          go_simp
          first
            | (refine hK _ ?_; clear hK K)
            | (apply Exists.intro
               refine ⟨fun W hW => ?_, hK _ ?_⟩
               first
                 | ((with_reducible refine Calls.mono (c2 _) ?_); rintro e x ⟨rfl, hb⟩; exact ⟨rfl, bkp hW hb⟩)
                 | (obtain ⟨⟨p0, p1, p2, p3⟩, ⟨a0, a1, a2, a3, a4⟩, ⟨b0, b1, b2, b3⟩, ⟨d0, d1, d2, d3⟩, e1, e2⟩ := HCD.out W hW; go_simp; rfl)
               clear hK K)
        refine wpQuiet_nilH ?_
        intro WD hWD
        have HID := hide (HXS.out.keep hWD)
        clear hWD HXS HCD
        go_wp2_with fail
        have HXD : Hid (Fo w WD N ⟨pn, px, pz, pph⟩ (some ⟨gs, os, none⟩) (some ⟨gd, od, none⟩) ca cb w2.heap.size g1 g2 ca' cb' (US (i + 1)) (UD (i + 1))) := hide (by rw [HUD.out]; exact HID.out)
        clear HID
        go_roundw
        case rel => exact ⟨i + 1, by go_num, by omega, HXD⟩
        case measure => simp [Go.RowKit.intOf]; omega
      . cases bS with
        | false =>
          cases bD with
          | false =>
            have HUS := hide (hsa hk1 rfl)
            have HUD := hide (hda hk1 rfl)
            have e1 : ((i : Int) != (k : Int)) = true := bne_iff_ne.2 (by omega)
            clear hsa hsb hda hdb hk1 x0 x1 x2 x3
            have HCS : Hid (∀ W, Below wr.heap.size wr W -> (W.cell? ⟨w.heap.size, 0, none⟩ = some (.int .i64 (N : Int)) /\ W.cell? ⟨w.heap.size, 1, none⟩ = some (.slice (some ⟨gs, os, none⟩) N ca) /\ W.cell? ⟨w.heap.size, 2, none⟩ = some (.slice (some ⟨gd, od, none⟩) N cb) /\ w.heap.size < W.heap.size) /\ (W.cell? ⟨w.heap.size + 1, 0, none⟩ = some (.int .i64 pn) /\ W.cell? ⟨w.heap.size + 1, 1, none⟩ = some (.int .u64 (px : Int)) /\ W.cell? ⟨w.heap.size + 1, 2, none⟩ = some (.int .u64 (pz : Int)) /\ W.cell? ⟨w.heap.size + 1, 3, none⟩ = some (.int .i64 pph) /\ w.heap.size + 1 < W.heap.size) /\ Pc W gs (os + i * 4) ⟨m1, u1, v1, f1⟩ /\ Pc W gd (od + i * 4) ⟨m2, u2, v2, f2⟩ /\ gs < W.heap.size /\ gd < W.heap.size) := hide (fun W hW => ⟨(HI.out.tb.below hW).cells, (HI.out.pp.below hW).cells, (HPS.out W (bkp HI.out.bw hW)).1, (HPD.out W (bkp HI.out.bw hW)).1, (HPS.out W (bkp HI.out.bw hW)).2, (HPD.out W (bkp HI.out.bw hW)).2⟩)
            refine wp_region_quiet_C (C := fun W => Below wr.heap.size wr W) (by kernel_rfl) (by kernel_rfl) (bdrew (Below.refl _ _) 1) ?_
            refine unhideP ?_
            repeat
              refine wpQuiet_stepH (fun K hK => ?_)
              go_simp
              first
                | (refine hK _ ?_; clear hK K)
                | (apply Exists.intro
                   refine ⟨fun W hW => ?_, hK _ ?_⟩
                   first
                     | ((with_reducible refine Calls.mono (c1 _) ?_); rintro e x ⟨rfl, hb⟩; exact ⟨rfl, bkp hW hb⟩)
                     | (obtain ⟨⟨p0, p1, p2, p3⟩, ⟨a0, a1, a2, a3, a4⟩, ⟨b0, b1, b2, b3⟩, ⟨d0, d1, d2, d3⟩, e1, e2⟩ := HCS.out W hW; go_simp; rfl)
                   clear hK K)
            refine wpQuiet_nilH ?_
            intro WS hWS
            have HIS := hide (HI.out.keep hWS)
            clear hWS HI HCS
            go_wp2_with fail
            have HC : Hid (∀ W, Below WS.heap.size WS W -> (W.cell? ⟨w.heap.size, 0, none⟩ = some (.int .i64 (N : Int)) /\ W.cell? ⟨w.heap.size, 1, none⟩ = some (.slice (some ⟨gs, os, none⟩) N ca) /\ W.cell? ⟨w.heap.size, 2, none⟩ = some (.slice (some ⟨gd, od, none⟩) N cb) /\ w.heap.size < W.heap.size) /\ (W.cell? ⟨w2.heap.size, 0, none⟩ = some (.int .i64 (N : Int)) /\ W.cell? ⟨w2.heap.size, 1, none⟩ = some (.slice (some ⟨g1, 0, none⟩) N ca') /\ W.cell? ⟨w2.heap.size, 2, none⟩ = some (.slice (some ⟨g2, 0, none⟩) N cb') /\ w2.heap.size < W.heap.size) /\ Pc W gs (os + i * 4) ⟨m1, u1, v1, f1⟩ /\ Pc W gs (os + k * 4) ⟨m3, u3, v3, f3⟩ /\ gs < W.heap.size /\ gs < W.heap.size /\ g1 < W.heap.size) := hide (fun W hW => ⟨(HIS.out.tb.below hW).cells, (HIS.out.cc.below hW).cells, (HPS.out W (bkp HIS.out.bw hW)).1, (HPK.out W (bkp HIS.out.bw hW)).1, (HPS.out W (bkp HIS.out.bw hW)).2, (HPK.out W (bkp HIS.out.bw hW)).2, (HIS.out.so.below hW).lt⟩)
            refine wp_region_quiet_last (C := fun W => Below WS.heap.size WS W) (by kernel_rfl) 15 rfl (by kernel_rfl) (by kernel_rfl) (bdrew (Below.refl _ _) 1) ?_
            simp only [List.take_succ_cons, List.take_zero]
            repeat
              refine wpQuiet_step (fun K hK => ?_)
              go_simp
              first
                | (refine hK _ ?_; clear hK K)
                | (apply Exists.intro
                   refine ⟨fun W hW => ?_, hK _ ?_⟩
                   first
                     | ((with_reducible refine Calls.mono (c3 _) ?_); rintro e x ⟨rfl, hb⟩; exact ⟨rfl, bkp hW hb⟩)
                     | (obtain ⟨⟨p0, p1, p2, p3⟩, ⟨a0, a1, a2, a3⟩, ⟨b0, b1, b2, b3⟩, ⟨d0, d1, d2, d3⟩, e1, e2, e3⟩ := HC.out W hW; go_simp; rfl)
                   clear hK K)
            refine wpQuiet_nil ?_
            intro W hW
            have HX : Hid (Fo w (set4 W g1 (i * 4) ⟨m4, u4, v4, f4⟩) N ⟨pn, px, pz, pph⟩ (some ⟨gs, os, none⟩) (some ⟨gd, od, none⟩) ca cb w2.heap.size g1 g2 ca' cb' (US (i + 1)) (UD i)) := hide (by
              have := (HIS.out.keep hW).setS i ⟨m4, u4, v4, f4⟩
              rw [HUS.out] at this
              exact this)
            obtain ⟨old, hold⟩ := HGS.out i i h
            have hPc := (HIS.out.so.below hW).at hold
            obtain ⟨mo, uo, vo, fo⟩ := old
            obtain ⟨a0, a1, a2, a3⟩ := hPc
            have ff := (HIS.out.so.below hW).fz
            have kk := (HIS.out.so.below hW).lt
            simp only at a0 a1 a2 a3
            clear hW HC HIS hold
            unfold set4 at HX
            go_wp2_with fail
            generalize (((W.setCell ⟨g1, i * 4, none⟩ (.int .i64 m4)).setCell ⟨g1, i * 4 + 1, none⟩ (.int .u64 (u4 : Int))).setCell ⟨g1, i * 4 + 2, none⟩ (.int .u64 (v4 : Int))).setCell ⟨g1, i * 4 + 3, none⟩ (.int .i64 f4) = YS at *
            clear a0 a1 a2 a3 ff kk W
            have HXS := HX
            clear HX
            have HCD : Hid (∀ W, Below YS.heap.size YS W -> (W.cell? ⟨w.heap.size, 0, none⟩ = some (.int .i64 (N : Int)) /\ W.cell? ⟨w.heap.size, 1, none⟩ = some (.slice (some ⟨gs, os, none⟩) N ca) /\ W.cell? ⟨w.heap.size, 2, none⟩ = some (.slice (some ⟨gd, od, none⟩) N cb) /\ w.heap.size < W.heap.size) /\ (W.cell? ⟨w.heap.size + 1, 0, none⟩ = some (.int .i64 pn) /\ W.cell? ⟨w.heap.size + 1, 1, none⟩ = some (.int .u64 (px : Int)) /\ W.cell? ⟨w.heap.size + 1, 2, none⟩ = some (.int .u64 (pz : Int)) /\ W.cell? ⟨w.heap.size + 1, 3, none⟩ = some (.int .i64 pph) /\ w.heap.size + 1 < W.heap.size) /\ Pc W gs (os + i * 4) ⟨m1, u1, v1, f1⟩ /\ Pc W gd (od + i * 4) ⟨m2, u2, v2, f2⟩ /\ gs < W.heap.size /\ gd < W.heap.size) := hide (fun W hW => ⟨(HXS.out.tb.below hW).cells, (HXS.out.pp.below hW).cells, (HPS.out W (bkp HXS.out.bw hW)).1, (HPD.out W (bkp HXS.out.bw hW)).1, (HPS.out W (bkp HXS.out.bw hW)).2, (HPD.out W (bkp HXS.out.bw hW)).2⟩)
            refine wp_region_quiet_C (C := fun W => Below YS.heap.size YS W) (by kernel_rfl) (by kernel_rfl) (bdrew (Below.refl _ _) 1) ?_
            refine unhideP ?_
            repeat
              refine wpQuiet_stepH (fun K hK => ?_)
              go_simp
              first
                | (refine hK _ ?_; clear hK K)
                | (apply Exists.intro
                   refine ⟨fun W hW => ?_, hK _ ?_⟩
                   first
                     | ((with_reducible refine Calls.mono (c2 _) ?_); rintro e x ⟨rfl, hb⟩; exact ⟨rfl, bkp hW hb⟩)
                     | (obtain ⟨⟨p0, p1, p2, p3⟩, ⟨a0, a1, a2, a3, a4⟩, ⟨b0, b1, b2, b3⟩, ⟨d0, d1, d2, d3⟩, e1, e2⟩ := HCD.out W hW; go_simp; rfl)
                   clear hK K)
            refine wpQuiet_nilH ?_
            intro WD hWD
            have HID := hide (HXS.out.keep hWD)
            clear hWD HXS HCD
            go_wp2_with fail
            have HC : Hid (∀ W, Below WD.heap.size WD W -> (W.cell? ⟨w.heap.size, 0, none⟩ = some (.int .i64 (N : Int)) /\ W.cell? ⟨w.heap.size, 1, none⟩ = some (.slice (some ⟨gs, os, none⟩) N ca) /\ W.cell? ⟨w.heap.size, 2, none⟩ = some (.slice (some ⟨gd, od, none⟩) N cb) /\ w.heap.size < W.heap.size) /\ (W.cell? ⟨w2.heap.size, 0, none⟩ = some (.int .i64 (N : Int)) /\ W.cell? ⟨w2.heap.size, 1, none⟩ = some (.slice (some ⟨g1, 0, none⟩) N ca') /\ W.cell? ⟨w2.heap.size, 2, none⟩ = some (.slice (some ⟨g2, 0, none⟩) N cb') /\ w2.heap.size < W.heap.size) /\ Pc W gd (od + i * 4) ⟨m2, u2, v2, f2⟩ /\ Pc W gs (os + k * 4) ⟨m3, u3, v3, f3⟩ /\ gd < W.heap.size /\ gs < W.heap.size /\ g2 < W.heap.size) := hide (fun W hW => ⟨(HID.out.tb.below hW).cells, (HID.out.cc.below hW).cells, (HPD.out W (bkp HID.out.bw hW)).1, (HPK.out W (bkp HID.out.bw hW)).1, (HPD.out W (bkp HID.out.bw hW)).2, (HPK.out W (bkp HID.out.bw hW)).2, (HID.out.dd.below hW).lt⟩)
            refine wp_region_quiet_last (C := fun W => Below WD.heap.size WD W) (by kernel_rfl) 15 rfl (by kernel_rfl) (by kernel_rfl) (bdrew (Below.refl _ _) 1) ?_
            simp only [List.take_succ_cons, List.take_zero]
            repeat
              refine wpQuiet_step (fun K hK => ?_)
              go_simp
              first
                | (refine hK _ ?_; clear hK K)
                | (apply Exists.intro
                   refine ⟨fun W hW => ?_, hK _ ?_⟩
                   first
                     | ((with_reducible refine Calls.mono (c4 _) ?_); rintro e x ⟨rfl, hb⟩; exact ⟨rfl, bkp hW hb⟩)
                     | (obtain ⟨⟨p0, p1, p2, p3⟩, ⟨a0, a1, a2, a3⟩, ⟨b0, b1, b2, b3⟩, ⟨d0, d1, d2, d3⟩, e1, e2, e3⟩ := HC.out W hW; go_simp; rfl)
                   clear hK K)
            refine wpQuiet_nil ?_
            intro W hW
            have HX : Hid (Fo w (set4 W g2 (i * 4) ⟨m5, u5, v5, f5⟩) N ⟨pn, px, pz, pph⟩ (some ⟨gs, os, none⟩) (some ⟨gd, od, none⟩) ca cb w2.heap.size g1 g2 ca' cb' (US (i + 1)) (UD (i + 1))) := hide (by
              have := (HID.out.keep hW).setD i ⟨m5, u5, v5, f5⟩
              rw [HUD.out] at this
              exact this)
            obtain ⟨old, hold⟩ := HGD.out i i h
            have hPc := (HID.out.dd.below hW).at hold
            obtain ⟨mo, uo, vo, fo⟩ := old
            obtain ⟨a0, a1, a2, a3⟩ := hPc
            have ff := (HID.out.dd.below hW).fz
            have kk := (HID.out.dd.below hW).lt
            simp only at a0 a1 a2 a3
            clear hW HC HID hold
            unfold set4 at HX
            go_wp2_with fail
            generalize (((W.setCell ⟨g2, i * 4, none⟩ (.int .i64 m5)).setCell ⟨g2, i * 4 + 1, none⟩ (.int .u64 (u5 : Int))).setCell ⟨g2, i * 4 + 2, none⟩ (.int .u64 (v5 : Int))).setCell ⟨g2, i * 4 + 3, none⟩ (.int .i64 f5) = YD at *
            clear a0 a1 a2 a3 ff kk W
            go_roundw
            case rel => exact ⟨i + 1, by go_num, by omega, HX⟩
            case measure => simp [Go.RowKit.intOf]; omega
          | true =>
            have HUS := hide (hsa hk1 rfl)
            have HUD := hide (hdb (.inr rfl))
            have e1 : ((i : Int) != (k : Int)) = true := bne_iff_ne.2 (by omega)
            clear hsa hsb hda hdb hk1 x0 x1 x2 x3
            have HCS : Hid (∀ W, Below wr.heap.size wr W -> (W.cell? ⟨w.heap.size, 0, none⟩ = some (.int .i64 (N : Int)) /\ W.cell? ⟨w.heap.size, 1, none⟩ = some (.slice (some ⟨gs, os, none⟩) N ca) /\ W.cell? ⟨w.heap.size, 2, none⟩ = some (.slice (some ⟨gd, od, none⟩) N cb) /\ w.heap.size < W.heap.size) /\ (W.cell? ⟨w.heap.size + 1, 0, none⟩ = some (.int .i64 pn) /\ W.cell? ⟨w.heap.size + 1, 1, none⟩ = some (.int .u64 (px : Int)) /\ W.cell? ⟨w.heap.size + 1, 2, none⟩ = some (.int .u64 (pz : Int)) /\ W.cell? ⟨w.heap.size + 1, 3, none⟩ = some (.int .i64 pph) /\ w.heap.size + 1 < W.heap.size) /\ Pc W gs (os + i * 4) ⟨m1, u1, v1, f1⟩ /\ Pc W gd (od + i * 4) ⟨m2, u2, v2, f2⟩ /\ gs < W.heap.size /\ gd < W.heap.size) := hide (fun W hW => ⟨(HI.out.tb.below hW).cells, (HI.out.pp.below hW).cells, (HPS.out W (bkp HI.out.bw hW)).1, (HPD.out W (bkp HI.out.bw hW)).1, (HPS.out W (bkp HI.out.bw hW)).2, (HPD.out W (bkp HI.out.bw hW)).2⟩)
            refine wp_region_quiet_C (C := fun W => Below wr.heap.size wr W) (by kernel_rfl) (by kernel_rfl) (bdrew (Below.refl _ _) 1) ?_
            refine unhideP ?_
            repeat
              refine wpQuiet_stepH (fun K hK => ?_)
              go_simp
              first
                | (refine hK _ ?_; clear hK K)
                | (apply Exists.intro
                   refine ⟨fun W hW => ?_, hK _ ?_⟩
                   first
                     | ((with_reducible refine Calls.mono (c1 _) ?_); rintro e x ⟨rfl, hb⟩; exact ⟨rfl, bkp hW hb⟩)
                     | (obtain ⟨⟨p0, p1, p2, p3⟩, ⟨a0, a1, a2, a3, a4⟩, ⟨b0, b1, b2, b3⟩, ⟨d0, d1, d2, d3⟩, e1, e2⟩ := HCS.out W hW; go_simp; rfl)
                   clear hK K)
            refine wpQuiet_nilH ?_
            intro WS hWS
            have HIS := hide (HI.out.keep hWS)
            clear hWS HI HCS
            go_wp2_with fail
            have HC : Hid (∀ W, Below WS.heap.size WS W -> (W.cell? ⟨w.heap.size, 0, none⟩ = some (.int .i64 (N : Int)) /\ W.cell? ⟨w.heap.size, 1, none⟩ = some (.slice (some ⟨gs, os, none⟩) N ca) /\ W.cell? ⟨w.heap.size, 2, none⟩ = some (.slice (some ⟨gd, od, none⟩) N cb) /\ w.heap.size < W.heap.size) /\ (W.cell? ⟨w2.heap.size, 0, none⟩ = some (.int .i64 (N : Int)) /\ W.cell? ⟨w2.heap.size, 1, none⟩ = some (.slice (some ⟨g1, 0, none⟩) N ca') /\ W.cell? ⟨w2.heap.size, 2, none⟩ = some (.slice (some ⟨g2, 0, none⟩) N cb') /\ w2.heap.size < W.heap.size) /\ Pc W gs (os + i * 4) ⟨m1, u1, v1, f1⟩ /\ Pc W gs (os + k * 4) ⟨m3, u3, v3, f3⟩ /\ gs < W.heap.size /\ gs < W.heap.size /\ g1 < W.heap.size) := hide (fun W hW => ⟨(HIS.out.tb.below hW).cells, (HIS.out.cc.below hW).cells, (HPS.out W (bkp HIS.out.bw hW)).1, (HPK.out W (bkp HIS.out.bw hW)).1, (HPS.out W (bkp HIS.out.bw hW)).2, (HPK.out W (bkp HIS.out.bw hW)).2, (HIS.out.so.below hW).lt⟩)
            refine wp_region_quiet_last (C := fun W => Below WS.heap.size WS W) (by kernel_rfl) 15 rfl (by kernel_rfl) (by kernel_rfl) (bdrew (Below.refl _ _) 1) ?_
            simp only [List.take_succ_cons, List.take_zero]
            repeat
              refine wpQuiet_step (fun K hK => ?_)
              go_simp
              first
                | (refine hK _ ?_; clear hK K)
                | (apply Exists.intro
                   refine ⟨fun W hW => ?_, hK _ ?_⟩
                   first
                     | ((with_reducible refine Calls.mono (c3 _) ?_); rintro e x ⟨rfl, hb⟩; exact ⟨rfl, bkp hW hb⟩)
                     | (obtain ⟨⟨p0, p1, p2, p3⟩, ⟨a0, a1, a2, a3⟩, ⟨b0, b1, b2, b3⟩, ⟨d0, d1, d2, d3⟩, e1, e2, e3⟩ := HC.out W hW; go_simp; rfl)
                   clear hK K)
            refine wpQuiet_nil ?_
            intro W hW
            have HX : Hid (Fo w (set4 W g1 (i * 4) ⟨m4, u4, v4, f4⟩) N ⟨pn, px, pz, pph⟩ (some ⟨gs, os, none⟩) (some ⟨gd, od, none⟩) ca cb w2.heap.size g1 g2 ca' cb' (US (i + 1)) (UD i)) := hide (by
              have := (HIS.out.keep hW).setS i ⟨m4, u4, v4, f4⟩
              rw [HUS.out] at this
              exact this)
            obtain ⟨old, hold⟩ := HGS.out i i h
            have hPc := (HIS.out.so.below hW).at hold
            obtain ⟨mo, uo, vo, fo⟩ := old
            obtain ⟨a0, a1, a2, a3⟩ := hPc
            have ff := (HIS.out.so.below hW).fz
            have kk := (HIS.out.so.below hW).lt
            simp only at a0 a1 a2 a3
            clear hW HC HIS hold
            unfold set4 at HX
            go_wp2_with fail
            generalize (((W.setCell ⟨g1, i * 4, none⟩ (.int .i64 m4)).setCell ⟨g1, i * 4 + 1, none⟩ (.int .u64 (u4 : Int))).setCell ⟨g1, i * 4 + 2, none⟩ (.int .u64 (v4 : Int))).setCell ⟨g1, i * 4 + 3, none⟩ (.int .i64 f4) = YS at *
            clear a0 a1 a2 a3 ff kk W
            have HXS := HX
            clear HX
            have HCD : Hid (∀ W, Below YS.heap.size YS W -> (W.cell? ⟨w.heap.size, 0, none⟩ = some (.int .i64 (N : Int)) /\ W.cell? ⟨w.heap.size, 1, none⟩ = some (.slice (some ⟨gs, os, none⟩) N ca) /\ W.cell? ⟨w.heap.size, 2, none⟩ = some (.slice (some ⟨gd, od, none⟩) N cb) /\ w.heap.size < W.heap.size) /\ (W.cell? ⟨w.heap.size + 1, 0, none⟩ = some (.int .i64 pn) /\ W.cell? ⟨w.heap.size + 1, 1, none⟩ = some (.int .u64 (px : Int)) /\ W.cell? ⟨w.heap.size + 1, 2, none⟩ = some (.int .u64 (pz : Int)) /\ W.cell? ⟨w.heap.size + 1, 3, none⟩ = some (.int .i64 pph) /\ w.heap.size + 1 < W.heap.size) /\ Pc W gs (os + i * 4) ⟨m1, u1, v1, f1⟩ /\ Pc W gd (od + i * 4) ⟨m2, u2, v2, f2⟩ /\ gs < W.heap.size /\ gd < W.heap.size) := hide (fun W hW => ⟨(HXS.out.tb.below hW).cells, (HXS.out.pp.below hW).cells, (HPS.out W (bkp HXS.out.bw hW)).1, (HPD.out W (bkp HXS.out.bw hW)).1, (HPS.out W (bkp HXS.out.bw hW)).2, (HPD.out W (bkp HXS.out.bw hW)).2⟩)
            refine wp_region_quiet_C (C := fun W => Below YS.heap.size YS W) (by kernel_rfl) (by kernel_rfl) (bdrew (Below.refl _ _) 1) ?_
            refine unhideP ?_
            repeat
              refine wpQuiet_stepH (fun K hK => ?_)
              go_simp
              first
                | (refine hK _ ?_; clear hK K)
                | (apply Exists.intro
                   refine ⟨fun W hW => ?_, hK _ ?_⟩
                   first
                     | ((with_reducible refine Calls.mono (c2 _) ?_); rintro e x ⟨rfl, hb⟩; exact ⟨rfl, bkp hW hb⟩)
                     | (obtain ⟨⟨p0, p1, p2, p3⟩, ⟨a0, a1, a2, a3, a4⟩, ⟨b0, b1, b2, b3⟩, ⟨d0, d1, d2, d3⟩, e1, e2⟩ := HCD.out W hW; go_simp; rfl)
                   clear hK K)
            refine wpQuiet_nilH ?_
            intro WD hWD
            have HID := hide (HXS.out.keep hWD)
            clear hWD HXS HCD
            go_wp2_with fail
            have HXD : Hid (Fo w WD N ⟨pn, px, pz, pph⟩ (some ⟨gs, os, none⟩) (some ⟨gd, od, none⟩) ca cb w2.heap.size g1 g2 ca' cb' (US (i + 1)) (UD (i + 1))) := hide (by rw [HUD.out]; exact HID.out)
            clear HID
            go_roundw
            case rel => exact ⟨i + 1, by go_num, by omega, HXD⟩
            case measure => simp [Go.RowKit.intOf]; omega
        | true =>
          cases bD with
          | false =>
            have HUS := hide (hsb (.inr rfl))
            have HUD := hide (hda hk1 rfl)
            have e1 : ((i : Int) != (k : Int)) = true := bne_iff_ne.2 (by omega)
            clear hsa hsb hda hdb hk1 x0 x1 x2 x3
            have HCS : Hid (∀ W, Below wr.heap.size wr W -> (W.cell? ⟨w.heap.size, 0, none⟩ = some (.int .i64 (N : Int)) /\ W.cell? ⟨w.heap.size, 1, none⟩ = some (.slice (some ⟨gs, os, none⟩) N ca) /\ W.cell? ⟨w.heap.size, 2, none⟩ = some (.slice (some ⟨gd, od, none⟩) N cb) /\ w.heap.size < W.heap.size) /\ (W.cell? ⟨w.heap.size + 1, 0, none⟩ = some (.int .i64 pn) /\ W.cell? ⟨w.heap.size + 1, 1, none⟩ = some (.int .u64 (px : Int)) /\ W.cell? ⟨w.heap.size + 1, 2, none⟩ = some (.int .u64 (pz : Int)) /\ W.cell? ⟨w.heap.size + 1, 3, none⟩ = some (.int .i64 pph) /\ w.heap.size + 1 < W.heap.size) /\ Pc W gs (os + i * 4) ⟨m1, u1, v1, f1⟩ /\ Pc W gd (od + i * 4) ⟨m2, u2, v2, f2⟩ /\ gs < W.heap.size /\ gd < W.heap.size) := hide (fun W hW => ⟨(HI.out.tb.below hW).cells, (HI.out.pp.below hW).cells, (HPS.out W (bkp HI.out.bw hW)).1, (HPD.out W (bkp HI.out.bw hW)).1, (HPS.out W (bkp HI.out.bw hW)).2, (HPD.out W (bkp HI.out.bw hW)).2⟩)
            refine wp_region_quiet_C (C := fun W => Below wr.heap.size wr W) (by kernel_rfl) (by kernel_rfl) (bdrew (Below.refl _ _) 1) ?_
            refine unhideP ?_
            repeat
              refine wpQuiet_stepH (fun K hK => ?_)
              go_simp
              first
                | (refine hK _ ?_; clear hK K)
                | (apply Exists.intro
                   refine ⟨fun W hW => ?_, hK _ ?_⟩
                   first
                     | ((with_reducible refine Calls.mono (c1 _) ?_); rintro e x ⟨rfl, hb⟩; exact ⟨rfl, bkp hW hb⟩)
                     | (obtain ⟨⟨p0, p1, p2, p3⟩, ⟨a0, a1, a2, a3, a4⟩, ⟨b0, b1, b2, b3⟩, ⟨d0, d1, d2, d3⟩, e1, e2⟩ := HCS.out W hW; go_simp; rfl)
                   clear hK K)
            refine wpQuiet_nilH ?_
            intro WS hWS
            have HIS := hide (HI.out.keep hWS)
            clear hWS HI HCS
            go_wp2_with fail
            have HXS : Hid (Fo w WS N ⟨pn, px, pz, pph⟩ (some ⟨gs, os, none⟩) (some ⟨gd, od, none⟩) ca cb w2.heap.size g1 g2 ca' cb' (US (i + 1)) (UD i)) := hide (by rw [HUS.out]; exact HIS.out)
            clear HIS
            have HCD : Hid (∀ W, Below WS.heap.size WS W -> (W.cell? ⟨w.heap.size, 0, none⟩ = some (.int .i64 (N : Int)) /\ W.cell? ⟨w.heap.size, 1, none⟩ = some (.slice (some ⟨gs, os, none⟩) N ca) /\ W.cell? ⟨w.heap.size, 2, none⟩ = some (.slice (some ⟨gd, od, none⟩) N cb) /\ w.heap.size < W.heap.size) /\ (W.cell? ⟨w.heap.size + 1, 0, none⟩ = some (.int .i64 pn) /\ W.cell? ⟨w.heap.size + 1, 1, none⟩ = some (.int .u64 (px : Int)) /\ W.cell? ⟨w.heap.size + 1, 2, none⟩ = some (.int .u64 (pz : Int)) /\ W.cell? ⟨w.heap.size + 1, 3, none⟩ = some (.int .i64 pph) /\ w.heap.size + 1 < W.heap.size) /\ Pc W gs (os + i * 4) ⟨m1, u1, v1, f1⟩ /\ Pc W gd (od + i * 4) ⟨m2, u2, v2, f2⟩ /\ gs < W.heap.size /\ gd < W.heap.size) := hide (fun W hW => ⟨(HXS.out.tb.below hW).cells, (HXS.out.pp.below hW).cells, (HPS.out W (bkp HXS.out.bw hW)).1, (HPD.out W (bkp HXS.out.bw hW)).1, (HPS.out W (bkp HXS.out.bw hW)).2, (HPD.out W (bkp HXS.out.bw hW)).2⟩)
            refine wp_region_quiet_C (C := fun W => Below WS.heap.size WS W) (by kernel_rfl) (by kernel_rfl) (bdrew (Below.refl _ _) 1) ?_
            refine unhideP ?_
            repeat
              refine wpQuiet_stepH (fun K hK => ?_)
              go_simp
              first
                | (refine hK _ ?_; clear hK K)
                | (apply Exists.intro
                   refine ⟨fun W hW => ?_, hK _ ?_⟩
                   first
                     | ((with_reducible refine Calls.mono (c2 _) ?_); rintro e x ⟨rfl, hb⟩; exact ⟨rfl, bkp hW hb⟩)
                     | (obtain ⟨⟨p0, p1, p2, p3⟩, ⟨a0, a1, a2, a3, a4⟩, ⟨b0, b1, b2, b3⟩, ⟨d0, d1, d2, d3⟩, e1, e2⟩ := HCD.out W hW; go_simp; rfl)
                   clear hK K)
            refine wpQuiet_nilH ?_
            intro WD hWD
            have HID := hide (HXS.out.keep hWD)
            clear hWD HXS HCD
            go_wp2_with fail
            have HC : Hid (∀ W, Below WD.heap.size WD W -> (W.cell? ⟨w.heap.size, 0, none⟩ = some (.int .i64 (N : Int)) /\ W.cell? ⟨w.heap.size, 1, none⟩ = some (.slice (some ⟨gs, os, none⟩) N ca) /\ W.cell? ⟨w.heap.size, 2, none⟩ = some (.slice (some ⟨gd, od, none⟩) N cb) /\ w.heap.size < W.heap.size) /\ (W.cell? ⟨w2.heap.size, 0, none⟩ = some (.int .i64 (N : Int)) /\ W.cell? ⟨w2.heap.size, 1, none⟩ = some (.slice (some ⟨g1, 0, none⟩) N ca') /\ W.cell? ⟨w2.heap.size, 2, none⟩ = some (.slice (some ⟨g2, 0, none⟩) N cb') /\ w2.heap.size < W.heap.size) /\ Pc W gd (od + i * 4) ⟨m2, u2, v2, f2⟩ /\ Pc W gs (os + k * 4) ⟨m3, u3, v3, f3⟩ /\ gd < W.heap.size /\ gs < W.heap.size /\ g2 < W.heap.size) := hide (fun W hW => ⟨(HID.out.tb.below hW).cells, (HID.out.cc.below hW).cells, (HPD.out W (bkp HID.out.bw hW)).1, (HPK.out W (bkp HID.out.bw hW)).1, (HPD.out W (bkp HID.out.bw hW)).2, (HPK.out W (bkp HID.out.bw hW)).2, (HID.out.dd.below hW).lt⟩)
            refine wp_region_quiet_last (C := fun W => Below WD.heap.size WD W) (by kernel_rfl) 15 rfl (by kernel_rfl) (by kernel_rfl) (bdrew (Below.refl _ _) 1) ?_
            simp only [List.take_succ_cons, List.take_zero]
            repeat
              refine wpQuiet_step (fun K hK => ?_)
              go_simp
              first
                | (refine hK _ ?_; clear hK K)
                | (apply Exists.intro
                   refine ⟨fun W hW => ?_, hK _ ?_⟩
                   first
                     | ((with_reducible refine Calls.mono (c4 _) ?_); rintro e x ⟨rfl, hb⟩; exact ⟨rfl, bkp hW hb⟩)
                     | (obtain ⟨⟨p0, p1, p2, p3⟩, ⟨a0, a1, a2, a3⟩, ⟨b0, b1, b2, b3⟩, ⟨d0, d1, d2, d3⟩, e1, e2, e3⟩ := HC.out W hW; go_simp; rfl)
                   clear hK K)
            refine wpQuiet_nil ?_
            intro W hW
            have HX : Hid (Fo w (set4 W g2 (i * 4) ⟨m5, u5, v5, f5⟩) N ⟨pn, px, pz, pph⟩ (some ⟨gs, os, none⟩) (some ⟨gd, od, none⟩) ca cb w2.heap.size g1 g2 ca' cb' (US (i + 1)) (UD (i + 1))) := hide (by
              have := (HID.out.keep hW).setD i ⟨m5, u5, v5, f5⟩
              rw [HUD.out] at this
              exact this)
            obtain ⟨old, hold⟩ := HGD.out i i h
            have hPc := (HID.out.dd.below hW).at hold
            obtain ⟨mo, uo, vo, fo⟩ := old
            obtain ⟨a0, a1, a2, a3⟩ := hPc
            have ff := (HID.out.dd.below hW).fz
            have kk := (HID.out.dd.below hW).lt
            simp only at a0 a1 a2 a3
            clear hW HC HID hold
            unfold set4 at HX
            go_wp2_with fail
            generalize (((W.setCell ⟨g2, i * 4, none⟩ (.int .i64 m5)).setCell ⟨g2, i * 4 + 1, none⟩ (.int .u64 (u5 : Int))).setCell ⟨g2, i * 4 + 2, none⟩ (.int .u64 (v5 : Int))).setCell ⟨g2, i * 4 + 3, none⟩ (.int .i64 f5) = YD at *
            clear a0 a1 a2 a3 ff kk W
            go_roundw
            case rel => exact ⟨i + 1, by go_num, by omega, HX⟩
            case measure => simp [Go.RowKit.intOf]; omega
          | true =>
            have HUS := hide (hsb (.inr rfl))
            have HUD := hide (hdb (.inr rfl))
            have e1 : ((i : Int) != (k : Int)) = true := bne_iff_ne.2 (by omega)
            clear hsa hsb hda hdb hk1 x0 x1 x2 x3
            have HCS : Hid (∀ W, Below wr.heap.size wr W -> (W.cell? ⟨w.heap.size, 0, none⟩ = some (.int .i64 (N : Int)) /\ W.cell? ⟨w.heap.size, 1, none⟩ = some (.slice (some ⟨gs, os, none⟩) N ca) /\ W.cell? ⟨w.heap.size, 2, none⟩ = some (.slice (some ⟨gd, od, none⟩) N cb) /\ w.heap.size < W.heap.size) /\ (W.cell? ⟨w.heap.size + 1, 0, none⟩ = some (.int .i64 pn) /\ W.cell? ⟨w.heap.size + 1, 1, none⟩ = some (.int .u64 (px : Int)) /\ W.cell? ⟨w.heap.size + 1, 2, none⟩ = some (.int .u64 (pz : Int)) /\ W.cell? ⟨w.heap.size + 1, 3, none⟩ = some (.int .i64 pph) /\ w.heap.size + 1 < W.heap.size) /\ Pc W gs (os + i * 4) ⟨m1, u1, v1, f1⟩ /\ Pc W gd (od + i * 4) ⟨m2, u2, v2, f2⟩ /\ gs < W.heap.size /\ gd < W.heap.size) := hide (fun W hW => ⟨(HI.out.tb.below hW).cells, (HI.out.pp.below hW).cells, (HPS.out W (bkp HI.out.bw hW)).1, (HPD.out W (bkp HI.out.bw hW)).1, (HPS.out W (bkp HI.out.bw hW)).2, (HPD.out W (bkp HI.out.bw hW)).2⟩)
            refine wp_region_quiet_C (C := fun W => Below wr.heap.size wr W) (by kernel_rfl) (by kernel_rfl) (bdrew (Below.refl _ _) 1) ?_
            refine unhideP ?_
            repeat
              refine wpQuiet_stepH (fun K hK => ?_)
              go_simp
              first
                | (refine hK _ ?_; clear hK K)
                | (apply Exists.intro
                   refine ⟨fun W hW => ?_, hK _ ?_⟩
                   first
                     | ((with_reducible refine Calls.mono (c1 _) ?_); rintro e x ⟨rfl, hb⟩; exact ⟨rfl, bkp hW hb⟩)
                     | (obtain ⟨⟨p0, p1, p2, p3⟩, ⟨a0, a1, a2, a3, a4⟩, ⟨b0, b1, b2, b3⟩, ⟨d0, d1, d2, d3⟩, e1, e2⟩ := HCS.out W hW; go_simp; rfl)
                   clear hK K)
            refine wpQuiet_nilH ?_
            intro WS hWS
            have HIS := hide (HI.out.keep hWS)
            clear hWS HI HCS
            go_wp2_with fail
            have HXS : Hid (Fo w WS N ⟨pn, px, pz, pph⟩ (some ⟨gs, os, none⟩) (some ⟨gd, od, none⟩) ca cb w2.heap.size g1 g2 ca' cb' (US (i + 1)) (UD i)) := hide (by rw [HUS.out]; exact HIS.out)
            clear HIS
            have HCD : Hid (∀ W, Below WS.heap.size WS W -> (W.cell? ⟨w.heap.size, 0, none⟩ = some (.int .i64 (N : Int)) /\ W.cell? ⟨w.heap.size, 1, none⟩ = some (.slice (some ⟨gs, os, none⟩) N ca) /\ W.cell? ⟨w.heap.size, 2, none⟩ = some (.slice (some ⟨gd, od, none⟩) N cb) /\ w.heap.size < W.heap.size) /\ (W.cell? ⟨w.heap.size + 1, 0, none⟩ = some (.int .i64 pn) /\ W.cell? ⟨w.heap.size + 1, 1, none⟩ = some (.int .u64 (px : Int)) /\ W.cell? ⟨w.heap.size + 1, 2, none⟩ = some (.int .u64 (pz : Int)) /\ W.cell? ⟨w.heap.size + 1, 3, none⟩ = some (.int .i64 pph) /\ w.heap.size + 1 < W.heap.size) /\ Pc W gs (os + i * 4) ⟨m1, u1, v1, f1⟩ /\ Pc W gd (od + i * 4) ⟨m2, u2, v2, f2⟩ /\ gs < W.heap.size /\ gd < W.heap.size) := hide (fun W hW => ⟨(HXS.out.tb.below hW).cells, (HXS.out.pp.below hW).cells, (HPS.out W (bkp HXS.out.bw hW)).1, (HPD.out W (bkp HXS.out.bw hW)).1, (HPS.out W (bkp HXS.out.bw hW)).2, (HPD.out W (bkp HXS.out.bw hW)).2⟩)
            refine wp_region_quiet_C (C := fun W => Below WS.heap.size WS W) (by kernel_rfl) (by kernel_rfl) (bdrew (Below.refl _ _) 1) ?_
            refine unhideP ?_
            repeat
              refine wpQuiet_stepH (fun K hK => ?_)
              go_simp
              first
                | (refine hK _ ?_; clear hK K)
                | (apply Exists.intro
                   refine ⟨fun W hW => ?_, hK _ ?_⟩
                   first
                     | ((with_reducible refine Calls.mono (c2 _) ?_); rintro e x ⟨rfl, hb⟩; exact ⟨rfl, bkp hW hb⟩)
                     | (obtain ⟨⟨p0, p1, p2, p3⟩, ⟨a0, a1, a2, a3, a4⟩, ⟨b0, b1, b2, b3⟩, ⟨d0, d1, d2, d3⟩, e1, e2⟩ := HCD.out W hW; go_simp; rfl)
                   clear hK K)
            refine wpQuiet_nilH ?_
            intro WD hWD
            have HID := hide (HXS.out.keep hWD)
            clear hWD HXS HCD
            go_wp2_with fail
            have HXD : Hid (Fo w WD N ⟨pn, px, pz, pph⟩ (some ⟨gs, os, none⟩) (some ⟨gd, od, none⟩) ca cb w2.heap.size g1 g2 ca' cb' (US (i + 1)) (UD (i + 1))) := hide (by rw [HUD.out]; exact HID.out)
            clear HID
            go_roundw
            case rel => exact ⟨i + 1, by go_num, by omega, HXD⟩
            case measure => simp [Go.RowKit.intOf]; omega
    . obtain rfl : N = i := by omega
      have HPK := hide (fun V hb => HRS.out V hb k hk)
      have hd : decide ((N : Int) < (N : Int)) = false := decide_eq_false (by omega)
      clear HSa HSb HDa HDb HCS HCD HMS HMD HRS HRD
      generalize t.s.getD k oP = sk at *
      obtain ⟨m3, u3, v3, f3⟩ := sk
      obtain ⟨o1, ho1⟩ := HGS.out N k hk
      obtain ⟨o2, ho2⟩ := HGD.out N k hk
      have HO1 := hide ho1
      have HO2 := hide ho2
      clear ho1 ho2 HGS HGD
      go_wp2_with fail
      have HC : Hid (∀ W, Below wr.heap.size wr W -> (W.cell? ⟨w.heap.size, 0, none⟩ = some (.int .i64 (N : Int)) /\ W.cell? ⟨w.heap.size, 1, none⟩ = some (.slice (some ⟨gs, os, none⟩) N ca) /\ W.cell? ⟨w.heap.size, 2, none⟩ = some (.slice (some ⟨gd, od, none⟩) N cb) /\ w.heap.size < W.heap.size) /\ (W.cell? ⟨w2.heap.size, 0, none⟩ = some (.int .i64 (N : Int)) /\ W.cell? ⟨w2.heap.size, 1, none⟩ = some (.slice (some ⟨g1, 0, none⟩) N ca') /\ W.cell? ⟨w2.heap.size, 2, none⟩ = some (.slice (some ⟨g2, 0, none⟩) N cb') /\ w2.heap.size < W.heap.size) /\ Pc W gs (os + k * 4) ⟨m3, u3, v3, f3⟩ /\ gs < W.heap.size /\ g2 < W.heap.size) := hide (fun W hW => ⟨(HI.out.tb.below hW).cells, (HI.out.cc.below hW).cells, (HPK.out W (bkp HI.out.bw hW)).1, (HPK.out W (bkp HI.out.bw hW)).2, (HI.out.dd.below hW).lt⟩)
      refine wp_region_quiet_last (C := fun W => Below wr.heap.size wr W) (by kernel_rfl) 9 rfl (by kernel_rfl) (by kernel_rfl) (bdrew (Below.refl _ _) 1) ?_
      simp only [List.take_succ_cons, List.take_zero]
      clear x0 x1 x2 x3
      repeat
        refine wpQuiet_step (fun K hK => ?_)
        go_simp
        first
          | (refine hK _ ?_; clear hK K)
          | (apply Exists.intro
             refine ⟨fun W hW => ?_, hK _ ?_⟩
             first
               | (obtain ⟨⟨p0, p1, p2, p3⟩, ⟨a0, a1, a2, a3⟩, ⟨d0, d1, d2, d3⟩, e1, e2⟩ := HC.out W hW; go_simp; rfl)
             clear hK K)
      refine wpQuiet_nil ?_
      intro W hW
      have HX : Hid (Fo w (set4 W g2 (k * 4) ⟨m3, u3, v3, f3⟩) N ⟨pn, px, pz, pph⟩ (some ⟨gs, os, none⟩) (some ⟨gd, od, none⟩) ca cb w2.heap.size g1 g2 ca' cb' (US N) ((UD N).set k ⟨m3, u3, v3, f3⟩)) := hide ((HI.out.keep hW).setD k ⟨m3, u3, v3, f3⟩)
      obtain ⟨mo, uo, vo, fo⟩ := o2
      obtain ⟨a0, a1, a2, a3⟩ := (HI.out.dd.below hW).at HO2.out
      have ff := (HI.out.dd.below hW).fz
      have kk := (HI.out.dd.below hW).lt
      simp only at a0 a1 a2 a3
      clear hW HC HI HO2
      unfold set4 at HX
      go_upto_region 18 with fail
      generalize (((W.setCell ⟨g2, k * 4, none⟩ (.int .i64 m3)).setCell ⟨g2, k * 4 + 1, none⟩ (.int .u64 (u3 : Int))).setCell ⟨g2, k * 4 + 2, none⟩ (.int .u64 (v3 : Int))).setCell ⟨g2, k * 4 + 3, none⟩ (.int .i64 f3) = W8 at *
      clear a0 a1 a2 a3 ff kk
      obtain ⟨b0, b1, b2, b3⟩ := HX.out.cc.cells
      obtain ⟨y0, y1, y2, y3, y4⟩ := HX.out.pp.cells
      have HX9 : Hid (Fo w (set4 W8 g1 (k * 4) ⟨pn, px, pz, pph⟩) N ⟨pn, px, pz, pph⟩ (some ⟨gs, os, none⟩) (some ⟨gd, od, none⟩) ca cb w2.heap.size g1 g2 ca' cb' ((US N).set k ⟨pn, px, pz, pph⟩) ((UD N).set k ⟨m3, u3, v3, f3⟩)) := hide (HX.out.setS k ⟨pn, px, pz, pph⟩)
      unfold set4 at HX9
      obtain ⟨mo1, uo1, vo1, fo1⟩ := o1
      obtain ⟨t0, t1, t2, t3⟩ := HX.out.so.at HO1.out
      have tf := HX.out.so.fz
      have tk := HX.out.so.lt
      simp only at t0 t1 t2 t3
      clear HX HO1 HPK
      go_upto_region 19 with fail
      generalize (((W8.setCell ⟨g1, k * 4, none⟩ (.int .i64 pn)).setCell ⟨g1, k * 4 + 1, none⟩ (.int .u64 (px : Int))).setCell ⟨g1, k * 4 + 2, none⟩ (.int .u64 (pz : Int))).setCell ⟨g1, k * 4 + 3, none⟩ (.int .i64 pph) = W9 at *
      clear b0 b1 b2 b3 y0 y1 y2 y3 y4 t0 t1 t2 t3 tf tk
      obtain ⟨r0, r1, r2, r3⟩ := HX9.out.cc.cells
      have hR := HX9.out.rs
      have hKK := HEND.out _ _ _ _ _ HX9.out.so HX9.out.dd HLL.out.1 HLL.out.2
      have HF : Hid (Th (W9.setRow (w.heap.size + 1 + 1) #[.int .i64 (N : Int), .slice (some ⟨g1, 0, none⟩) N ca', .slice (some ⟨g2, 0, none⟩) N cb']) R (some ⟨g1, 0, none⟩) (some ⟨g2, 0, none⟩) ca' cb' /\ Below w.heap.size w (W9.setRow (w.heap.size + 1 + 1) #[.int .i64 (N : Int), .slice (some ⟨g1, 0, none⟩) N ca', .slice (some ⟨g2, 0, none⟩) N cb'])) := hide ⟨hKK.row hR _, below_setRow HX9.out.bw (by omega) _⟩
      unfold At3 at hR
      clear hKK HEND HLL HX9
      go_wp2_with (first
        | (refine wpList_store_row rfl _ _ _ rfl (w.heap.size + 1 + 1) _ rfl rfl _ _ hR (by exact infoT) (by rfl) (all3 _ _ _ _ _ _ _) ?_))
      refine bodyPost_ret (results_ctt rfl _ _ (w.heap.size + 1 + 1) _ _ _ _ rfl (setRow_heap _ _ _ _ _ _ hR) Tryd.underlying24 rfl (by exact infoT)) rfl ?_
      exact ⟨some ⟨g1, 0, none⟩, some ⟨g2, 0, none⟩, ca', cb', rfl, HF.out.1, HF.out.2⟩
theorem dForce (t : TT) (a b : Option Addr) (ca cb : Nat) (p : P) (hp : Wd p) (w : World) (h : Th w t a b ca cb) :
    Calls Tryd.prog 12 #[tV t a b ca cb, pV p] w fun e w' => ∃ a' b' ca' cb', e = .returned (.tuple #[tV (fpR t p).1 a' b' ca' cb', .int .i64 (fpR t p).2.1, .int .i64 (fpR t p).2.2]) /\ Th w' (fpR t p).1 a' b' ca' cb' /\ Below w.heap.size w w' := by
  by_cases hcs : csI t p = 0
  . have hmb : mbI t p = memI t p := by unfold mbI; rw [if_pos hcs]
    rcases mem_three t p with hm | hm | hm
    . have e : fpR t p = (fcT t p, 1, 0) := by unfold fpR; rw [if_pos hcs, fr_two hm]
      rw [e]
      exact dForce_two t a b ca cb p hp (by rw [hmb, hm]) hcs (mem_zero hm) w h
    . have e : fpR t p = (t, 0, 0) := by unfold fpR; rw [if_pos hcs, fr_one hm]
      rw [e]
      exact dForce_one t a b ca cb p hp (by rw [hmb, hm]) hcs w h
    . exact dForce_z t a b ca cb p hp (-1) 0 142 (by rw [hmb, hm]) hcs (.inr (.inr ⟨rfl, rfl, rfl⟩)) w h
  . have hmb : mbI t p = 0 := by unfold mbI; rw [if_neg hcs]
    rcases cs_three t p with e | e | e
    . exact absurd e hcs
    . exact dForce_z t a b ca cb p hp 0 2 2 hmb e (.inl ⟨rfl, rfl, rfl⟩) w h
    . exact dForce_z t a b ca cb p hp 0 140 140 hmb e (.inr (.inl ⟨rfl, rfl, rfl⟩)) w h
end Go.Proofs.YtaggifpnamjghaaDoor.Tbl
