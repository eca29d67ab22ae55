import Derived.Test.YtpehekonjdneaaaGreatDoorK21864e18
import Derived.Test.YtpehekonjdneaaaGreatDoorK3329f2d9
set_option maxRecDepth 100000
set_option maxHeartbeats 8000000
namespace Go.Proofs.YtpehekonjdneaaaGreatDoor.Tbl
open Go.RowKit Go.Shelf Go.Proofs.YtpehekonjdneaaaGreatDoor.Pau Go.Proofs.YtpehekonjdneaaaGreatDoor.Gt
def odT (t : TT) (l : List Int) : TT := ⟨t.n, (List.range t.s.length).map (fun i => ordP l (t.s.getD i oP)), (List.range t.d.length).map (fun i => ordP l (t.d.getD i oP))⟩
def orR (t : TT) (l : List Int) : TT × Int := if chB t = true then (if (l.length : Int) = t.n /\ ulB t.n l = true then (odT t l, 0) else (zrT, 2)) else (zrT, 140)
theorem wd_ord {l : List Int} (h : ∀ q ∈ l, 0 <= q /\ q < 64) {p : P} {N : Nat} (hn : p.n = (N : Int)) (hl : l.length = N) : Wd (ordP l p) := ⟨orX_lt h _ _ (by rw [hn, Int.toNat_natCast]; omega), orX_lt h _ _ (by rw [hn, Int.toNat_natCast]; omega)⟩
theorem dOrder_ok (t : TT) (a b : Option Addr) (ca cb : Nat) (l : List Int) (hl : l.length <= 1000000000000000) (ao : Option Addr) (c : Nat) (hc : chB t = true) (hlt : (l.length : Int) = t.n) (hu : ulB t.n l = true) (w : World) (h : Th w t a b ca cb) (hN : Ns w ao l) :
    Calls Tryz.prog 27 #[tV t a b ca cb, .slice ao l.length c] w fun e w' => ∃ a' b' ca' cb', e = .returned (.tuple #[tV (odT t l) a' b' ca' cb', .int .i64 0]) /\ Th w' (odT t l) a' b' ca' cb' /\ Below w.heap.size w w' := by
  have HC1 := hide (fun W (hb : Below w.heap.size w W) => dRightT t a b ca cb W (h.below hb))
  have HC2 := hide (fun W (hb : Below w.heap.size w W) => dApart l hl t.n ao c W (hN.below hb))
  obtain ⟨hA, hZ⟩ := two3 w (.int .i64 t.n) (.slice a t.s.length ca) (.slice b t.d.length cb) (.int .i64 0) (.slice none 0 0) (.slice none 0 0)
  have HA := hide hA
  have HZ := hide hZ
  have HB0 := hide (bkp (bnew w (.cells #[.int .i64 t.n, .slice a t.s.length ca, .slice b t.d.length cb] 29)) (bnew _ (.cells #[.int .i64 0, .slice none 0 0, .slice none 0 0] 29)))
  clear hA hZ
  rw [hc] at HC1
  rw [hu] at HC2
  obtain ⟨hs64, hd64⟩ := ch_len hc
  have HC4 := hide (fun W (hb : Below w.heap.size w W) => dCopy t a b ca cb (by omega) (by omega) W (h.below hb))
  obtain ⟨h0, h64, hls, hld⟩ := sz_of (ch_size hc)
  obtain ⟨N, hNn⟩ : ∃ N : Nat, t.n = (N : Int) := ⟨t.n.toNat, by omega⟩
  rw [hNn, Int.toNat_natCast] at hls hld
  have hn64 : N <= 64 := by omega
  have hlN : l.length = N := by omega
  have hin : ∀ q ∈ l, 0 <= q /\ q < 64 := fun q hq => by have := ul_len hn64 l 0 (by rw [← hNn]; exact hu) q hq; omega
  have hrr := ch_rr hc
  rw [hNn, Int.toNat_natCast] at hrr
  have hwd : ∀ i, i < N -> (Wd (t.s.getD i oP) /\ (t.s.getD i oP).n = (N : Int)) /\ (Wd (t.d.getD i oP) /\ (t.d.getD i oP).n = (N : Int)) := fun i hi => ⟨⟨h.ws.getD (by omega), (hrr.1 _ (mem_at (by omega))).2⟩, ⟨h.wd.getD (by omega), (hrr.2 _ (mem_at (by omega))).2⟩⟩
  have HCT : Hid (∀ q, (Wd q /\ q.n = (N : Int)) -> ∀ W, Below w.heap.size w W -> Calls Tryz.prog 56 #[pV q, .slice ao N c] W fun e w' => e = .returned (pV (ordP l q)) /\ Below W.heap.size W w') := hide (fun q hq W hb => dOrdered q hq.1 N hq.2 hn64 l hlN hin ao c W (hN.below hb))
  have HWD := hide hwd
  have HPS0 : Hid (∀ i, i < N -> ∃ gs os, a = some ⟨gs, os, none⟩) := hide (fun i hi => by obtain ⟨g, o, e, -⟩ := h.s.get (by omega); exact ⟨g, o, e⟩)
  have HPD0 : Hid (∀ i, i < N -> ∃ gs os, b = some ⟨gs, os, none⟩) := hide (fun i hi => by obtain ⟨g, o, e, -⟩ := h.d.get (by omega); exact ⟨g, o, e⟩)
  have HUL : Hid (((upd t.s (fun _ p => ordP l p)) N).length = N /\ ((upd t.d (fun _ p => ordP l p)) N).length = N) := hide ⟨by rw [upd_len, hls], by rw [upd_len, hld]⟩
  have HRS : Hid (∀ gs os, a = some ⟨gs, os, none⟩ -> ∀ V, Below w.heap.size w V -> ∀ i, i < N -> Pc V gs (os + i * 4) (t.s.getD i oP) /\ gs < V.heap.size) := hide (fun gs os e V hb i hi => by
    obtain ⟨g, o, e', hh⟩ := h.s.get (by omega)
    rw [e] at e'; cases e'
    have := (hh i _ (get_of (by omega))).below hb
    exact ⟨this, this.lt⟩)
  have HRD : Hid (∀ gs os, b = some ⟨gs, os, none⟩ -> ∀ V, Below w.heap.size w V -> ∀ i, i < N -> Pc V gs (os + i * 4) (t.d.getD i oP) /\ gs < V.heap.size) := hide (fun gs os e V hb i hi => by
    obtain ⟨g, o, e', hh⟩ := h.d.get (by omega)
    rw [e] at e'; cases e'
    have := (hh i _ (get_of (by omega))).below hb
    exact ⟨this, this.lt⟩)
  have HF1 : Hid (∀ i, ((upd t.s (fun _ p => ordP l p)) i).set i (ordP l (t.s.getD i oP)) = (upd t.s (fun _ p => ordP l p)) (i + 1)) := hide (fun i => upd_succ _ _ _)
  have HF2 : Hid (∀ i, ((upd t.d (fun _ p => ordP l p)) i).set i (ordP l (t.d.getD i oP)) = (upd t.d (fun _ p => ordP l p)) (i + 1)) := hide (fun i => upd_succ _ _ _)
  have HGS : Hid (∀ i j, j < N -> ∃ x, ((upd t.s (fun _ p => ordP l p)) i)[j]? = some x) := hide (fun i j hj => ⟨_, upd_at _ _ _ _ (by omega)⟩)
  have HGD : Hid (∀ i j, j < N -> ∃ x, ((upd t.d (fun _ p => ordP l p)) i)[j]? = some x) := hide (fun i j hj => ⟨_, upd_at _ _ _ _ (by omega)⟩)
  have HU0 : Hid ((upd t.s (fun _ p => ordP l p)) 0 = t.s /\ (upd t.d (fun _ p => ordP l p)) 0 = t.d) := hide ⟨upd_zero _ _, upd_zero _ _⟩
  have ht1 : (odT t l).s = (upd t.s (fun _ p => ordP l p)) N := by rw [← hls, upd_all]; rfl
  have ht2 : (odT t l).d = (upd t.d (fun _ p => ordP l p)) N := by rw [← hld, upd_all]; rfl
  have hlen : (odT t l).s.length = N /\ (odT t l).d.length = N := ⟨by rw [ht1, upd_len, hls], by rw [ht2, upd_len, hld]⟩
  have hwl : Wl (odT t l).s /\ Wl (odT t l).d := ⟨fun q hq => by obtain ⟨i, hi, rfl⟩ := List.mem_map.1 hq; exact wd_ord hin (hrr.1 _ (mem_at (List.mem_range.1 hi))).2 hlN, fun q hq => by obtain ⟨i, hi, rfl⟩ := List.mem_map.1 hq; exact wd_ord hin (hrr.2 _ (mem_at (List.mem_range.1 hi))).2 hlN⟩
  have HEND : Hid (∀ W a' b' c1 c2, PIn W a' ((upd t.s (fun _ p => ordP l p)) N) -> PIn W b' ((upd t.d (fun _ p => ordP l p)) N) -> N <= c1 -> N <= c2 -> Th W (odT t l) a' b' c1 c2) := hide (fun W a' b' c1 c2 p1 p2 q1 q2 => ⟨by rw [ht1]; exact p1, by rw [ht2]; exact p2, hwl.1, hwl.2, by rw [hlen.1]; exact q1, by rw [hlen.2]; exact q2, by rw [hlen.1]; omega, by rw [hlen.2]; omega⟩)
  have HLEN := hide (And.intro (show (odT t l).n = (N : Int) from hNn) hlen)
  unfold tV at HC1 HC4 ⊢
  rw [HLEN.out.1, HLEN.out.2.1, HLEN.out.2.2]
  rw [hls, hld, hNn] at HC1 HC4 HA HZ HB0 ⊢
  rw [hNn] at HC2
  rw [hlN] at HC2 ⊢
  have hnn : ((N : Int) != (N : Int)) = false := by simp
  have HLZ := hide (And.intro hls hld)
  have HT1 := hide h
  clear HLEN hlen hwl ht1 ht2 hls hld hNn h hN hc hlt hu hrr hlN hin hwd hs64 hd64 h0 h64
  generalize (upd t.s (fun _ p => ordP l p)) = US at *
  generalize (upd t.d (fun _ p => ordP l p)) = UD at *
  generalize odT t l = R at *
  go_enter Tryz.func27, Tryz.ntmps27
  go_wp2_with fail
  refine (HC1.out _ HB0.out).mono ?_
  rintro e w1 ⟨rfl, hb1⟩
  have HB1 := hide (bkp HB0.out hb1)
  have HA1 := hide (HA.out.below hb1)
  have HZ1 := hide (HZ.out.below hb1)
  clear hb1 HA HZ HB0 HC1
  obtain ⟨x0, x1, x2, x3⟩ := HA1.out.cells
  go_wp2_with fail
  refine (HC2.out _ HB1.out).mono ?_
  rintro e w2 ⟨rfl, hb2⟩
  have HB2 := hide (bkp HB1.out hb2)
  have HA2 := hide (HA1.out.below hb2)
  have HZ2 := hide (HZ1.out.below hb2)
  clear hb2 HA1 HZ1 HB1 HC2 x0 x1 x2 x3
  obtain ⟨x0, x1, x2, x3⟩ := HA2.out.cells
  go_wp2_with fail
  clear x0 x1 x2 x3
  refine (HC4.out _ HB2.out).mono ?_
  rintro e w4 ⟨a', b', ca', cb', rfl, hTn, hb4⟩
  have HTn := hide hTn
  have hbn := bnew w4 (.cells #[.int .i64 (N : Int), .slice a' N ca', .slice b' N cb'] 29)
  have HB4 := hide (bkp (bkp HB2.out hb4) hbn)
  have HA4 := hide ((HA2.out.below hb4).below hbn)
  have HZ4 := hide ((HZ2.out.below hb4).below hbn)
  have HL2 := hide HZ2.out.lt
  have HL4 := hide hb4.size
  have HCC := hide (At3.new w4 (.int .i64 (N : Int)) (.slice a' N ca') (.slice b' N cb'))
  clear hb4 hTn HA2 HZ2 HB2 HC4 hbn
  obtain ⟨x0, x1, x2, x3⟩ := HA4.out.cells
  rcases Nat.eq_zero_or_pos N with rfl | hpos
  . have HR : Hid (Th (w4.alloc (.cells #[.int .i64 ((0 : Nat) : Int), .slice a' 0 ca', .slice b' 0 cb'] 29)) R a' b' ca' cb') := hide (HEND.out _ _ _ _ _ (.inl (List.length_eq_zero_iff.1 (by rw [HUL.out.1]))) (.inl (List.length_eq_zero_iff.1 (by rw [HUL.out.2]))) (Nat.zero_le _) (Nat.zero_le _))
    clear HEND HF1 HF2 HGS HGD HU0 HRS HRD HPS0 HPD0 HWD HCT HTn
    obtain ⟨y0, y1, y2, y3⟩ := HCC.out.cells
    go_wp2_with fail
    generalize w4.alloc (.cells #[.int .i64 ((0 : Nat) : Int), .slice a' 0 ca', .slice b' 0 cb'] 29) = V4 at *
    generalize w4.heap.size = gc at *
    clear x0 x1 x2 x3 y0 y1 y2 y3
    go_loopw [7] (fun vi wr => vi = .int .i64 ((0 : Nat) : Int) /\ Hid (Below V4.heap.size V4 wr)) (fun _ _ => 0)
    case atStart => exact ⟨rfl, hide (Below.refl _ _)⟩
    case round =>
      obtain ⟨rfl, HI⟩ := hrel
      obtain ⟨x0, x1, x2, x3⟩ := (HA4.out.below HI.out).cells
      obtain ⟨y0, y1, y2, y3⟩ := (HCC.out.below HI.out).cells
      have hR := HZ4.out.below HI.out
      have HY := hide (And.intro ((HR.out.below HI.out).row hR #[.int .i64 0, .slice a' 0 ca', .slice b' 0 cb']) (bkp HB4.out HI.out))
      unfold At3 at hR
      clear HI HR HA4 HCC HZ4 HB4
      go_wp2_with (first
        | (refine wpList_store_row rfl _ _ _ rfl (w.heap.size + 1) _ rfl rfl _ _ hR (by exact infoT) (by rfl) (all3 _ _ _ _ _ _ _) ?_))
      refine bodyPost_ret (Pau.results_ct rfl _ _ (w.heap.size + 1) _ _ _ _ rfl (setRow_heap _ _ _ _ _ _ hR) Tryz.underlying29 rfl (by exact infoT)) rfl ?_
      exact ⟨a', b', ca', cb', rfl, HY.out.1, below_setRow HY.out.2 (by omega) _⟩
  . obtain ⟨gs, os, rfl⟩ := HPS0.out 0 hpos
    obtain ⟨gd, od, rfl⟩ := HPD0.out 0 hpos
    have HRS' := hide (HRS.out gs os rfl)
    have HRD' := hide (HRD.out gd od rfl)
    obtain ⟨g1, e1, b1, o1⟩ := get_some HTn.out.s (by rw [HLZ.out.1]; exact hpos)
    obtain ⟨g2, e2, b2, o2⟩ := get_some HTn.out.d (by rw [HLZ.out.2]; exact hpos)
    have hne : g1 ≠ g2 := by
      rcases HTn.out.ne with e | e | e
      . have := HLZ.out.1; rw [e] at this; simp at this; omega
      . have := HLZ.out.2; rw [e] at this; simp at this; omega
      . exact e _ _ e1 e2
    have HCA : Hid (N <= ca' /\ N <= cb') := hide ⟨by rw [← HLZ.out.1]; exact HTn.out.la, by rw [← HLZ.out.2]; exact HTn.out.lb⟩
    subst e1
    subst e2
    have HN : Hid (Gn2 w w4.heap.size g1 g2) := hide (by
      have q1 := o1.lt
      have q2 := o2.lt
      have q3 := HL2.out
      have q4 := HL4.out
      exact ⟨by omega, by omega, by omega, hne, by omega, by omega⟩)
    have HI0 : Hid (Ga w (w4.alloc (.cells #[.int .i64 (N : Int), .slice (some ⟨g1, 0, none⟩) N ca', .slice (some ⟨g2, 0, none⟩) N cb'] 29)) N (some ⟨gs, os, none⟩) (some ⟨gd, od, none⟩) ca cb w4.heap.size g1 g2 ca' cb' (US 0) (UD 0)) := hide ⟨HA4.out, HZ4.out, HCC.out, by rw [HU0.out.1]; exact o1.below (bnew _ _), by rw [HU0.out.2]; exact o2.below (bnew _ _), HB4.out⟩
    clear HPS0 HPD0 HRS HRD HTn hne o1 o2 b1 b2 HA4 HZ4 HCC HB4 HU0 HLZ HL2 HL4
    go_wp2_with fail
    generalize w4.alloc (.cells #[.int .i64 (N : Int), .slice (some ⟨g1, 0, none⟩) N ca', .slice (some ⟨g2, 0, none⟩) N cb'] 29) = V4 at *
    generalize w4.heap.size = gc at *
    clear x0 x1 x2 x3
    go_loopw [7] (fun vi wr => ∃ i : Nat, vi = .int .i64 (i : Int) /\ i <= N /\ Hid (Ga w wr N (some ⟨gs, os, none⟩) (some ⟨gd, od, none⟩) ca cb gc g1 g2 ca' cb' (US i) (UD i))) (fun vi _ => N - (Go.RowKit.intOf vi).toNat)
    case atStart => exact ⟨0, rfl, Nat.zero_le _, HI0⟩
    case round =>
      obtain ⟨i, rfl, hi, HI⟩ := hrel
      clear HI0
      obtain ⟨x0, x1, x2, x3⟩ := HI.out.tb.cells
      by_cases h : i < N
      . have hd : decide ((i : Int) < (N : Int)) = true := decide_eq_true (by omega)
        have HcA := hide (HCT.out _ (HWD.out i h).1)
        have HcB := hide (HCT.out _ (HWD.out i h).2)
        have hf1 := HF1.out i
        have hf2 := HF2.out i
        have HPS := hide (fun V hb => HRS'.out V hb i h)
        have HPD := hide (fun V hb => HRD'.out V hb i h)
        clear HCT HWD HF1 HF2 HRS' HRD' HEND HCA
        generalize ordP l (t.s.getD i oP) = R1 at *
        generalize ordP l (t.d.getD i oP) = R2 at *
        generalize t.s.getD i oP = p1 at *
        generalize t.d.getD i oP = p2 at *
        obtain ⟨m1, x1', z1, f1⟩ := p1
        obtain ⟨m2, x2', z2, f2⟩ := p2
        obtain ⟨m3, x3', z3, f3⟩ := R1
        obtain ⟨m4, x4, z4, f4⟩ := R2
        unfold pV at HcA HcB
        simp only at HcA HcB hf1 hf2
        go_wp2_with fail
        clear x0 x1 x2 x3
        have HBV : Hid (∀ V, Bx g1 wr V -> Below w.heap.size w V) := hide (fun V hV => hV.below HI.out.bw (by have := HN.out.n1; omega) (Nat.le_refl _))
        have HSV : Hid (∀ V, Bx g1 wr V -> (Bx g1 wr V /\ V.cell? ⟨w.heap.size, 1, none⟩ = some (.slice (some ⟨gs, os, none⟩) N ca) /\ V.cell? ⟨gc, 1, none⟩ = some (.slice (some ⟨g1, 0, none⟩) N ca') /\ V.cell? ⟨gs, os + i * 4, none⟩ = some (.int .i64 m1) /\ V.cell? ⟨gs, os + i * 4 + 1, none⟩ = some (.int .u64 (x1' : Int)) /\ V.cell? ⟨gs, os + i * 4 + 2, none⟩ = some (.int .u64 (z1 : Int)) /\ V.cell? ⟨gs, os + i * 4 + 3, none⟩ = some (.int .i64 f1) /\ gs < V.heap.size /\ g1 < V.heap.size)) := hide (fun V hV => by
          obtain ⟨-, k1, k2, -⟩ := (HI.out.tb.bx hV (by have := HN.out.n1; omega)).cells
          obtain ⟨-, l1, l2, -⟩ := (HI.out.cc.bx hV HN.out.e13).cells
          obtain ⟨⟨c0, c1, c2, c3⟩, c4⟩ := HPS.out V (HBV.out V hV)
          exact ⟨hV, k1, l1, c0, c1, c2, c3, c4, Nat.lt_of_lt_of_le HI.out.so.lt hV.size⟩)
        have HD0 : Hid (Bx g1 wr wr.drew) := hide (Bx.refl _ _).drew
        obtain ⟨old, hold⟩ := HGS.out i i h
        have HOLD := hide hold
        clear hold
        obtain ⟨mo, xo, zo, fo⟩ := old
        go_region_held3 (fun V => Bx g1 wr V /\ V.cell? ⟨w.heap.size, 1, none⟩ = some (.slice (some ⟨gs, os, none⟩) N ca) /\ V.cell? ⟨gc, 1, none⟩ = some (.slice (some ⟨g1, 0, none⟩) N ca') /\ V.cell? ⟨gs, os + i * 4, none⟩ = some (.int .i64 m1) /\ V.cell? ⟨gs, os + i * 4 + 1, none⟩ = some (.int .u64 (x1' : Int)) /\ V.cell? ⟨gs, os + i * 4 + 2, none⟩ = some (.int .u64 (z1 : Int)) /\ V.cell? ⟨gs, os + i * 4 + 3, none⟩ = some (.int .i64 f1) /\ gs < V.heap.size /\ g1 < V.heap.size)
          (first | exact HSV.out _ HD0.out | exact HSV.out _ (by assumption) | exact HSV.out _ (hx5.trans (Bx.set g1 w5 (i * 4) ⟨m3, x3', z3, f3⟩)))
          (first
            | (go_at_call 56; (with_reducible refine Calls.mono (HcA.out _ (HBV.out _ (‹Bx g1 wr _ /\ _›.1))) ?_); rintro e w5 ⟨rfl, q5⟩; have hx5 := Bx.then (‹Bx g1 wr _ /\ _›.1) q5; obtain ⟨c0, c1, c2, c3⟩ := PO.at (PO.below (w := wr.drew) HI.out.so q5) HOLD.out; have cf := PO.fz (PO.below (w := wr.drew) HI.out.so q5); have cl := PO.lt (PO.below (w := wr.drew) HI.out.so q5)))
        have HXS : Hid (Ga w (set4 w5 g1 (i * 4) ⟨m3, x3', z3, f3⟩) N (some ⟨gs, os, none⟩) (some ⟨gd, od, none⟩) ca cb gc g1 g2 ca' cb' (US (i + 1)) (UD i)) := hide (by
          have hpo : PO w5 g1 (US i) := PO.below (w := wr.drew) HI.out.so q5
          refine HI.out.bx1 HN.out (hx5.trans (Bx.set g1 w5 (i * 4) ⟨m3, x3', z3, f3⟩)) ?_
          rw [← hf1]
          exact hpo.set _)
        change Exit.then _ _ _ _ (set4 w5 g1 (i * 4) ⟨m3, x3', z3, f3⟩)
        clear c0 c1 c2 c3 cf cl hx5 q5 HSV HBV HD0 HOLD HI
        generalize (set4 w5 g1 (i * 4) ⟨m3, x3', z3, f3⟩) = WS at *
        go_wp2_with fail
        have HBV : Hid (∀ V, Bx g2 WS V -> Below w.heap.size w V) := hide (fun V hV => hV.below HXS.out.bw (by have := HN.out.n2; omega) (Nat.le_refl _))
        have HSV : Hid (∀ V, Bx g2 WS V -> (Bx g2 WS V /\ V.cell? ⟨w.heap.size, 2, none⟩ = some (.slice (some ⟨gd, od, none⟩) N cb) /\ V.cell? ⟨gc, 2, none⟩ = some (.slice (some ⟨g2, 0, none⟩) N cb') /\ V.cell? ⟨gd, od + i * 4, none⟩ = some (.int .i64 m2) /\ V.cell? ⟨gd, od + i * 4 + 1, none⟩ = some (.int .u64 (x2' : Int)) /\ V.cell? ⟨gd, od + i * 4 + 2, none⟩ = some (.int .u64 (z2 : Int)) /\ V.cell? ⟨gd, od + i * 4 + 3, none⟩ = some (.int .i64 f2) /\ gd < V.heap.size /\ g2 < V.heap.size)) := hide (fun V hV => by
          obtain ⟨-, k1, k2, -⟩ := (HXS.out.tb.bx hV (by have := HN.out.n2; omega)).cells
          obtain ⟨-, l1, l2, -⟩ := (HXS.out.cc.bx hV HN.out.e23).cells
          obtain ⟨⟨c0, c1, c2, c3⟩, c4⟩ := HPD.out V (HBV.out V hV)
          exact ⟨hV, k2, l2, c0, c1, c2, c3, c4, Nat.lt_of_lt_of_le HXS.out.dd.lt hV.size⟩)
        have HD0 : Hid (Bx g2 WS WS.drew) := hide (Bx.refl _ _).drew
        obtain ⟨old, hold⟩ := HGD.out i i h
        have HOLD := hide hold
        clear hold
        obtain ⟨mo, xo, zo, fo⟩ := old
        go_region_held3 (fun V => Bx g2 WS V /\ V.cell? ⟨w.heap.size, 2, none⟩ = some (.slice (some ⟨gd, od, none⟩) N cb) /\ V.cell? ⟨gc, 2, none⟩ = some (.slice (some ⟨g2, 0, none⟩) N cb') /\ V.cell? ⟨gd, od + i * 4, none⟩ = some (.int .i64 m2) /\ V.cell? ⟨gd, od + i * 4 + 1, none⟩ = some (.int .u64 (x2' : Int)) /\ V.cell? ⟨gd, od + i * 4 + 2, none⟩ = some (.int .u64 (z2 : Int)) /\ V.cell? ⟨gd, od + i * 4 + 3, none⟩ = some (.int .i64 f2) /\ gd < V.heap.size /\ g2 < V.heap.size)
          (first | exact HSV.out _ HD0.out | exact HSV.out _ (by assumption) | exact HSV.out _ (hx5.trans (Bx.set g2 w5 (i * 4) ⟨m4, x4, z4, f4⟩)))
          (first
            | (go_at_call 56; (with_reducible refine Calls.mono (HcB.out _ (HBV.out _ (‹Bx g2 WS _ /\ _›.1))) ?_); rintro e w5 ⟨rfl, q5⟩; have hx5 := Bx.then (‹Bx g2 WS _ /\ _›.1) q5; obtain ⟨c0, c1, c2, c3⟩ := PO.at (PO.below (w := WS.drew) HXS.out.dd q5) HOLD.out; have cf := PO.fz (PO.below (w := WS.drew) HXS.out.dd q5); have cl := PO.lt (PO.below (w := WS.drew) HXS.out.dd q5)))
        have HXD : Hid (Ga w (set4 w5 g2 (i * 4) ⟨m4, x4, z4, f4⟩) N (some ⟨gs, os, none⟩) (some ⟨gd, od, none⟩) ca cb gc g1 g2 ca' cb' (US (i + 1)) (UD (i + 1))) := hide (by
          have hpo : PO w5 g2 (UD i) := PO.below (w := WS.drew) HXS.out.dd q5
          refine HXS.out.bx2 HN.out (hx5.trans (Bx.set g2 w5 (i * 4) ⟨m4, x4, z4, f4⟩)) ?_
          rw [← hf2]
          exact hpo.set _)
        change Exit.inBlock _ _ _ _ (set4 w5 g2 (i * 4) ⟨m4, x4, z4, f4⟩)
        clear c0 c1 c2 c3 cf cl hx5 q5 HSV HBV HD0 HOLD HXS
        generalize (set4 w5 g2 (i * 4) ⟨m4, x4, z4, f4⟩) = WD at *
        go_wp2_with fail
        go_roundw
        case rel => exact ⟨i + 1, by go_num, by omega, HXD⟩
        case measure => simp [Go.RowKit.intOf]; omega
      . obtain rfl : N = i := by omega
        have hd : decide ((N : Int) < (N : Int)) = false := decide_eq_false (by omega)
        obtain ⟨y0, y1, y2, y3⟩ := HI.out.cc.cells
        have hR := HI.out.rs
        have hTH := HEND.out _ _ _ _ _ HI.out.so.pin HI.out.dd.pin HCA.out.1 HCA.out.2
        have HY := hide (And.intro (hTH.row hR #[.int .i64 (N : Int), .slice (some ⟨g1, 0, none⟩) N ca', .slice (some ⟨g2, 0, none⟩) N cb']) HI.out.bw)
        unfold At3 at hR
        clear hTH HI HEND HCT HWD HF1 HF2 HRS' HRD' HGS HGD
        go_wp2_with (first
          | (refine wpList_store_row rfl _ _ _ rfl (w.heap.size + 1) _ rfl rfl _ _ hR (by exact infoT) (by rfl) (all3 _ _ _ _ _ _ _) ?_))
        refine bodyPost_ret (Pau.results_ct rfl _ _ (w.heap.size + 1) _ _ _ _ rfl (setRow_heap _ _ _ _ _ _ hR) Tryz.underlying29 rfl (by exact infoT)) rfl ?_
        exact ⟨some ⟨g1, 0, none⟩, some ⟨g2, 0, none⟩, ca', cb', rfl, HY.out.1, below_setRow HY.out.2 (by omega) _⟩
theorem tOrder_ok (t : TT) (a b : Option Addr) (ca cb : Nat) (l : List Int) (hl : l.length <= 1000000000000000) (ao : Option Addr) (c : Nat) (hc : chB t = true) (hlt : (l.length : Int) = t.n) (hu : ulB t.n l = true) (w : World) (h : Th w t a b ca cb) (hN : Ns w ao l) :
    Calls Tryz.prog 26 #[tV t a b ca cb, .slice ao l.length c] w fun e w' => ∃ a' b' ca' cb', e = .returned (.tuple #[tV (odT t l) a' b' ca' cb', .int .i64 0]) /\ Th w' (odT t l) a' b' ca' cb' /\ Below w.heap.size w w' := by
  have HC1 := hide (fun W (hb : Below w.heap.size w W) => tCheck t a b ca cb W (h.below hb))
  obtain ⟨hA, hZ⟩ := two3 w (.int .i64 t.n) (.slice a t.s.length ca) (.slice b t.d.length cb) (.int .i64 0) (.slice none 0 0) (.slice none 0 0)
  have HA := hide hA
  have HZ := hide hZ
  have HB0 := hide (bkp (bnew w (.cells #[.int .i64 t.n, .slice a t.s.length ca, .slice b t.d.length cb] 29)) (bnew _ (.cells #[.int .i64 0, .slice none 0 0, .slice none 0 0] 29)))
  clear hA hZ
  unfold chI at HC1
  rw [if_pos hc] at HC1
  obtain ⟨hs64, hd64⟩ := ch_len hc
  obtain ⟨h0, h64, hls, hld⟩ := sz_of (ch_size hc)
  obtain ⟨N, hNn⟩ : ∃ N : Nat, t.n = (N : Int) := ⟨t.n.toNat, by omega⟩
  rw [hNn, Int.toNat_natCast] at hls hld
  have hn64 : N <= 64 := by omega
  have HC2 := hide (fun W (hb : Below w.heap.size w W) => tUnlike l hl N hn64 ao c W (hN.below hb))
  rw [← hNn, hu] at HC2
  have HC4 := hide (fun W => tBlank N hn64 W)
  have hlN : l.length = N := by omega
  have hin : ∀ q ∈ l, 0 <= q /\ q < 64 := fun q hq => by have := ul_len hn64 l 0 (by rw [← hNn]; exact hu) q hq; omega
  have hrr := ch_rr hc
  rw [hNn, Int.toNat_natCast] at hrr
  have hwd : ∀ i, i < N -> (Wd (t.s.getD i oP) /\ (t.s.getD i oP).n = (N : Int)) /\ (Wd (t.d.getD i oP) /\ (t.d.getD i oP).n = (N : Int)) := fun i hi => ⟨⟨h.ws.getD (by omega), (hrr.1 _ (mem_at (by omega))).2⟩, ⟨h.wd.getD (by omega), (hrr.2 _ (mem_at (by omega))).2⟩⟩
  have HCT : Hid (∀ q, (Wd q /\ q.n = (N : Int)) -> ∀ W, Below w.heap.size w W -> Calls Tryz.prog 54 #[pV q, .slice ao N c] W fun e w' => e = .returned (pV (ordP l q)) /\ Below W.heap.size W w') := hide (fun q hq W hb => tOrdered q hq.1 N hq.2 hn64 l hlN hin ao c W (hN.below hb))
  have HWD := hide hwd
  have HPS0 : Hid (∀ i, i < N -> ∃ gs os, a = some ⟨gs, os, none⟩) := hide (fun i hi => by obtain ⟨g, o, e, -⟩ := h.s.get (by omega); exact ⟨g, o, e⟩)
  have HPD0 : Hid (∀ i, i < N -> ∃ gs os, b = some ⟨gs, os, none⟩) := hide (fun i hi => by obtain ⟨g, o, e, -⟩ := h.d.get (by omega); exact ⟨g, o, e⟩)
  have HUL : Hid (((fillL N (fun i => ordP l (t.s.getD i oP))) N).length = N /\ ((fillL N (fun i => ordP l (t.d.getD i oP))) N).length = N) := hide ⟨fill_len _ _ _, fill_len _ _ _⟩
  have HRS : Hid (∀ gs os, a = some ⟨gs, os, none⟩ -> ∀ V, Below w.heap.size w V -> ∀ i, i < N -> Pc V gs (os + i * 4) (t.s.getD i oP) /\ gs < V.heap.size) := hide (fun gs os e V hb i hi => by
    obtain ⟨g, o, e', hh⟩ := h.s.get (by omega)
    rw [e] at e'; cases e'
    have := (hh i _ (get_of (by omega))).below hb
    exact ⟨this, this.lt⟩)
  have HRD : Hid (∀ gs os, b = some ⟨gs, os, none⟩ -> ∀ V, Below w.heap.size w V -> ∀ i, i < N -> Pc V gs (os + i * 4) (t.d.getD i oP) /\ gs < V.heap.size) := hide (fun gs os e V hb i hi => by
    obtain ⟨g, o, e', hh⟩ := h.d.get (by omega)
    rw [e] at e'; cases e'
    have := (hh i _ (get_of (by omega))).below hb
    exact ⟨this, this.lt⟩)
  have HF1 : Hid (∀ i, ((fillL N (fun i => ordP l (t.s.getD i oP))) i).set i (ordP l (t.s.getD i oP)) = (fillL N (fun i => ordP l (t.s.getD i oP))) (i + 1)) := hide (fun i => fill_succ _ _ _)
  have HF2 : Hid (∀ i, ((fillL N (fun i => ordP l (t.d.getD i oP))) i).set i (ordP l (t.d.getD i oP)) = (fillL N (fun i => ordP l (t.d.getD i oP))) (i + 1)) := hide (fun i => fill_succ _ _ _)
  have HGS : Hid (∀ i j, j < N -> ∃ x, ((fillL N (fun i => ordP l (t.s.getD i oP))) i)[j]? = some x) := hide (fun i j hj => ⟨_, get_of (by rw [fill_len]; exact hj)⟩)
  have HGD : Hid (∀ i j, j < N -> ∃ x, ((fillL N (fun i => ordP l (t.d.getD i oP))) i)[j]? = some x) := hide (fun i j hj => ⟨_, get_of (by rw [fill_len]; exact hj)⟩)
  have HU0 : Hid ((fillL N (fun i => ordP l (t.s.getD i oP))) 0 = List.replicate N oP /\ (fillL N (fun i => ordP l (t.d.getD i oP))) 0 = List.replicate N oP) := hide ⟨fill_zero _ _, fill_zero _ _⟩
  have ht1 : (odT t l).s = (fillL N (fun i => ordP l (t.s.getD i oP))) N := by rw [fill_all]; unfold odT; rw [hls]
  have ht2 : (odT t l).d = (fillL N (fun i => ordP l (t.d.getD i oP))) N := by rw [fill_all]; unfold odT; rw [hld]
  have hlen : (odT t l).s.length = N /\ (odT t l).d.length = N := ⟨by rw [ht1, fill_len], by rw [ht2, fill_len]⟩
  have hwl : Wl (odT t l).s /\ Wl (odT t l).d := ⟨fun q hq => by obtain ⟨i, hi, rfl⟩ := List.mem_map.1 hq; exact wd_ord hin (hrr.1 _ (mem_at (List.mem_range.1 hi))).2 hlN, fun q hq => by obtain ⟨i, hi, rfl⟩ := List.mem_map.1 hq; exact wd_ord hin (hrr.2 _ (mem_at (List.mem_range.1 hi))).2 hlN⟩
  have HEND : Hid (∀ W a' b' c1 c2, PIn W a' ((fillL N (fun i => ordP l (t.s.getD i oP))) N) -> PIn W b' ((fillL N (fun i => ordP l (t.d.getD i oP))) N) -> N <= c1 -> N <= c2 -> Th W (odT t l) a' b' c1 c2) := hide (fun W a' b' c1 c2 p1 p2 q1 q2 => ⟨by rw [ht1]; exact p1, by rw [ht2]; exact p2, hwl.1, hwl.2, by rw [hlen.1]; exact q1, by rw [hlen.2]; exact q2, by rw [hlen.1]; omega, by rw [hlen.2]; omega⟩)
  have HLEN := hide (And.intro (show (odT t l).n = (N : Int) from hNn) hlen)
  unfold tV at HC1 ⊢
  rw [HLEN.out.1, HLEN.out.2.1, HLEN.out.2.2]
  rw [hls, hld, hNn] at HC1 HA HZ HB0 ⊢
  rw [hNn] at HC2
  rw [hlN] at HC2 ⊢
  have hnn : ((N : Int) != (N : Int)) = false := by simp
  have HLZ := hide (And.intro hls hld)
  have HT1 := hide h
  clear HLEN hlen hwl ht1 ht2 hls hld hNn h hN hc hlt hu hrr hlN hin hwd hs64 hd64 h0 h64
  generalize (fillL N (fun i => ordP l (t.s.getD i oP))) = US at *
  generalize (fillL N (fun i => ordP l (t.d.getD i oP))) = UD at *
  generalize odT t l = R at *
  go_enter Tryz.func26, Tryz.ntmps26
  go_wp2_with fail
  refine (HC1.out _ HB0.out).mono ?_
  rintro e w1 ⟨rfl, hb1⟩
  have HB1 := hide (bkp HB0.out hb1)
  have HA1 := hide (HA.out.below hb1)
  have HZ1 := hide (HZ.out.below hb1)
  clear hb1 HA HZ HB0 HC1
  obtain ⟨x0, x1, x2, x3⟩ := HA1.out.cells
  go_wp2_with fail
  refine (HC2.out _ HB1.out).mono ?_
  rintro e w2 ⟨rfl, hb2⟩
  have HB2 := hide (bkp HB1.out hb2)
  have HA2 := hide (HA1.out.below hb2)
  have HZ2 := hide (HZ1.out.below hb2)
  clear hb2 HA1 HZ1 HB1 HC2 x0 x1 x2 x3
  obtain ⟨x0, x1, x2, x3⟩ := HA2.out.cells
  go_wp2_with fail
  clear x0 x1 x2 x3
  refine (HC4.out _).mono ?_
  rintro e w4 ⟨g1, g2, rfl, hTo, hb4⟩
  have hbn := bnew w4 (.cells #[.int .i64 (N : Int), .slice (some ⟨g1, 0, none⟩) N N, .slice (some ⟨g2, 0, none⟩) N N] 29)
  have HN : Hid (Gn2 w w4.heap.size g1 g2) := hide (by
    have q1 := hTo.s.lt
    have q2 := hTo.d.lt
    have q3 := HZ2.out.lt
    have q4 := hTo.b1
    have q5 := hTo.b2
    exact ⟨by omega, by omega, by have := hb4.size; omega, hTo.ne, by omega, by omega⟩)
  have HI0 : Hid (Ga w (w4.alloc (.cells #[.int .i64 (N : Int), .slice (some ⟨g1, 0, none⟩) N N, .slice (some ⟨g2, 0, none⟩) N N] 29)) N a b ca cb w4.heap.size g1 g2 N N (US 0) (UD 0)) := hide ⟨(HA2.out.below hb4).below hbn, (HZ2.out.below hb4).below hbn, At3.new _ _ _ _, by rw [HU0.out.1]; exact hTo.s.below hbn, by rw [HU0.out.2]; exact hTo.d.below hbn, bkp (bkp HB2.out hb4) hbn⟩
  clear hTo hb4 hbn HA2 HZ2 HB2 HC4 HU0 HLZ HT1
  obtain ⟨x0, x1, x2, x3⟩ := HI0.out.tb.cells
  go_wp2_with fail
  generalize w4.alloc (.cells #[.int .i64 (N : Int), .slice (some ⟨g1, 0, none⟩) N N, .slice (some ⟨g2, 0, none⟩) N N] 29) = V4 at *
  generalize w4.heap.size = gc at *
  clear x0 x1 x2 x3
  rcases Nat.eq_zero_or_pos N with hzz | hpos
  . have HZZ := hide hzz
    clear hzz HPS0 HPD0
    go_loopw [33] (fun vi wr => ∃ i : Nat, vi = .int .i64 (i : Int) /\ i <= N /\ Hid (Ga w wr N a b ca cb gc g1 g2 N N (US i) (UD i))) (fun vi _ => N - (Go.RowKit.intOf vi).toNat)
    case atStart => exact ⟨0, rfl, Nat.zero_le _, HI0⟩
    case round =>
      obtain ⟨i, rfl, hi, HI⟩ := hrel
      clear HI0
      obtain ⟨x0, x1, x2, x3⟩ := HI.out.tb.cells
      by_cases h : i < N
      . exact absurd h (by have := HZZ.out; omega)
      . obtain rfl : N = i := by omega
        have hd : decide ((N : Int) < (N : Int)) = false := decide_eq_false (by omega)
        obtain ⟨y0, y1, y2, y3⟩ := HI.out.cc.cells
        have hR := HI.out.rs
        have hTH := HEND.out _ _ _ _ _ HI.out.so.pin HI.out.dd.pin (Nat.le_refl _) (Nat.le_refl _)
        have HY := hide (And.intro (hTH.row hR #[.int .i64 (N : Int), .slice (some ⟨g1, 0, none⟩) N N, .slice (some ⟨g2, 0, none⟩) N N]) HI.out.bw)
        unfold At3 at hR
        clear hTH HI HEND HCT HWD HF1 HF2 HRS HRD HGS HGD
        go_wp2_with (first
          | (refine wpList_store_row rfl _ _ _ rfl (w.heap.size + 1) _ rfl rfl _ _ hR (by exact infoT) (by rfl) (all3 _ _ _ _ _ _ _) ?_))
        refine bodyPost_ret (Pau.results_ct rfl _ _ (w.heap.size + 1) _ _ _ _ rfl (setRow_heap _ _ _ _ _ _ hR) Tryz.underlying29 rfl (by exact infoT)) rfl ?_
        exact ⟨some ⟨g1, 0, none⟩, some ⟨g2, 0, none⟩, N, N, rfl, HY.out.1, below_setRow HY.out.2 (by omega) _⟩
  . obtain ⟨gs, os, rfl⟩ := HPS0.out 0 hpos
    obtain ⟨gd, od, rfl⟩ := HPD0.out 0 hpos
    have HRS' := hide (HRS.out gs os rfl)
    have HRD' := hide (HRD.out gd od rfl)
    clear HPS0 HPD0 HRS HRD
    go_loopw [33] (fun vi wr => ∃ i : Nat, vi = .int .i64 (i : Int) /\ i <= N /\ Hid (Ga w wr N (some ⟨gs, os, none⟩) (some ⟨gd, od, none⟩) ca cb gc g1 g2 N N (US i) (UD i))) (fun vi _ => N - (Go.RowKit.intOf vi).toNat)
    case atStart => exact ⟨0, rfl, Nat.zero_le _, HI0⟩
    case round =>
      obtain ⟨i, rfl, hi, HI⟩ := hrel
      clear HI0
      obtain ⟨x0, x1, x2, x3⟩ := HI.out.tb.cells
      by_cases h : i < N
      . have hd : decide ((i : Int) < (N : Int)) = true := decide_eq_true (by omega)
        have HcA := hide (HCT.out _ (HWD.out i h).1)
        have HcB := hide (HCT.out _ (HWD.out i h).2)
        have hf1 := HF1.out i
        have hf2 := HF2.out i
        have HPS := hide (fun V hb => HRS'.out V hb i h)
        have HPD := hide (fun V hb => HRD'.out V hb i h)
        clear HCT HWD HF1 HF2 HRS' HRD' HEND
        generalize ordP l (t.s.getD i oP) = R1 at *
        generalize ordP l (t.d.getD i oP) = R2 at *
        generalize t.s.getD i oP = p1 at *
        generalize t.d.getD i oP = p2 at *
        obtain ⟨m1, x1', z1, f1⟩ := p1
        obtain ⟨m2, x2', z2, f2⟩ := p2
        obtain ⟨m3, x3', z3, f3⟩ := R1
        obtain ⟨m4, x4, z4, f4⟩ := R2
        unfold pV at HcA HcB
        simp only at HcA HcB hf1 hf2
        go_wp2_with fail
        clear x0 x1 x2 x3
        have HBV : Hid (∀ V, Bx g1 wr V -> Below w.heap.size w V) := hide (fun V hV => hV.below HI.out.bw (by have := HN.out.n1; omega) (Nat.le_refl _))
        have HSV : Hid (∀ V, Bx g1 wr V -> (Bx g1 wr V /\ V.cell? ⟨w.heap.size, 1, none⟩ = some (.slice (some ⟨gs, os, none⟩) N ca) /\ V.cell? ⟨gc, 1, none⟩ = some (.slice (some ⟨g1, 0, none⟩) N N) /\ V.cell? ⟨gs, os + i * 4, none⟩ = some (.int .i64 m1) /\ V.cell? ⟨gs, os + i * 4 + 1, none⟩ = some (.int .u64 (x1' : Int)) /\ V.cell? ⟨gs, os + i * 4 + 2, none⟩ = some (.int .u64 (z1 : Int)) /\ V.cell? ⟨gs, os + i * 4 + 3, none⟩ = some (.int .i64 f1) /\ gs < V.heap.size /\ g1 < V.heap.size)) := hide (fun V hV => by
          obtain ⟨-, k1, k2, -⟩ := (HI.out.tb.bx hV (by have := HN.out.n1; omega)).cells
          obtain ⟨-, l1, l2, -⟩ := (HI.out.cc.bx hV HN.out.e13).cells
          obtain ⟨⟨c0, c1, c2, c3⟩, c4⟩ := HPS.out V (HBV.out V hV)
          exact ⟨hV, k1, l1, c0, c1, c2, c3, c4, Nat.lt_of_lt_of_le HI.out.so.lt hV.size⟩)
        have HD0 : Hid (Bx g1 wr wr.drew) := hide (Bx.refl _ _).drew
        obtain ⟨old, hold⟩ := HGS.out i i h
        have HOLD := hide hold
        clear hold
        obtain ⟨mo, xo, zo, fo⟩ := old
        go_region_held3 (fun V => Bx g1 wr V /\ V.cell? ⟨w.heap.size, 1, none⟩ = some (.slice (some ⟨gs, os, none⟩) N ca) /\ V.cell? ⟨gc, 1, none⟩ = some (.slice (some ⟨g1, 0, none⟩) N N) /\ V.cell? ⟨gs, os + i * 4, none⟩ = some (.int .i64 m1) /\ V.cell? ⟨gs, os + i * 4 + 1, none⟩ = some (.int .u64 (x1' : Int)) /\ V.cell? ⟨gs, os + i * 4 + 2, none⟩ = some (.int .u64 (z1 : Int)) /\ V.cell? ⟨gs, os + i * 4 + 3, none⟩ = some (.int .i64 f1) /\ gs < V.heap.size /\ g1 < V.heap.size)
          (first | exact HSV.out _ HD0.out | exact HSV.out _ (by assumption) | exact HSV.out _ (hx5.trans (Bx.set g1 w5 (i * 4) ⟨m3, x3', z3, f3⟩)))
          (first
            | (go_at_call 54; (with_reducible refine Calls.mono (HcA.out _ (HBV.out _ (‹Bx g1 wr _ /\ _›.1))) ?_); rintro e w5 ⟨rfl, q5⟩; have hx5 := Bx.then (‹Bx g1 wr _ /\ _›.1) q5; obtain ⟨c0, c1, c2, c3⟩ := PO.at (PO.below (w := wr.drew) HI.out.so q5) HOLD.out; have cf := PO.fz (PO.below (w := wr.drew) HI.out.so q5); have cl := PO.lt (PO.below (w := wr.drew) HI.out.so q5)))
        have HXS : Hid (Ga w (set4 w5 g1 (i * 4) ⟨m3, x3', z3, f3⟩) N (some ⟨gs, os, none⟩) (some ⟨gd, od, none⟩) ca cb gc g1 g2 N N (US (i + 1)) (UD i)) := hide (by
          have hpo : PO w5 g1 (US i) := PO.below (w := wr.drew) HI.out.so q5
          refine HI.out.bx1 HN.out (hx5.trans (Bx.set g1 w5 (i * 4) ⟨m3, x3', z3, f3⟩)) ?_
          rw [← hf1]
          exact hpo.set _)
        change Exit.then _ _ _ _ (set4 w5 g1 (i * 4) ⟨m3, x3', z3, f3⟩)
        clear c0 c1 c2 c3 cf cl hx5 q5 HSV HBV HD0 HOLD HI
        generalize (set4 w5 g1 (i * 4) ⟨m3, x3', z3, f3⟩) = WS at *
        go_wp2_with fail
        have HBV : Hid (∀ V, Bx g2 WS V -> Below w.heap.size w V) := hide (fun V hV => hV.below HXS.out.bw (by have := HN.out.n2; omega) (Nat.le_refl _))
        have HSV : Hid (∀ V, Bx g2 WS V -> (Bx g2 WS V /\ V.cell? ⟨w.heap.size, 2, none⟩ = some (.slice (some ⟨gd, od, none⟩) N cb) /\ V.cell? ⟨gc, 2, none⟩ = some (.slice (some ⟨g2, 0, none⟩) N N) /\ V.cell? ⟨gd, od + i * 4, none⟩ = some (.int .i64 m2) /\ V.cell? ⟨gd, od + i * 4 + 1, none⟩ = some (.int .u64 (x2' : Int)) /\ V.cell? ⟨gd, od + i * 4 + 2, none⟩ = some (.int .u64 (z2 : Int)) /\ V.cell? ⟨gd, od + i * 4 + 3, none⟩ = some (.int .i64 f2) /\ gd < V.heap.size /\ g2 < V.heap.size)) := hide (fun V hV => by
          obtain ⟨-, k1, k2, -⟩ := (HXS.out.tb.bx hV (by have := HN.out.n2; omega)).cells
          obtain ⟨-, l1, l2, -⟩ := (HXS.out.cc.bx hV HN.out.e23).cells
          obtain ⟨⟨c0, c1, c2, c3⟩, c4⟩ := HPD.out V (HBV.out V hV)
          exact ⟨hV, k2, l2, c0, c1, c2, c3, c4, Nat.lt_of_lt_of_le HXS.out.dd.lt hV.size⟩)
        have HD0 : Hid (Bx g2 WS WS.drew) := hide (Bx.refl _ _).drew
        obtain ⟨old, hold⟩ := HGD.out i i h
        have HOLD := hide hold
        clear hold
        obtain ⟨mo, xo, zo, fo⟩ := old
        go_region_held3 (fun V => Bx g2 WS V /\ V.cell? ⟨w.heap.size, 2, none⟩ = some (.slice (some ⟨gd, od, none⟩) N cb) /\ V.cell? ⟨gc, 2, none⟩ = some (.slice (some ⟨g2, 0, none⟩) N N) /\ V.cell? ⟨gd, od + i * 4, none⟩ = some (.int .i64 m2) /\ V.cell? ⟨gd, od + i * 4 + 1, none⟩ = some (.int .u64 (x2' : Int)) /\ V.cell? ⟨gd, od + i * 4 + 2, none⟩ = some (.int .u64 (z2 : Int)) /\ V.cell? ⟨gd, od + i * 4 + 3, none⟩ = some (.int .i64 f2) /\ gd < V.heap.size /\ g2 < V.heap.size)
          (first | exact HSV.out _ HD0.out | exact HSV.out _ (by assumption) | exact HSV.out _ (hx5.trans (Bx.set g2 w5 (i * 4) ⟨m4, x4, z4, f4⟩)))
          (first
            | (go_at_call 54; (with_reducible refine Calls.mono (HcB.out _ (HBV.out _ (‹Bx g2 WS _ /\ _›.1))) ?_); rintro e w5 ⟨rfl, q5⟩; have hx5 := Bx.then (‹Bx g2 WS _ /\ _›.1) q5; obtain ⟨c0, c1, c2, c3⟩ := PO.at (PO.below (w := WS.drew) HXS.out.dd q5) HOLD.out; have cf := PO.fz (PO.below (w := WS.drew) HXS.out.dd q5); have cl := PO.lt (PO.below (w := WS.drew) HXS.out.dd q5)))
        have HXD : Hid (Ga w (set4 w5 g2 (i * 4) ⟨m4, x4, z4, f4⟩) N (some ⟨gs, os, none⟩) (some ⟨gd, od, none⟩) ca cb gc g1 g2 N N (US (i + 1)) (UD (i + 1))) := hide (by
          have hpo : PO w5 g2 (UD i) := PO.below (w := WS.drew) HXS.out.dd q5
          refine HXS.out.bx2 HN.out (hx5.trans (Bx.set g2 w5 (i * 4) ⟨m4, x4, z4, f4⟩)) ?_
          rw [← hf2]
          exact hpo.set _)
        change Exit.inBlock _ _ _ _ (set4 w5 g2 (i * 4) ⟨m4, x4, z4, f4⟩)
        clear c0 c1 c2 c3 cf cl hx5 q5 HSV HBV HD0 HOLD HXS
        generalize (set4 w5 g2 (i * 4) ⟨m4, x4, z4, f4⟩) = WD at *
        go_wp2_with fail
        go_roundw
        case rel => exact ⟨i + 1, by go_num, by omega, HXD⟩
        case measure => simp [Go.RowKit.intOf]; omega
      . obtain rfl : N = i := by omega
        have hd : decide ((N : Int) < (N : Int)) = false := decide_eq_false (by omega)
        obtain ⟨y0, y1, y2, y3⟩ := HI.out.cc.cells
        have hR := HI.out.rs
        have hTH := HEND.out _ _ _ _ _ HI.out.so.pin HI.out.dd.pin (Nat.le_refl _) (Nat.le_refl _)
        have HY := hide (And.intro (hTH.row hR #[.int .i64 (N : Int), .slice (some ⟨g1, 0, none⟩) N N, .slice (some ⟨g2, 0, none⟩) N N]) HI.out.bw)
        unfold At3 at hR
        clear hTH HI HEND HCT HWD HF1 HF2 HRS' HRD' HGS HGD
        go_wp2_with (first
          | (refine wpList_store_row rfl _ _ _ rfl (w.heap.size + 1) _ rfl rfl _ _ hR (by exact infoT) (by rfl) (all3 _ _ _ _ _ _ _) ?_))
        refine bodyPost_ret (Pau.results_ct rfl _ _ (w.heap.size + 1) _ _ _ _ rfl (setRow_heap _ _ _ _ _ _ hR) Tryz.underlying29 rfl (by exact infoT)) rfl ?_
        exact ⟨some ⟨g1, 0, none⟩, some ⟨g2, 0, none⟩, N, N, rfl, HY.out.1, below_setRow HY.out.2 (by omega) _⟩
theorem tOrder_no (t : TT) (a b : Option Addr) (ca cb : Nat) (l : List Int) (hl : l.length <= 1000000000000000) (ao : Option Addr) (c : Nat) (hno : ¬ (chB t = true /\ (l.length : Int) = t.n /\ ulB t.n l = true)) (w : World) (h : Th w t a b ca cb) (hN : Ns w ao l) :
    Calls Tryz.prog 26 #[tV t a b ca cb, .slice ao l.length c] w fun e w' => ∃ a' b' ca' cb', e = .returned (.tuple #[tV (orR t l).1 a' b' ca' cb', .int .i64 (orR t l).2]) /\ Th w' (orR t l).1 a' b' ca' cb' /\ Below w.heap.size w w' := by
  have HC1 := hide (fun W (hb : Below w.heap.size w W) => tCheck t a b ca cb W (h.below hb))
  obtain ⟨hA, hZ⟩ := two3 w (.int .i64 t.n) (.slice a t.s.length ca) (.slice b t.d.length cb) (.int .i64 0) (.slice none 0 0) (.slice none 0 0)
  have HA := hide hA
  have HZ := hide hZ
  have HB0 := hide (bkp (bnew w (.cells #[.int .i64 t.n, .slice a t.s.length ca, .slice b t.d.length cb] 29)) (bnew _ (.cells #[.int .i64 0, .slice none 0 0, .slice none 0 0] 29)))
  clear hA hZ h
  have HZT := hide th_zero
  unfold zrT at HZT
  unfold tV at HC1 ⊢
  unfold orR
  by_cases hc : chB t = true
  . rw [if_pos hc]
    unfold chI at HC1
    rw [if_pos hc] at HC1
    have hn2 : ¬ ((l.length : Int) = t.n /\ ulB t.n l = true) := fun e => hno ⟨hc, e⟩
    rw [if_neg hn2]
    by_cases hlt : (l.length : Int) = t.n
    . have hu : ulB t.n l = false := by cases e : ulB t.n l; rfl; exact absurd ⟨hlt, e⟩ hn2
      have hne : ((l.length : Int) != t.n) = false := by rw [hlt]; simp
      obtain ⟨h0, h64, -, -⟩ := sz_of (ch_size hc)
      obtain ⟨N, hNn⟩ : ∃ N : Nat, t.n = (N : Int) := ⟨t.n.toNat, by omega⟩
      have HC2 := hide (fun W (hb : Below w.heap.size w W) => tUnlike l hl N (by omega) ao c W (hN.below hb))
      rw [← hNn, hu] at HC2
      clear hno hc hn2 hlt hu hl hN h0 h64 hNn
      unfold zrT
      simp only [List.length_nil] at HZT ⊢
      generalize t.s.length = ns at *
      generalize t.d.length = nd at *
      generalize t.n = n at *
      generalize l.length = nl at *
      go_enter Tryz.func26, Tryz.ntmps26
      go_wp2_with fail
      refine (HC1.out _ HB0.out).mono ?_
      rintro e w1 ⟨rfl, hb1⟩
      have HB1 := hide (bkp HB0.out hb1)
      have HA1 := hide (HA.out.below hb1)
      have HZ1 := hide (HZ.out.below hb1)
      clear hb1 HA HZ HB0 HC1
      obtain ⟨x0, x1, x2, x3⟩ := HA1.out.cells
      go_wp2_with fail
      refine (HC2.out _ HB1.out).mono ?_
      rintro e w2 ⟨rfl, hb2⟩
      have HB2 := hide (bkp HB1.out hb2)
      have hR := HZ1.out.below hb2
      clear hb2 HA1 HZ1 HB1 HC2 x0 x1 x2 x3
      unfold At3 at hR
      go_wp2_with (first
        | (refine wpList_store_row rfl _ _ _ rfl (w.heap.size + 1) _ rfl rfl _ _ hR (by exact infoT) (by rfl) (all3 _ _ _ _ _ _ _) ?_))
      refine bodyPost_ret (Pau.results_ct rfl _ _ (w.heap.size + 1) _ _ _ _ rfl (setRow_heap _ _ _ _ _ _ hR) Tryz.underlying29 rfl (by exact infoT)) rfl ?_
      exact ⟨none, none, 0, 0, rfl, HZT.out _, below_setRow HB2.out (by omega) _⟩
    . have hne : ((l.length : Int) != t.n) = true := bne_iff_ne.2 hlt
      clear hno hc hn2 hlt hl hN
      unfold zrT
      simp only [List.length_nil] at HZT ⊢
      generalize t.s.length = ns at *
      generalize t.d.length = nd at *
      generalize t.n = n at *
      generalize l.length = nl at *
      go_enter Tryz.func26, Tryz.ntmps26
      go_wp2_with fail
      refine (HC1.out _ HB0.out).mono ?_
      rintro e w1 ⟨rfl, hb1⟩
      have HB1 := hide (bkp HB0.out hb1)
      have HA1 := hide (HA.out.below hb1)
      have HZ1 := hide (HZ.out.below hb1)
      clear hb1 HA HZ HB0 HC1
      obtain ⟨x0, x1, x2, x3⟩ := HA1.out.cells
      have hR := HZ1.out
      clear HA1 HZ1
      unfold At3 at hR
      go_wp2_with (first
        | (refine wpList_store_row rfl _ _ _ rfl (w.heap.size + 1) _ rfl rfl _ _ hR (by exact infoT) (by rfl) (all3 _ _ _ _ _ _ _) ?_))
      refine bodyPost_ret (Pau.results_ct rfl _ _ (w.heap.size + 1) _ _ _ _ rfl (setRow_heap _ _ _ _ _ _ hR) Tryz.underlying29 rfl (by exact infoT)) rfl ?_
      exact ⟨none, none, 0, 0, rfl, HZT.out _, below_setRow HB1.out (by omega) _⟩
  . rw [if_neg hc]
    unfold chI at HC1
    rw [if_neg hc] at HC1
    clear hno hc hl hN
    unfold zrT
    simp only [List.length_nil] at HZT ⊢
    generalize t.s.length = ns at *
    generalize t.d.length = nd at *
    generalize t.n = n at *
    generalize l.length = nl at *
    go_enter Tryz.func26, Tryz.ntmps26
    go_wp2_with fail
    refine (HC1.out _ HB0.out).mono ?_
    rintro e w1 ⟨rfl, hb1⟩
    have HB1 := hide (bkp HB0.out hb1)
    have HA1 := hide (HA.out.below hb1)
    have HZ1 := hide (HZ.out.below hb1)
    clear hb1 HA HZ HB0 HC1
    have hR := HZ1.out
    clear HA1 HZ1
    unfold At3 at hR
    go_wp2_with (first
      | (refine wpList_store_row rfl _ _ _ rfl (w.heap.size + 1) _ rfl rfl _ _ hR (by exact infoT) (by rfl) (all3 _ _ _ _ _ _ _) ?_))
    refine bodyPost_ret (Pau.results_ct rfl _ _ (w.heap.size + 1) _ _ _ _ rfl (setRow_heap _ _ _ _ _ _ hR) Tryz.underlying29 rfl (by exact infoT)) rfl ?_
    exact ⟨none, none, 0, 0, rfl, HZT.out _, below_setRow HB1.out (by omega) _⟩
theorem tOrder (t : TT) (a b : Option Addr) (ca cb : Nat) (l : List Int) (hl : l.length <= 1000000000000000) (ao : Option Addr) (c : Nat) (w : World) (h : Th w t a b ca cb) (hN : Ns w ao l) :
    Calls Tryz.prog 26 #[tV t a b ca cb, .slice ao l.length c] w fun e w' => ∃ a' b' ca' cb', e = .returned (.tuple #[tV (orR t l).1 a' b' ca' cb', .int .i64 (orR t l).2]) /\ Th w' (orR t l).1 a' b' ca' cb' /\ Below w.heap.size w w' := by
  by_cases hh : chB t = true /\ (l.length : Int) = t.n /\ ulB t.n l = true
  . have e : orR t l = (odT t l, 0) := by unfold orR; rw [if_pos hh.1, if_pos hh.2]
    rw [e]
    exact tOrder_ok t a b ca cb l hl ao c hh.1 hh.2.1 hh.2.2 w h hN
  . exact tOrder_no t a b ca cb l hl ao c hh w h hN
theorem dOrder_no (t : TT) (a b : Option Addr) (ca cb : Nat) (l : List Int) (hl : l.length <= 1000000000000000) (ao : Option Addr) (c : Nat) (hno : ¬ (chB t = true /\ (l.length : Int) = t.n /\ ulB t.n l = true)) (w : World) (h : Th w t a b ca cb) (hN : Ns w ao l) :
    Calls Tryz.prog 27 #[tV t a b ca cb, .slice ao l.length c] w fun e w' => ∃ a' b' ca' cb', e = .returned (.tuple #[tV (orR t l).1 a' b' ca' cb', .int .i64 (orR t l).2]) /\ Th w' (orR t l).1 a' b' ca' cb' /\ Below w.heap.size w w' := by
  have HC1 := hide (fun W (hb : Below w.heap.size w W) => dRightT t a b ca cb W (h.below hb))
  have HC2 := hide (fun W (hb : Below w.heap.size w W) => dApart l hl t.n ao c W (hN.below hb))
  obtain ⟨hA, hZ⟩ := two3 w (.int .i64 t.n) (.slice a t.s.length ca) (.slice b t.d.length cb) (.int .i64 0) (.slice none 0 0) (.slice none 0 0)
  have HA := hide hA
  have HZ := hide hZ
  have HB0 := hide (bkp (bnew w (.cells #[.int .i64 t.n, .slice a t.s.length ca, .slice b t.d.length cb] 29)) (bnew _ (.cells #[.int .i64 0, .slice none 0 0, .slice none 0 0] 29)))
  clear hA hZ h hN
  have HZT := hide th_zero
  unfold zrT at HZT
  unfold tV at HC1 ⊢
  unfold orR
  by_cases hc : chB t = true
  . rw [if_pos hc]
    rw [hc] at HC1
    have hn2 : ¬ ((l.length : Int) = t.n /\ ulB t.n l = true) := fun e => hno ⟨hc, e⟩
    rw [if_neg hn2]
    by_cases hlt : (l.length : Int) = t.n
    . have hu : ulB t.n l = false := by cases e : ulB t.n l; rfl; exact absurd ⟨hlt, e⟩ hn2
      have hne : ((l.length : Int) != t.n) = false := by rw [hlt]; simp
      rw [hu] at HC2
      clear hno hc hn2 hlt hu hl
      unfold zrT
      simp only [List.length_nil] at HZT ⊢
      generalize t.s.length = ns at *
      generalize t.d.length = nd at *
      generalize t.n = n at *
      generalize l.length = nl at *
      go_enter Tryz.func27, Tryz.ntmps27
      go_wp2_with fail
      refine (HC1.out _ HB0.out).mono ?_
      rintro e w1 ⟨rfl, hb1⟩
      have HB1 := hide (bkp HB0.out hb1)
      have HA1 := hide (HA.out.below hb1)
      have HZ1 := hide (HZ.out.below hb1)
      clear hb1 HA HZ HB0 HC1
      obtain ⟨x0, x1, x2, x3⟩ := HA1.out.cells
      go_wp2_with fail
      refine (HC2.out _ HB1.out).mono ?_
      rintro e w2 ⟨rfl, hb2⟩
      have HB2 := hide (bkp HB1.out hb2)
      have hR := HZ1.out.below hb2
      clear hb2 HA1 HZ1 HB1 HC2 x0 x1 x2 x3
      unfold At3 at hR
      go_wp2_with (first
        | (refine wpList_store_row rfl _ _ _ rfl (w.heap.size + 1) _ rfl rfl _ _ hR (by exact infoT) (by rfl) (all3 _ _ _ _ _ _ _) ?_))
      refine bodyPost_ret (Pau.results_ct rfl _ _ (w.heap.size + 1) _ _ _ _ rfl (setRow_heap _ _ _ _ _ _ hR) Tryz.underlying29 rfl (by exact infoT)) rfl ?_
      exact ⟨none, none, 0, 0, rfl, HZT.out _, below_setRow HB2.out (by omega) _⟩
    . have hne : ((l.length : Int) != t.n) = true := bne_iff_ne.2 hlt
      clear hno hc hn2 hlt hl HC2
      unfold zrT
      simp only [List.length_nil] at HZT ⊢
      generalize t.s.length = ns at *
      generalize t.d.length = nd at *
      generalize t.n = n at *
      generalize l.length = nl at *
      go_enter Tryz.func27, Tryz.ntmps27
      go_wp2_with fail
      refine (HC1.out _ HB0.out).mono ?_
      rintro e w1 ⟨rfl, hb1⟩
      have HB1 := hide (bkp HB0.out hb1)
      have HA1 := hide (HA.out.below hb1)
      have HZ1 := hide (HZ.out.below hb1)
      clear hb1 HA HZ HB0 HC1
      obtain ⟨x0, x1, x2, x3⟩ := HA1.out.cells
      have hR := HZ1.out
      clear HA1 HZ1
      unfold At3 at hR
      go_wp2_with (first
        | (refine wpList_store_row rfl _ _ _ rfl (w.heap.size + 1) _ rfl rfl _ _ hR (by exact infoT) (by rfl) (all3 _ _ _ _ _ _ _) ?_))
      refine bodyPost_ret (Pau.results_ct rfl _ _ (w.heap.size + 1) _ _ _ _ rfl (setRow_heap _ _ _ _ _ _ hR) Tryz.underlying29 rfl (by exact infoT)) rfl ?_
      exact ⟨none, none, 0, 0, rfl, HZT.out _, below_setRow HB1.out (by omega) _⟩
  . rw [if_neg hc]
    rw [Bool.eq_false_iff.2 hc] at HC1
    clear hno hc hl HC2
    unfold zrT
    simp only [List.length_nil] at HZT ⊢
    generalize t.s.length = ns at *
    generalize t.d.length = nd at *
    generalize t.n = n at *
    generalize l.length = nl at *
    go_enter Tryz.func27, Tryz.ntmps27
    go_wp2_with fail
    refine (HC1.out _ HB0.out).mono ?_
    rintro e w1 ⟨rfl, hb1⟩
    have HB1 := hide (bkp HB0.out hb1)
    have HA1 := hide (HA.out.below hb1)
    have HZ1 := hide (HZ.out.below hb1)
    clear hb1 HA HZ HB0 HC1
    have hR := HZ1.out
    clear HA1 HZ1
    unfold At3 at hR
    go_wp2_with (first
      | (refine wpList_store_row rfl _ _ _ rfl (w.heap.size + 1) _ rfl rfl _ _ hR (by exact infoT) (by rfl) (all3 _ _ _ _ _ _ _) ?_))
    refine bodyPost_ret (Pau.results_ct rfl _ _ (w.heap.size + 1) _ _ _ _ rfl (setRow_heap _ _ _ _ _ _ hR) Tryz.underlying29 rfl (by exact infoT)) rfl ?_
    exact ⟨none, none, 0, 0, rfl, HZT.out _, below_setRow HB1.out (by omega) _⟩
theorem dOrder (t : TT) (a b : Option Addr) (ca cb : Nat) (l : List Int) (hl : l.length <= 1000000000000000) (ao : Option Addr) (c : Nat) (w : World) (h : Th w t a b ca cb) (hN : Ns w ao l) :
    Calls Tryz.prog 27 #[tV t a b ca cb, .slice ao l.length c] w fun e w' => ∃ a' b' ca' cb', e = .returned (.tuple #[tV (orR t l).1 a' b' ca' cb', .int .i64 (orR t l).2]) /\ Th w' (orR t l).1 a' b' ca' cb' /\ Below w.heap.size w w' := by
  by_cases hh : chB t = true /\ (l.length : Int) = t.n /\ ulB t.n l = true
  . have e : orR t l = (odT t l, 0) := by unfold orR; rw [if_pos hh.1, if_pos hh.2]
    rw [e]
    exact dOrder_ok t a b ca cb l hl ao c hh.1 hh.2.1 hh.2.2 w h hN
  . exact dOrder_no t a b ca cb l hl ao c hh w h hN
end Go.Proofs.YtpehekonjdneaaaGreatDoor.Tbl
