import Derived.Test.YtpehekonjdneaaaGreatDoorK86fc4055
set_option maxRecDepth 100000
set_option maxHeartbeats 8000000
namespace Go.Proofs.YtpehekonjdneaaaGreatDoor.Tbl
open Go.RowKit Go.Shelf Go.Proofs.YtpehekonjdneaaaGreatDoor.Pau Go.Proofs.YtpehekonjdneaaaGreatDoor.Gt
theorem dKron_no (t u : TT) (a b a2 b2 : Option Addr) (ca cb ca2 cb2 : Nat) (hno : ¬ (chB t = true /\ chB u = true /\ t.n + u.n <= 64)) (w : World) (h : Th w t a b ca cb) (h2 : Th w u a2 b2 ca2 cb2) :
    Calls Tryz.prog 14 #[tV t a b ca cb, tV u a2 b2 ca2 cb2] w fun e w' => ∃ a' b' ca' cb', e = .returned (.tuple #[tV (krR t u).1 a' b' ca' cb', .int .i64 (krR t u).2]) /\ Th w' (krR t u).1 a' b' ca' cb' /\ Below w.heap.size w w' := by
  have HC1 := hide (fun W (hb : Below w.heap.size w W) => dRightT t a b ca cb W (h.below hb))
  have HC2 := hide (fun W (hb : Below w.heap.size w W) => dRightT u a2 b2 ca2 cb2 W (h2.below hb))
  obtain ⟨hA, hU, hZ⟩ := three3 w (.int .i64 t.n) (.slice a t.s.length ca) (.slice b t.d.length cb) (.int .i64 u.n) (.slice a2 u.s.length ca2) (.slice b2 u.d.length cb2) (.int .i64 0) (.slice none 0 0) (.slice none 0 0)
  have HB0 := hide (bkp3 w (.cells #[.int .i64 t.n, .slice a t.s.length ca, .slice b t.d.length cb] 29) (.cells #[.int .i64 u.n, .slice a2 u.s.length ca2, .slice b2 u.d.length cb2] 29) (.cells #[.int .i64 0, .slice none 0 0, .slice none 0 0] 29))
  have HA := hide hA
  have HU := hide hU
  have HZ := hide hZ
  clear hA hU hZ h h2
  have HZT := hide th_zero
  unfold zrT at HZT
  unfold tV at HC1 HC2 ⊢
  unfold krR
  by_cases hc : chB t = true
  . by_cases hc2 : chB u = true
    . have hgt : ¬ t.n + u.n <= 64 := fun e => hno ⟨hc, hc2, e⟩
      rw [if_pos ⟨hc, hc2⟩, if_neg hgt]
      rw [hc] at HC1
      rw [hc2] at HC2
      obtain ⟨h0, h64, -, -⟩ := sz_of (ch_size hc)
      obtain ⟨k0, k64, -, -⟩ := sz_of (ch_size hc2)
      have hw : wrap64 (t.n + u.n) = t.n + u.n := by unfold wrap64; omega
      have hd : decide (64 < t.n + u.n) = true := decide_eq_true (by omega)
      clear hno hc hc2 hgt h0 h64 k0 k64
      unfold zrT
      simp only [List.length_nil] at HZT ⊢
      generalize t.s.length = ns at *
      generalize t.d.length = nd at *
      generalize u.s.length = us at *
      generalize u.d.length = ud at *
      generalize t.n = n at *
      generalize u.n = m at *
      go_enter Tryz.func14, Tryz.ntmps14
      go_wp2_with fail
      refine (HC1.out _ HB0.out).mono ?_
      rintro e w1 ⟨rfl, hb1⟩
      have HB1 := hide (bkp HB0.out hb1)
      have HA1 := hide (HA.out.below hb1)
      have HU1 := hide (HU.out.below hb1)
      have HZ1 := hide (HZ.out.below hb1)
      clear hb1 HA HU HZ HB0 HC1
      obtain ⟨y0, y1, y2, y3⟩ := HU1.out.cells
      go_wp2_with fail
      refine (HC2.out _ HB1.out).mono ?_
      rintro e w2 ⟨rfl, hb2⟩
      have HB2 := hide (bkp HB1.out hb2)
      obtain ⟨x0, x1, x2, x3⟩ := (HA1.out.below hb2).cells
      obtain ⟨v0, v1, v2, v3⟩ := (HU1.out.below hb2).cells
      have hR := HZ1.out.below hb2
      clear hb2 HA1 HZ1 HU1 HB1 HC2 y0 y1 y2 y3
      unfold At3 at hR
      go_wp2_with (first
        | (refine wpList_store_row rfl _ _ _ rfl (w.heap.size + 1 + 1) _ rfl rfl _ _ hR (by exact infoT) (by rfl) (all3 _ _ _ _ _ _ _) ?_))
      refine bodyPost_ret (Pau.results_ct rfl _ _ (w.heap.size + 1 + 1) _ _ _ _ rfl (setRow_heap _ _ _ _ _ _ hR) Tryz.underlying29 rfl (by exact infoT)) rfl ?_
      exact ⟨none, none, 0, 0, rfl, HZT.out _, below_setRow HB2.out (by omega) _⟩
    . rw [if_neg (fun e => hc2 e.2)]
      rw [hc] at HC1
      rw [Bool.eq_false_iff.2 hc2] at HC2
      clear hno hc hc2
      unfold zrT
      simp only [List.length_nil] at HZT ⊢
      generalize t.s.length = ns at *
      generalize t.d.length = nd at *
      generalize u.s.length = us at *
      generalize u.d.length = ud at *
      generalize t.n = n at *
      generalize u.n = m at *
      go_enter Tryz.func14, Tryz.ntmps14
      go_wp2_with fail
      refine (HC1.out _ HB0.out).mono ?_
      rintro e w1 ⟨rfl, hb1⟩
      have HB1 := hide (bkp HB0.out hb1)
      have HU1 := hide (HU.out.below hb1)
      have HZ1 := hide (HZ.out.below hb1)
      clear hb1 HA HU HZ HB0 HC1
      obtain ⟨y0, y1, y2, y3⟩ := HU1.out.cells
      go_wp2_with fail
      refine (HC2.out _ HB1.out).mono ?_
      rintro e w2 ⟨rfl, hb2⟩
      have HB2 := hide (bkp HB1.out hb2)
      have hR := HZ1.out.below hb2
      clear hb2 HZ1 HU1 HB1 HC2 y0 y1 y2 y3
      unfold At3 at hR
      go_wp2_with (first
        | (refine wpList_store_row rfl _ _ _ rfl (w.heap.size + 1 + 1) _ rfl rfl _ _ hR (by exact infoT) (by rfl) (all3 _ _ _ _ _ _ _) ?_))
      refine bodyPost_ret (Pau.results_ct rfl _ _ (w.heap.size + 1 + 1) _ _ _ _ rfl (setRow_heap _ _ _ _ _ _ hR) Tryz.underlying29 rfl (by exact infoT)) rfl ?_
      exact ⟨none, none, 0, 0, rfl, HZT.out _, below_setRow HB2.out (by omega) _⟩
  . rw [if_neg (fun e => hc e.1)]
    rw [Bool.eq_false_iff.2 hc] at HC1
    clear hno hc HC2 HU HA
    unfold zrT
    simp only [List.length_nil] at HZT ⊢
    generalize t.s.length = ns at *
    generalize t.d.length = nd at *
    generalize u.s.length = us at *
    generalize u.d.length = ud at *
    generalize t.n = n at *
    generalize u.n = m at *
    go_enter Tryz.func14, Tryz.ntmps14
    go_wp2_with fail
    refine (HC1.out _ HB0.out).mono ?_
    rintro e w1 ⟨rfl, hb1⟩
    have HB1 := hide (bkp HB0.out hb1)
    have hR := HZ.out.below hb1
    clear hb1 HZ HB0 HC1
    unfold At3 at hR
    go_wp2_with (first
      | (refine wpList_store_row rfl _ _ _ rfl (w.heap.size + 1 + 1) _ rfl rfl _ _ hR (by exact infoT) (by rfl) (all3 _ _ _ _ _ _ _) ?_))
    refine bodyPost_ret (Pau.results_ct rfl _ _ (w.heap.size + 1 + 1) _ _ _ _ rfl (setRow_heap _ _ _ _ _ _ hR) Tryz.underlying29 rfl (by exact infoT)) rfl ?_
    exact ⟨none, none, 0, 0, rfl, HZT.out _, below_setRow HB1.out (by omega) _⟩
theorem dKron_ok (t u : TT) (a b a2 b2 : Option Addr) (ca cb ca2 cb2 : Nat) (hc : chB t = true) (hc2 : chB u = true) (hle : t.n + u.n <= 64) (w : World) (h : Th w t a b ca cb) (h2 : Th w u a2 b2 ca2 cb2) :
    Calls Tryz.prog 14 #[tV t a b ca cb, tV u a2 b2 ca2 cb2] w fun e w' => ∃ a' b' ca' cb', e = .returned (.tuple #[tV ⟨t.n + u.n, krL (t.n + u.n) t.s u.s, krL (t.n + u.n) t.d u.d⟩ a' b' ca' cb', .int .i64 0]) /\ Th w' ⟨t.n + u.n, krL (t.n + u.n) t.s u.s, krL (t.n + u.n) t.d u.d⟩ a' b' ca' cb' /\ Below w.heap.size w w' := by
  obtain ⟨h0, h64, hls, hld⟩ := sz_of (ch_size hc)
  obtain ⟨k0, k64, kls, kld⟩ := sz_of (ch_size hc2)
  obtain ⟨N, hNn⟩ : ∃ N : Nat, t.n = (N : Int) := ⟨t.n.toNat, by omega⟩
  obtain ⟨M, hMn⟩ : ∃ N : Nat, u.n = (N : Int) := ⟨u.n.toNat, by omega⟩
  rw [hNn, Int.toNat_natCast] at hls hld
  rw [hMn, Int.toNat_natCast] at kls kld
  obtain ⟨K, hK⟩ : ∃ K, N + M = K := ⟨_, rfl⟩
  have hKK : t.n + u.n = (K : Int) := by omega
  have hK64 : K <= 64 := by omega
  have HK64 := hide hK64
  have HC1 := hide (fun W (hb : Below w.heap.size w W) => dRightT t a b ca cb W (h.below hb))
  have HC2 := hide (fun W (hb : Below w.heap.size w W) => dRightT u a2 b2 ca2 cb2 W (h2.below hb))
  rw [hc] at HC1
  rw [hc2] at HC2
  have HLO1 : Hid (∀ i, i < M -> (krL (K : Int) t.s u.s).take i ++ [krP (K : Int) 0 (u.s.getD i oP)] = (krL (K : Int) t.s u.s).take (i + 1)) := hide (fun i hi => by exact krL_low (K : Int) t.s u.s i (by omega))
  have HLO2 : Hid (∀ i, i < M -> (krL (K : Int) t.d u.d).take i ++ [krP (K : Int) 0 (u.d.getD i oP)] = (krL (K : Int) t.d u.d).take (i + 1)) := hide (fun i hi => by exact krL_low (K : Int) t.d u.d i (by omega))
  have HHI1 : Hid (∀ i, i < N -> (krL (K : Int) t.s u.s).take (M + i) ++ [krP (K : Int) M (t.s.getD i oP)] = (krL (K : Int) t.s u.s).take (M + (i + 1))) := hide (fun i hi => by have := krL_high (K : Int) t.s u.s i (by omega); rw [kls] at this; exact this)
  have HHI2 : Hid (∀ i, i < N -> (krL (K : Int) t.d u.d).take (M + i) ++ [krP (K : Int) M (t.d.getD i oP)] = (krL (K : Int) t.d u.d).take (M + (i + 1))) := hide (fun i hi => by have := krL_high (K : Int) t.d u.d i (by omega); rw [kld] at this; exact this)
  have HL1 : Hid ((krL (K : Int) t.s u.s).length = K) := hide (by rw [kr_len]; omega)
  have HL2 : Hid ((krL (K : Int) t.d u.d).length = K) := hide (by rw [kr_len]; omega)
  have HW1 := hide (kr_wl (K : Int) t.s u.s)
  have HW2 := hide (kr_wl (K : Int) t.d u.d)
  rw [hKK]
  obtain ⟨hA, hU, hZ⟩ := three3 w (.int .i64 t.n) (.slice a t.s.length ca) (.slice b t.d.length cb) (.int .i64 u.n) (.slice a2 u.s.length ca2) (.slice b2 u.d.length cb2) (.int .i64 0) (.slice none 0 0) (.slice none 0 0)
  have HB0 := hide (bkp3 w (.cells #[.int .i64 t.n, .slice a t.s.length ca, .slice b t.d.length cb] 29) (.cells #[.int .i64 u.n, .slice a2 u.s.length ca2, .slice b2 u.d.length cb2] 29) (.cells #[.int .i64 0, .slice none 0 0, .slice none 0 0] 29))
  have hwr : wrap64 ((N : Int) + (M : Int)) = (K : Int) := by unfold wrap64; omega
  have hd64 : decide (64 < (K : Int)) = false := decide_eq_false (by omega)
  have hd65 : decide (64 < K) = false := decide_eq_false (by omega)
  have HPT : Hid (∀ i, i < N -> ∃ g o g' o', a = some ⟨g, o, none⟩ /\ b = some ⟨g', o', none⟩ /\ ∀ V, Below w.heap.size w V -> (Pc V g (o + i * 4) (t.s.getD i oP) /\ g < V.heap.size) /\ Pc V g' (o' + i * 4) (t.d.getD i oP) /\ g' < V.heap.size) := hide (fun i hi' => by
    obtain ⟨g, o, e, hh⟩ := h.s.get (by omega)
    obtain ⟨g', o', e', hh'⟩ := h.d.get (by omega)
    exact ⟨g, o, g', o', e, e', fun V hb => ⟨⟨(hh i _ (get_of (by omega))).below hb, ((hh i _ (get_of (by omega))).below hb).lt⟩, (hh' i _ (get_of (by omega))).below hb, ((hh' i _ (get_of (by omega))).below hb).lt⟩⟩)
  have HPU : Hid (∀ i, i < M -> ∃ g o g' o', a2 = some ⟨g, o, none⟩ /\ b2 = some ⟨g', o', none⟩ /\ ∀ V, Below w.heap.size w V -> (Pc V g (o + i * 4) (u.s.getD i oP) /\ g < V.heap.size) /\ Pc V g' (o' + i * 4) (u.d.getD i oP) /\ g' < V.heap.size) := hide (fun i hi' => by
    obtain ⟨g, o, e, hh⟩ := h2.s.get (by omega)
    obtain ⟨g', o', e', hh'⟩ := h2.d.get (by omega)
    exact ⟨g, o, g', o', e, e', fun V hb => ⟨⟨(hh i _ (get_of (by omega))).below hb, ((hh i _ (get_of (by omega))).below hb).lt⟩, (hh' i _ (get_of (by omega))).below hb, ((hh' i _ (get_of (by omega))).below hb).lt⟩⟩)
  have HWU : Hid (∀ i, i < M -> Wd (u.s.getD i oP) /\ Wd (u.d.getD i oP)) := hide (fun i hi' => ⟨h2.ws.getD (by omega), h2.wd.getD (by omega)⟩)
  unfold tV at HC1 HC2 ⊢
  simp only [HL1.out, HL2.out]
  generalize krL (K : Int) t.s u.s = L1 at *
  generalize krL (K : Int) t.d u.d = L2 at *
  have HTL1 : Hid (∀ i, i <= K -> (L1.take i).length = i) := hide (fun i hi => by rw [List.length_take, HL1.out]; omega)
  have HTL2 : Hid (∀ i, i <= K -> (L2.take i).length = i) := hide (fun i hi => by rw [List.length_take, HL2.out]; omega)
  rw [hls, hld, hNn] at HC1 hA HB0 ⊢
  rw [kls, kld, hMn] at HC2 hA HB0 ⊢
  rw [hls, hld, hNn, kls, kld, hMn] at hU
  rw [hls, hld, hNn, kls, kld, hMn] at hZ
  have HA := hide hA
  have HU := hide hU
  have HZ := hide hZ
  have HN64 : Hid (N <= 64 /\ M <= 64) := hide ⟨by omega, by omega⟩
  have HNK := hide hK
  clear hA hU hZ h h2 hc hc2 hle h0 h64 hls hld k0 k64 kls kld hNn hMn hKK hK hK64
  obtain ⟨i0, hi, hz0, hz1, hz2⟩ := info_parts infoP3
  go_enter Tryz.func14, Tryz.ntmps14
  go_wp2_with fail
  refine (HC1.out _ HB0.out).mono ?_
  rintro e w1 ⟨rfl, hb1⟩
  have HB1 := hide (bkp HB0.out hb1)
  have HA1 := hide (HA.out.below hb1)
  have HU1 := hide (HU.out.below hb1)
  have HZ1 := hide (HZ.out.below hb1)
  clear hb1 HA HU HZ HB0 HC1
  obtain ⟨y0, y1, y2, y3⟩ := HU1.out.cells
  go_wp2_with fail
  refine (HC2.out _ HB1.out).mono ?_
  rintro e V0 ⟨rfl, hb2⟩
  have HB2 := hide (bkp HB1.out hb2)
  have HA2 := hide (HA1.out.below hb2)
  have HU2 := hide (HU1.out.below hb2)
  have HZ2 := hide (HZ1.out.below hb2)
  clear hb2 HA1 HZ1 HU1 HB1 HC2 y0 y1 y2 y3
  obtain ⟨x0, x1, x2, x3⟩ := HA2.out.cells
  obtain ⟨v0, v1, v2, v3⟩ := HU2.out.cells
  have hsz0 : w.heap.size + 1 + 1 < V0.heap.size := HZ2.out.lt
  go_wp2_with fail
  have HKW : Hid (∃ x y cx cy, Kw V0 (V0.alloc (.cells #[.int .i64 (K : Int), .slice none 0 0, .slice none 0 0] 29)) K x y cx cy (L1.take 0) (L2.take 0) []) := hide ⟨none, none, 0, 0, At3.new _ _ _ _, Gr.nil _ _, Gr.nil _ _, (fun g h => by cases h), bnew _ _, (fun q hq => by cases hq)⟩
  generalize V0.alloc (.cells #[.int .i64 (K : Int), .slice none 0 0, .slice none 0 0] 29) = W0 at *
  clear x0 x1 x2 x3 v0 v1 v2 v3
  have HAV : Hid (∀ V, Below V0.heap.size V0 V -> At3 V w.heap.size (.int .i64 (N : Int)) (.slice a N ca) (.slice b N cb)) := hide (fun V hV => HA2.out.below hV)
  have HUV : Hid (∀ V, Below V0.heap.size V0 V -> At3 V (w.heap.size + 1) (.int .i64 (M : Int)) (.slice a2 M ca2) (.slice b2 M cb2)) := hide (fun V hV => HU2.out.below hV)
  have HZV : Hid (∀ V, Below V0.heap.size V0 V -> At3 V (w.heap.size + 1 + 1) (.int .i64 0) (.slice none 0 0) (.slice none 0 0)) := hide (fun V hV => HZ2.out.below hV)
  have HBV : Hid (∀ V, Below V0.heap.size V0 V -> Below w.heap.size w V) := hide (fun V hV => bkp HB2.out hV)
  clear HA2 HU2 HZ2 HB2
  have HPOS : Hid (∃ pos : Nat -> Nat, pos 0 = 0 /\ pos 1 = M /\ pos 2 = K) := hide ⟨fun k => if k = 0 then 0 else if k = 1 then M else K, rfl, rfl, rfl⟩
  obtain ⟨pos, hp0, hp1, hp2⟩ := HPOS.out
  have HP0 := hide hp0
  have HP1 := hide hp1
  have HP2 := hide hp2
  have HKW0 : Hid (∃ x y cx cy, Kw V0 W0 K x y cx cy (L1.take (pos 0)) (L2.take (pos 0)) []) := hide (by rw [HP0.out]; exact HKW.out)
  simp only [hwr]
  clear hp0 hp1 hp2 HPOS HKW hwr hd64 hd65
  obtain ⟨hn64, hm64⟩ := HN64.out
  go_loopw [8] (fun vk wr => ∃ k : Nat, vk = .int .i64 (k : Int) /\ k <= 2 /\ Hid (∃ x y cx cy, Kw V0 wr K x y cx cy (L1.take (pos k)) (L2.take (pos k)) [])) (fun vk _ => 2 - (Go.RowKit.intOf vk).toNat)
  case atStart => exact ⟨0, rfl, by omega, HKW0⟩
  case round =>
    obtain ⟨k, rfl, hk, HI⟩ := hrel
    clear HKW0
    by_cases hk0 : k = 0
    . have hdk : decide ((k : Int) < 2) = true := decide_eq_true (by omega)
      have hdl : decide (k < 2) = true := decide_eq_true (by omega)
      have hd1 : ((k : Int) == 1) = false := beq_false_of_ne (by omega)
      have HKK : Hid (k = 0) := hide hk0
      clear hk0 
      obtain ⟨x, y, cx, cy, hkw⟩ := HI.out
      have HKW := hide hkw
      clear hkw HI
      obtain ⟨y0, y1, y2, y3⟩ := (HUV.out _ HKW.out.bw).cells
      obtain ⟨x0, x1, x2, x3⟩ := (HAV.out _ HKW.out.bw).cells
      go_upto_region 13 with fail
      have HKC : Hid (Kw V0 (wr.alloc (.cells #[.int .i64 (M : Int), .slice a2 M ca2, .slice b2 M cb2] 29)) K x y cx cy (L1.take 0) (L2.take 0) [(wr.heap.size, .cells #[.int .i64 (M : Int), .slice a2 M ca2, .slice b2 M cb2] 29)]) := hide (by
        have := HKW.out.push (.cells #[.int .i64 (M : Int), .slice a2 M ca2, .slice b2 M cb2] 29)
        rw [HKK.out, HP0.out] at this
        exact this)
      clear x0 x1 x2 x3 y0 y1 y2 y3 HKW
      generalize (wr.alloc (.cells #[.int .i64 (M : Int), .slice a2 M ca2, .slice b2 M cb2] 29)) = W1 at *
      generalize wr.heap.size = gC at *
      go_wp2_with fail
      go_loopw [11] (fun vi wr => ∃ i : Nat, vi = .int .i64 (i : Int) /\ i <= M /\ Hid (∃ x y cx cy, Kw V0 wr K x y cx cy (L1.take i) (L2.take i) [(gC, .cells #[.int .i64 (M : Int), .slice a2 M ca2, .slice b2 M cb2] 29)])) (fun vi _ => M - (Go.RowKit.intOf vi).toNat)
      case atStart => exact ⟨0, rfl, Nat.zero_le _, hide ⟨_, _, _, _, HKC.out⟩⟩
      case round =>
        obtain ⟨i, rfl, hi', HJ⟩ := hrel
        clear HKC
        obtain ⟨x, y, cx, cy, hkw⟩ := HJ.out
        have HKW := hide hkw
        clear hkw HJ
        have hCB : At3 wr gC (.int .i64 (M : Int)) (.slice a2 M ca2) (.slice b2 M cb2) := (HKW.out.fr _ (List.mem_singleton.2 rfl)).1
        by_cases h : i < M
        . have hd : decide ((i : Int) < (M : Int)) = true := decide_eq_true (by omega)
          have hd' : decide (i < M) = true := decide_eq_true (by omega)
          obtain ⟨gs, os, gd, od, ea, eb, hP⟩ := HPU.out i h
          obtain ⟨⟨hp1, hp2⟩, hp3, hp4⟩ := hP _ (HBV.out _ HKW.out.bw)
          obtain ⟨c0, c1, c2, c3⟩ := hCB.cells
          rw [ea] at c1
          rw [eb] at c2
          have HTK1 := hide (HLO1.out i h)
          have HTK2 := hide (HLO2.out i h)
          have HTL1' := hide (HTL1.out i (by have := HNK.out; omega))
          have HTL2' := hide (HTL2.out i (by have := HNK.out; omega))
          have hpk : i + 1 <= 64 := by have := HNK.out; have := HK64.out; omega
          obtain ⟨hwd1, hwd2⟩ := HWU.out i h
          rw [kr_zero _ _ hwd1] at HTK1
          rw [kr_zero _ _ hwd2] at HTK2
          clear hP ea eb hCB
          generalize u.s.getD i oP = ps at *
          generalize u.d.getD i oP = pd at *
          obtain ⟨sn, sx, sz, sf⟩ := ps
          obtain ⟨dn, dx, dz, df⟩ := pd
          have sX : IntKind.u64.wrap (sx : Int) = (sx : Int) := by have := hwd1.1; rw [wrapU]; simp only at this; omega
          have sZ : IntKind.u64.wrap (sz : Int) = (sz : Int) := by have := hwd1.2; rw [wrapU]; simp only at this; omega
          have dX : IntKind.u64.wrap (dx : Int) = (dx : Int) := by have := hwd2.1; rw [wrapU]; simp only at this; omega
          have dZ : IntKind.u64.wrap (dz : Int) = (dz : Int) := by have := hwd2.2; rw [wrapU]; simp only at this; omega
          clear hwd1 hwd2
          obtain ⟨r0, r1, r2, r3⟩ := hp1
          obtain ⟨q0, q1, q2, q3⟩ := hp3
          simp only at r0 r1 r2 r3 q0 q1 q2 q3 HTK1 HTK2
          go_upto_region 16 with fail
          go_cut [12, 13] from 44 to 93 (fun s12 s13 wq => ∃ gS gD : Nat, s12 = .pointer (some ⟨gS, 0, none⟩) /\ s13 = .pointer (some ⟨gD, 0, none⟩) /\ Hid (Kw V0 wq K x y cx cy (L1.take i) (L2.take i) [(gS, .cells #[.int .i64 sn, .int .u64 (sx : Int), .int .u64 (sz : Int), .int .i64 sf] 25), (gD, .cells #[.int .i64 dn, .int .u64 (dx : Int), .int .u64 (dz : Int), .int .i64 df] 25), (gC, .cells #[.int .i64 (M : Int), .slice a2 M ca2, .slice b2 M cb2] 29)]))
          case first =>
            go_region
            . have HK1 : Hid (Kw V0 ((wr.alloc (.cells #[.int .i64 sn, .int .u64 (sx : Int), .int .u64 (sz : Int), .int .i64 sf] 25)).alloc (.cells #[.int .i64 dn, .int .u64 (dx : Int), .int .u64 (dz : Int), .int .i64 df] 25)).drew K x y cx cy (L1.take i) (L2.take i) [(wr.heap.size, .cells #[.int .i64 sn, .int .u64 (sx : Int), .int .u64 (sz : Int), .int .i64 sf] 25), (wr.heap.size + 1, .cells #[.int .i64 dn, .int .u64 (dx : Int), .int .u64 (dz : Int), .int .i64 df] 25), (gC, .cells #[.int .i64 (M : Int), .slice a2 M ca2, .slice b2 M cb2] 29)]) := hide (by
                have := (HKW.out.push (.cells #[.int .i64 sn, .int .u64 (sx : Int), .int .u64 (sz : Int), .int .i64 sf] 25)).push (.cells #[.int .i64 dn, .int .u64 (dx : Int), .int .u64 (dz : Int), .int .i64 df] 25)
                rw [World.size_alloc] at this
                exact this.drew.swap rfl)
              go_wp2_with fail
              go_meet
              case rel => exact ⟨_, _, rfl, rfl, HK1⟩
            . have HK1 : Hid (Kw V0 ((wr.alloc (.cells #[.int .i64 dn, .int .u64 (dx : Int), .int .u64 (dz : Int), .int .i64 df] 25)).alloc (.cells #[.int .i64 sn, .int .u64 (sx : Int), .int .u64 (sz : Int), .int .i64 sf] 25)).drew K x y cx cy (L1.take i) (L2.take i) [(wr.heap.size + 1, .cells #[.int .i64 sn, .int .u64 (sx : Int), .int .u64 (sz : Int), .int .i64 sf] 25), (wr.heap.size, .cells #[.int .i64 dn, .int .u64 (dx : Int), .int .u64 (dz : Int), .int .i64 df] 25), (gC, .cells #[.int .i64 (M : Int), .slice a2 M ca2, .slice b2 M cb2] 29)]) := hide (by
                have := (HKW.out.push (.cells #[.int .i64 dn, .int .u64 (dx : Int), .int .u64 (dz : Int), .int .i64 df] 25)).push (.cells #[.int .i64 sn, .int .u64 (sx : Int), .int .u64 (sz : Int), .int .i64 sf] 25)
                rw [World.size_alloc] at this
                exact this.drew)
              go_wp2_with fail
              go_meet
              case rel => exact ⟨_, _, rfl, rfl, HK1⟩
          case rest =>
            obtain ⟨gS, gD, rfl, rfl, HK1⟩ := hcut
            clear HKW r0 r1 r2 r3 q0 q1 q2 q3 c0 c1 c2 c3 hp2 hp4 HPT HPU HWU HLO1 HLO2 HHI1 HHI2 HL1 HL2 HW1 HW2 HAV HUV HZV HBV HP0 HP1 HP2 HKK
            generalize wc = W2 at *
            have hbx1 : At3 W2 V0.heap.size (.int .i64 (K : Int)) (.slice x i cx) (.slice y i cy) := by
              have := HK1.out.bx
              rw [HTL1'.out, HTL2'.out] at this
              exact this
            have hsb1 : At4 W2 gS (.int .i64 sn) (.int .u64 (sx : Int)) (.int .u64 (sz : Int)) (.int .i64 sf) := (HK1.out.fr (gS, .cells #[.int .i64 sn, .int .u64 (sx : Int), .int .u64 (sz : Int), .int .i64 sf] 25) (by simp)).1
            have HOW1 : Hid (∀ o, (W2.alloc o).ownsRow (V0.heap.size + 1) 25 4 (.slice x i cx) i (fl (L1.take i))) := hide (fun o => by
              have := HK1.out.g1.below (bnew W2 o)
              unfold Gr at this
              rw [HTL1'.out] at this
              exact this)
            have HMI1 : Hid (∀ o V', (W2.alloc o).grownBy V' (Value.ownBlock (.slice x i cx)) -> At3 V' V0.heap.size (.int .i64 (K : Int)) (.slice x i cx) (.slice y i cy)) := hide (fun o V' hg => by
              have := (HK1.out.push o).mid1 i hg
              rw [HTL1'.out, HTL2'.out] at this
              exact this)
            have hone1 := c4_one (⟨(K : Int), sx, sz, sf⟩ : P)
            have hc41 : c4 (⟨(K : Int), sx, sz, sf⟩ : P) = [.int .i64 (K : Int), .int .u64 (sx : Int), .int .u64 (sz : Int), .int .i64 sf] := rfl
            have HC41 := hide hc41
            rw [hc41] at hone1
            clear hc41
            have hv0 : V0.heap.size + 1 <= W2.heap.size := HK1.out.bx.lt
            obtain ⟨bb0, bb1, bb2, bb3⟩ := hbx1.cells
            obtain ⟨s0, s1, s2, s3, s4⟩ := hsb1.cells
            clear hbx1 hsb1
            go_upto_region 18 with (first
              | (at_builtin; refine wpList_append_lies _ rfl (.tmp 61) (.tmp 74) 27 rfl (V0.heap.size + 1) 25 i0 _ 4 32 Tryz.underlying27 hi hz0 hz1 hz2 rfl (by decide) (.slice x i cx) i (fl (L1.take i)) rfl (HOW1.out _) ⟨W2.heap.size, 0, none⟩ 1 1 [.int .i64 (K : Int), .int .u64 (sx : Int), .int .u64 (sz : Int), .int .i64 sf] rfl rfl (World.news_of_block (heap_alloc_new W2 _)) hone1 (by decide) (by unfold maxLen; omega) (by omega) (by simp; omega) _ rfl ?_; intro g7 c7 w7 ho hgr hat hlt; obtain ⟨m0, m1, m2, m3⟩ := (HMI1.out _ _ hgr).cells; have mf := (HMI1.out _ _ hgr).fz))
            have HK2 : Hid (Kw V0 (w7.setCell ⟨V0.heap.size, 1, none⟩ (.slice (some ⟨g7, 0, none⟩) (i + 1) c7)) K (some ⟨g7, 0, none⟩) y c7 cy (L1.take (i + 1)) (L2.take i) [(gS, .cells #[.int .i64 sn, .int .u64 (sx : Int), .int .u64 (sz : Int), .int .i64 sf] 25), (gD, .cells #[.int .i64 dn, .int .u64 (dx : Int), .int .u64 (dz : Int), .int .i64 df] 25), (gC, .cells #[.int .i64 (M : Int), .slice a2 M ca2, .slice b2 M cb2] 29)]) := hide (by
              have := (HK1.out.push _).app1 (n := i) (p := ⟨(K : Int), sx, sz, sf⟩) HTL1'.out.symm hgr (by rw [HC41.out]; exact ho) hat
              rw [HTK1.out] at this
              exact this.less (fun q hq => List.mem_cons_of_mem _ hq))
            have HTL3 : Hid ((L1.take (i + 1)).length = (i + 1)) := hide (HTL1.out _ (by have := HNK.out; omega))
            clear ho hgr hat hlt m0 m1 m2 m3 mf bb0 bb1 bb2 bb3 s0 s1 s2 s3 s4 HOW1 HMI1 hone1 HC41 hv0 HK1
            generalize w7.setCell ⟨V0.heap.size, 1, none⟩ (.slice (some ⟨g7, 0, none⟩) (i + 1) c7) = W3 at *
            have hbx2 : At3 W3 V0.heap.size (.int .i64 (K : Int)) (.slice (some ⟨g7, 0, none⟩) (i + 1) c7) (.slice y i cy) := by
              have := HK2.out.bx
              rw [HTL3.out, HTL2'.out] at this
              exact this
            have hsb2 : At4 W3 gD (.int .i64 dn) (.int .u64 (dx : Int)) (.int .u64 (dz : Int)) (.int .i64 df) := (HK2.out.fr (gD, .cells #[.int .i64 dn, .int .u64 (dx : Int), .int .u64 (dz : Int), .int .i64 df] 25) (by simp)).1
            have HOW2 : Hid (∀ o, (W3.alloc o).ownsRow (V0.heap.size + 1) 25 4 (.slice y i cy) i (fl (L2.take i))) := hide (fun o => by
              have := HK2.out.g2.below (bnew W3 o)
              unfold Gr at this
              rw [HTL2'.out] at this
              exact this)
            have HMI2 : Hid (∀ o V', (W3.alloc o).grownBy V' (Value.ownBlock (.slice y i cy)) -> At3 V' V0.heap.size (.int .i64 (K : Int)) (.slice (some ⟨g7, 0, none⟩) (i + 1) c7) (.slice y i cy)) := hide (fun o V' hg => by
              have := (HK2.out.push o).mid2 i hg
              rw [HTL3.out, HTL2'.out] at this
              exact this)
            have hone2 := c4_one (⟨(K : Int), dx, dz, df⟩ : P)
            have hc42 : c4 (⟨(K : Int), dx, dz, df⟩ : P) = [.int .i64 (K : Int), .int .u64 (dx : Int), .int .u64 (dz : Int), .int .i64 df] := rfl
            have HC42 := hide hc42
            rw [hc42] at hone2
            clear hc42
            have hv0 : V0.heap.size + 1 <= W3.heap.size := HK2.out.bx.lt
            obtain ⟨bb0, bb1, bb2, bb3⟩ := hbx2.cells
            obtain ⟨s0, s1, s2, s3, s4⟩ := hsb2.cells
            clear hbx2 hsb2
            go_wp2_with (first
              | (at_builtin; refine wpList_append_lies _ rfl (.tmp 78) (.tmp 91) 27 rfl (V0.heap.size + 1) 25 i0 _ 4 32 Tryz.underlying27 hi hz0 hz1 hz2 rfl (by decide) (.slice y i cy) i (fl (L2.take i)) rfl (HOW2.out _) ⟨W3.heap.size, 0, none⟩ 1 1 [.int .i64 (K : Int), .int .u64 (dx : Int), .int .u64 (dz : Int), .int .i64 df] rfl rfl (World.news_of_block (heap_alloc_new W3 _)) hone2 (by decide) (by unfold maxLen; omega) (by omega) (by simp; omega) _ rfl ?_; intro g8 c8 w8 ho hgr hat hlt; obtain ⟨m0, m1, m2, m3⟩ := (HMI2.out _ _ hgr).cells; have mf := (HMI2.out _ _ hgr).fz))
            have HK3 : Hid (Kw V0 (w8.setCell ⟨V0.heap.size, 2, none⟩ (.slice (some ⟨g8, 0, none⟩) (i + 1) c8)) K (some ⟨g7, 0, none⟩) (some ⟨g8, 0, none⟩) c7 c8 (L1.take (i + 1)) (L2.take (i + 1)) [(gC, .cells #[.int .i64 (M : Int), .slice a2 M ca2, .slice b2 M cb2] 29)]) := hide (by
              have := (HK2.out.push _).app2 (n := i) (p := ⟨(K : Int), dx, dz, df⟩) HTL2'.out.symm hgr (by rw [HC42.out]; exact ho) hat
              rw [HTK2.out] at this
              exact this.less (fun q hq => by rw [List.mem_singleton.1 hq]; simp))
            clear ho hgr hat hlt m0 m1 m2 m3 mf bb0 bb1 bb2 bb3 s0 s1 s2 s3 s4 HOW2 HMI2 hone2 HC42 hv0 HK2
            go_roundw
            case rel => first | exact ⟨i + 1, by go_num, by omega, hide ⟨_, _, _, _, HK3.out⟩⟩ | ((repeat apply Exists.intro); exact ⟨⟨i + 1, by go_num, by omega, hide ⟨_, _, _, _, HK3.out⟩⟩, rfl⟩)
            case measure => simp [Go.RowKit.intOf]; omega
        . obtain rfl : M = i := by omega
          have hd : decide ((M : Int) < (M : Int)) = false := decide_eq_false (by omega)
          obtain ⟨c0, c1, c2, c3⟩ := hCB.cells
          have HEN : Hid (∃ x y cx cy, Kw V0 wr K x y cx cy (L1.take (pos (k + 1))) (L2.take (pos (k + 1))) []) := hide ⟨x, y, cx, cy, by
            have := HKW.out.less (F' := []) (fun q hq => by cases hq)
            rw [HKK.out, HP1.out]
            exact this⟩
          clear HKW hCB
          go_wp2_with fail
          go_roundw
          case rel => exact ⟨k + 1, by go_num, by have := HKK.out; omega, HEN⟩
          case measure => have := HKK.out; simp [Go.RowKit.intOf]; omega
    . by_cases hk1 : k = 1
      . have hdk : decide ((k : Int) < 2) = true := decide_eq_true (by omega)
        have hdl : decide (k < 2) = true := decide_eq_true (by omega)
        have hd1 : ((k : Int) == 1) = true := by rw [beq_iff_eq]; omega
        have HKK : Hid (k = 1) := hide hk1
        clear hk0 hk1 
        obtain ⟨x, y, cx, cy, hkw⟩ := HI.out
        have HKW := hide hkw
        clear hkw HI
        obtain ⟨y0, y1, y2, y3⟩ := (HUV.out _ HKW.out.bw).cells
        obtain ⟨x0, x1, x2, x3⟩ := (HAV.out _ HKW.out.bw).cells
        have ub0 : IntKind.u64.wrap (M : Int) = (M : Int) := by rw [wrapU]; omega
        go_upto_region 13 with fail
        go_region
        have HKC : Hid (Kw V0 (wr.alloc (.cells #[.int .i64 (N : Int), .slice a N ca, .slice b N cb] 29)).drew K x y cx cy (L1.take (M + 0)) (L2.take (M + 0)) [(wr.heap.size, .cells #[.int .i64 (N : Int), .slice a N ca, .slice b N cb] 29)]) := hide (by
          have := HKW.out.push (.cells #[.int .i64 (N : Int), .slice a N ca, .slice b N cb] 29)
          rw [HKK.out, HP1.out] at this
          exact this.drew)
        clear x0 x1 x2 x3 y0 y1 y2 y3 HKW
        generalize (wr.alloc (.cells #[.int .i64 (N : Int), .slice a N ca, .slice b N cb] 29)).drew = W1 at *
        generalize wr.heap.size = gC at *
        go_wp2_with fail
        go_loopw [11] (fun vi wr => ∃ i : Nat, vi = .int .i64 (i : Int) /\ i <= N /\ Hid (∃ x y cx cy, Kw V0 wr K x y cx cy (L1.take (M + i)) (L2.take (M + i)) [(gC, .cells #[.int .i64 (N : Int), .slice a N ca, .slice b N cb] 29)])) (fun vi _ => N - (Go.RowKit.intOf vi).toNat)
        case atStart => exact ⟨0, rfl, Nat.zero_le _, hide ⟨_, _, _, _, HKC.out⟩⟩
        case round =>
          obtain ⟨i, rfl, hi', HJ⟩ := hrel
          clear HKC
          obtain ⟨x, y, cx, cy, hkw⟩ := HJ.out
          have HKW := hide hkw
          clear hkw HJ
          have hCB : At3 wr gC (.int .i64 (N : Int)) (.slice a N ca) (.slice b N cb) := (HKW.out.fr _ (List.mem_singleton.2 rfl)).1
          by_cases h : i < N
          . have hd : decide ((i : Int) < (N : Int)) = true := decide_eq_true (by omega)
            have hd' : decide (i < N) = true := decide_eq_true (by omega)
            obtain ⟨gs, os, gd, od, ea, eb, hP⟩ := HPT.out i h
            obtain ⟨⟨hp1, hp2⟩, hp3, hp4⟩ := hP _ (HBV.out _ HKW.out.bw)
            obtain ⟨c0, c1, c2, c3⟩ := hCB.cells
            rw [ea] at c1
            rw [eb] at c2
            have HTK1 := hide (HHI1.out i h)
            have HTK2 := hide (HHI2.out i h)
            have HTL1' := hide (HTL1.out (M + i) (by have := HNK.out; omega))
            have HTL2' := hide (HTL2.out (M + i) (by have := HNK.out; omega))
            have hpk : (M + i) + 1 <= 64 := by have := HNK.out; have := HK64.out; omega
            clear hP ea eb hCB
            generalize t.s.getD i oP = ps at *
            generalize t.d.getD i oP = pd at *
            obtain ⟨sn, sx, sz, sf⟩ := ps
            obtain ⟨dn, dx, dz, df⟩ := pd
            unfold krP at HTK1 HTK2
            have sX := shl_run14 sx M
            have sZ := shl_run14 sz M
            have dX := shl_run14 dx M
            have dZ := shl_run14 dz M
            obtain ⟨r0, r1, r2, r3⟩ := hp1
            obtain ⟨q0, q1, q2, q3⟩ := hp3
            simp only at r0 r1 r2 r3 q0 q1 q2 q3 HTK1 HTK2
            generalize sx * 2 ^ M % 18446744073709551616 = sx' at *
            generalize sz * 2 ^ M % 18446744073709551616 = sz' at *
            generalize dx * 2 ^ M % 18446744073709551616 = dx' at *
            generalize dz * 2 ^ M % 18446744073709551616 = dz' at *
            go_upto_region 16 with fail
            go_cut [12, 13] from 44 to 93 (fun s12 s13 wq => ∃ gS gD : Nat, s12 = .pointer (some ⟨gS, 0, none⟩) /\ s13 = .pointer (some ⟨gD, 0, none⟩) /\ Hid (Kw V0 wq K x y cx cy (L1.take (M + i)) (L2.take (M + i)) [(gS, .cells #[.int .i64 sn, .int .u64 (sx : Int), .int .u64 (sz : Int), .int .i64 sf] 25), (gD, .cells #[.int .i64 dn, .int .u64 (dx : Int), .int .u64 (dz : Int), .int .i64 df] 25), (gC, .cells #[.int .i64 (N : Int), .slice a N ca, .slice b N cb] 29)]))
            case first =>
              go_region
              . have HK1 : Hid (Kw V0 ((wr.alloc (.cells #[.int .i64 sn, .int .u64 (sx : Int), .int .u64 (sz : Int), .int .i64 sf] 25)).alloc (.cells #[.int .i64 dn, .int .u64 (dx : Int), .int .u64 (dz : Int), .int .i64 df] 25)).drew K x y cx cy (L1.take (M + i)) (L2.take (M + i)) [(wr.heap.size, .cells #[.int .i64 sn, .int .u64 (sx : Int), .int .u64 (sz : Int), .int .i64 sf] 25), (wr.heap.size + 1, .cells #[.int .i64 dn, .int .u64 (dx : Int), .int .u64 (dz : Int), .int .i64 df] 25), (gC, .cells #[.int .i64 (N : Int), .slice a N ca, .slice b N cb] 29)]) := hide (by
                  have := (HKW.out.push (.cells #[.int .i64 sn, .int .u64 (sx : Int), .int .u64 (sz : Int), .int .i64 sf] 25)).push (.cells #[.int .i64 dn, .int .u64 (dx : Int), .int .u64 (dz : Int), .int .i64 df] 25)
                  rw [World.size_alloc] at this
                  exact this.drew.swap rfl)
                go_wp2_with fail
                go_meet
                case rel => exact ⟨_, _, rfl, rfl, HK1⟩
              . have HK1 : Hid (Kw V0 ((wr.alloc (.cells #[.int .i64 dn, .int .u64 (dx : Int), .int .u64 (dz : Int), .int .i64 df] 25)).alloc (.cells #[.int .i64 sn, .int .u64 (sx : Int), .int .u64 (sz : Int), .int .i64 sf] 25)).drew K x y cx cy (L1.take (M + i)) (L2.take (M + i)) [(wr.heap.size + 1, .cells #[.int .i64 sn, .int .u64 (sx : Int), .int .u64 (sz : Int), .int .i64 sf] 25), (wr.heap.size, .cells #[.int .i64 dn, .int .u64 (dx : Int), .int .u64 (dz : Int), .int .i64 df] 25), (gC, .cells #[.int .i64 (N : Int), .slice a N ca, .slice b N cb] 29)]) := hide (by
                  have := (HKW.out.push (.cells #[.int .i64 dn, .int .u64 (dx : Int), .int .u64 (dz : Int), .int .i64 df] 25)).push (.cells #[.int .i64 sn, .int .u64 (sx : Int), .int .u64 (sz : Int), .int .i64 sf] 25)
                  rw [World.size_alloc] at this
                  exact this.drew)
                go_wp2_with fail
                go_meet
                case rel => exact ⟨_, _, rfl, rfl, HK1⟩
            case rest =>
              obtain ⟨gS, gD, rfl, rfl, HK1⟩ := hcut
              clear HKW r0 r1 r2 r3 q0 q1 q2 q3 c0 c1 c2 c3 hp2 hp4 HPT HPU HWU HLO1 HLO2 HHI1 HHI2 HL1 HL2 HW1 HW2 HAV HUV HZV HBV HP0 HP1 HP2 HKK
              generalize wc = W2 at *
              have hbx1 : At3 W2 V0.heap.size (.int .i64 (K : Int)) (.slice x (M + i) cx) (.slice y (M + i) cy) := by
                have := HK1.out.bx
                rw [HTL1'.out, HTL2'.out] at this
                exact this
              have hsb1 : At4 W2 gS (.int .i64 sn) (.int .u64 (sx : Int)) (.int .u64 (sz : Int)) (.int .i64 sf) := (HK1.out.fr (gS, .cells #[.int .i64 sn, .int .u64 (sx : Int), .int .u64 (sz : Int), .int .i64 sf] 25) (by simp)).1
              have HOW1 : Hid (∀ o, (W2.alloc o).ownsRow (V0.heap.size + 1) 25 4 (.slice x (M + i) cx) (M + i) (fl (L1.take (M + i)))) := hide (fun o => by
                have := HK1.out.g1.below (bnew W2 o)
                unfold Gr at this
                rw [HTL1'.out] at this
                exact this)
              have HMI1 : Hid (∀ o V', (W2.alloc o).grownBy V' (Value.ownBlock (.slice x (M + i) cx)) -> At3 V' V0.heap.size (.int .i64 (K : Int)) (.slice x (M + i) cx) (.slice y (M + i) cy)) := hide (fun o V' hg => by
                have := (HK1.out.push o).mid1 (M + i) hg
                rw [HTL1'.out, HTL2'.out] at this
                exact this)
              have hone1 := c4_one (⟨(K : Int), sx', sz', sf⟩ : P)
              have hc41 : c4 (⟨(K : Int), sx', sz', sf⟩ : P) = [.int .i64 (K : Int), .int .u64 (sx' : Int), .int .u64 (sz' : Int), .int .i64 sf] := rfl
              have HC41 := hide hc41
              rw [hc41] at hone1
              clear hc41
              have hv0 : V0.heap.size + 1 <= W2.heap.size := HK1.out.bx.lt
              obtain ⟨bb0, bb1, bb2, bb3⟩ := hbx1.cells
              obtain ⟨s0, s1, s2, s3, s4⟩ := hsb1.cells
              clear hbx1 hsb1
              go_upto_region 18 with (first
                | (at_builtin; refine wpList_append_lies _ rfl (.tmp 61) (.tmp 74) 27 rfl (V0.heap.size + 1) 25 i0 _ 4 32 Tryz.underlying27 hi hz0 hz1 hz2 rfl (by decide) (.slice x (M + i) cx) (M + i) (fl (L1.take (M + i))) rfl (HOW1.out _) ⟨W2.heap.size, 0, none⟩ 1 1 [.int .i64 (K : Int), .int .u64 (sx' : Int), .int .u64 (sz' : Int), .int .i64 sf] rfl rfl (World.news_of_block (heap_alloc_new W2 _)) hone1 (by decide) (by unfold maxLen; omega) (by omega) (by simp; omega) _ rfl ?_; intro g7 c7 w7 ho hgr hat hlt; obtain ⟨m0, m1, m2, m3⟩ := (HMI1.out _ _ hgr).cells; have mf := (HMI1.out _ _ hgr).fz))
              have HK2 : Hid (Kw V0 (w7.setCell ⟨V0.heap.size, 1, none⟩ (.slice (some ⟨g7, 0, none⟩) ((M + i) + 1) c7)) K (some ⟨g7, 0, none⟩) y c7 cy (L1.take (M + (i + 1))) (L2.take (M + i)) [(gS, .cells #[.int .i64 sn, .int .u64 (sx : Int), .int .u64 (sz : Int), .int .i64 sf] 25), (gD, .cells #[.int .i64 dn, .int .u64 (dx : Int), .int .u64 (dz : Int), .int .i64 df] 25), (gC, .cells #[.int .i64 (N : Int), .slice a N ca, .slice b N cb] 29)]) := hide (by
                have := (HK1.out.push _).app1 (n := (M + i)) (p := ⟨(K : Int), sx', sz', sf⟩) HTL1'.out.symm hgr (by rw [HC41.out]; exact ho) hat
                rw [HTK1.out] at this
                exact this.less (fun q hq => List.mem_cons_of_mem _ hq))
              have HTL3 : Hid ((L1.take (M + (i + 1))).length = (M + (i + 1))) := hide (HTL1.out _ (by have := HNK.out; omega))
              clear ho hgr hat hlt m0 m1 m2 m3 mf bb0 bb1 bb2 bb3 s0 s1 s2 s3 s4 HOW1 HMI1 hone1 HC41 hv0 HK1
              generalize w7.setCell ⟨V0.heap.size, 1, none⟩ (.slice (some ⟨g7, 0, none⟩) ((M + i) + 1) c7) = W3 at *
              have hbx2 : At3 W3 V0.heap.size (.int .i64 (K : Int)) (.slice (some ⟨g7, 0, none⟩) (M + (i + 1)) c7) (.slice y (M + i) cy) := by
                have := HK2.out.bx
                rw [HTL3.out, HTL2'.out] at this
                exact this
              have hsb2 : At4 W3 gD (.int .i64 dn) (.int .u64 (dx : Int)) (.int .u64 (dz : Int)) (.int .i64 df) := (HK2.out.fr (gD, .cells #[.int .i64 dn, .int .u64 (dx : Int), .int .u64 (dz : Int), .int .i64 df] 25) (by simp)).1
              have HOW2 : Hid (∀ o, (W3.alloc o).ownsRow (V0.heap.size + 1) 25 4 (.slice y (M + i) cy) (M + i) (fl (L2.take (M + i)))) := hide (fun o => by
                have := HK2.out.g2.below (bnew W3 o)
                unfold Gr at this
                rw [HTL2'.out] at this
                exact this)
              have HMI2 : Hid (∀ o V', (W3.alloc o).grownBy V' (Value.ownBlock (.slice y (M + i) cy)) -> At3 V' V0.heap.size (.int .i64 (K : Int)) (.slice (some ⟨g7, 0, none⟩) (M + (i + 1)) c7) (.slice y (M + i) cy)) := hide (fun o V' hg => by
                have := (HK2.out.push o).mid2 (M + i) hg
                rw [HTL3.out, HTL2'.out] at this
                exact this)
              have hone2 := c4_one (⟨(K : Int), dx', dz', df⟩ : P)
              have hc42 : c4 (⟨(K : Int), dx', dz', df⟩ : P) = [.int .i64 (K : Int), .int .u64 (dx' : Int), .int .u64 (dz' : Int), .int .i64 df] := rfl
              have HC42 := hide hc42
              rw [hc42] at hone2
              clear hc42
              have hv0 : V0.heap.size + 1 <= W3.heap.size := HK2.out.bx.lt
              obtain ⟨bb0, bb1, bb2, bb3⟩ := hbx2.cells
              obtain ⟨s0, s1, s2, s3, s4⟩ := hsb2.cells
              clear hbx2 hsb2
              go_wp2_with (first
                | (at_builtin; refine wpList_append_lies _ rfl (.tmp 78) (.tmp 91) 27 rfl (V0.heap.size + 1) 25 i0 _ 4 32 Tryz.underlying27 hi hz0 hz1 hz2 rfl (by decide) (.slice y (M + i) cy) (M + i) (fl (L2.take (M + i))) rfl (HOW2.out _) ⟨W3.heap.size, 0, none⟩ 1 1 [.int .i64 (K : Int), .int .u64 (dx' : Int), .int .u64 (dz' : Int), .int .i64 df] rfl rfl (World.news_of_block (heap_alloc_new W3 _)) hone2 (by decide) (by unfold maxLen; omega) (by omega) (by simp; omega) _ rfl ?_; intro g8 c8 w8 ho hgr hat hlt; obtain ⟨m0, m1, m2, m3⟩ := (HMI2.out _ _ hgr).cells; have mf := (HMI2.out _ _ hgr).fz))
              have HK3 : Hid (Kw V0 (w8.setCell ⟨V0.heap.size, 2, none⟩ (.slice (some ⟨g8, 0, none⟩) ((M + i) + 1) c8)) K (some ⟨g7, 0, none⟩) (some ⟨g8, 0, none⟩) c7 c8 (L1.take (M + (i + 1))) (L2.take (M + (i + 1))) [(gC, .cells #[.int .i64 (N : Int), .slice a N ca, .slice b N cb] 29)]) := hide (by
                have := (HK2.out.push _).app2 (n := (M + i)) (p := ⟨(K : Int), dx', dz', df⟩) HTL2'.out.symm hgr (by rw [HC42.out]; exact ho) hat
                rw [HTK2.out] at this
                exact this.less (fun q hq => by rw [List.mem_singleton.1 hq]; simp))
              clear ho hgr hat hlt m0 m1 m2 m3 mf bb0 bb1 bb2 bb3 s0 s1 s2 s3 s4 HOW2 HMI2 hone2 HC42 hv0 HK2
              go_roundw
              case rel => first | exact ⟨i + 1, by go_num, by omega, hide ⟨_, _, _, _, HK3.out⟩⟩ | ((repeat apply Exists.intro); exact ⟨⟨i + 1, by go_num, by omega, hide ⟨_, _, _, _, HK3.out⟩⟩, rfl⟩)
              case measure => simp [Go.RowKit.intOf]; omega
          . obtain rfl : N = i := by omega
            have hd : decide ((N : Int) < (N : Int)) = false := decide_eq_false (by omega)
            obtain ⟨c0, c1, c2, c3⟩ := hCB.cells
            have HEN : Hid (∃ x y cx cy, Kw V0 wr K x y cx cy (L1.take (pos (k + 1))) (L2.take (pos (k + 1))) []) := hide ⟨x, y, cx, cy, by
              have := HKW.out.less (F' := []) (fun q hq => by cases hq)
              rw [HKK.out, HP2.out]
              rw [show M + N = K by have := HNK.out; omega] at this; exact this⟩
            clear HKW hCB
            go_wp2_with fail
            go_roundw
            case rel => exact ⟨k + 1, by go_num, by have := HKK.out; omega, HEN⟩
            case measure => have := HKK.out; simp [Go.RowKit.intOf]; omega
      . obtain ⟨x, y, cx, cy, hkw⟩ := HI.out
        have hdk : decide ((k : Int) < 2) = false := decide_eq_false (by omega)
        have hdl : decide (k < 2) = false := decide_eq_false (by omega)
        rw [show k = 2 by omega, HP2.out, List.take_of_length_le (Nat.le_of_eq HL1.out), List.take_of_length_le (Nat.le_of_eq HL2.out)] at hkw
        have hbx := hkw.bx
        rw [HL1.out, HL2.out] at hbx
        obtain ⟨t0, t1, t2, t3⟩ := hbx.cells
        have hR := HZV.out _ hkw.bw
        have HXX : Hid (Th (wr.setRow (w.heap.size + 1 + 1) #[.int .i64 (K : Int), .slice x K cx, .slice y K cy]) ⟨K, L1, L2⟩ x y cx cy /\ Below w.heap.size w (wr.setRow (w.heap.size + 1 + 1) #[.int .i64 (K : Int), .slice x K cx, .slice y K cy])) := hide (by
          have h1 := hkw.g1.pin
          have h2 := hkw.g2.pin
          have e0 := HK64.out
          have e1 := HL1.out
          have e2 := HL2.out
          refine ⟨Th.row (t := ⟨K, L1, L2⟩) ⟨h1.1, h2.1, HW1.out, HW2.out, h1.2, h2.2, by show L1.length <= _; omega, by show L2.length <= _; omega⟩ hR _, below_setRow (HBV.out _ hkw.bw) (by omega) _⟩)
        unfold At3 at hR
        clear hkw hbx HI hk hk0 hk1
        go_wp2_with (first
          | (refine wpList_store_row rfl _ _ _ rfl (w.heap.size + 1 + 1) _ rfl rfl _ _ hR (by exact infoT) (by rfl) (all3 _ _ _ _ _ _ _) ?_))
        refine bodyPost_ret (Pau.results_ct rfl _ _ (w.heap.size + 1 + 1) _ _ _ _ rfl (setRow_heap _ _ _ _ _ _ hR) Tryz.underlying29 rfl (by exact infoT)) rfl ?_
        exact ⟨x, y, cx, cy, rfl, HXX.out.1, HXX.out.2⟩
theorem dKron (t u : TT) (a b a2 b2 : Option Addr) (ca cb ca2 cb2 : Nat) (w : World) (h : Th w t a b ca cb) (h2 : Th w u a2 b2 ca2 cb2) :
    Calls Tryz.prog 14 #[tV t a b ca cb, tV u a2 b2 ca2 cb2] w fun e w' => ∃ a' b' ca' cb', e = .returned (.tuple #[tV (krR t u).1 a' b' ca' cb', .int .i64 (krR t u).2]) /\ Th w' (krR t u).1 a' b' ca' cb' /\ Below w.heap.size w w' := by
  by_cases hh : chB t = true /\ chB u = true /\ t.n + u.n <= 64
  . have e : krR t u = (⟨t.n + u.n, krL (t.n + u.n) t.s u.s, krL (t.n + u.n) t.d u.d⟩, 0) := by unfold krR; rw [if_pos ⟨hh.1, hh.2.1⟩, if_pos hh.2.2]
    rw [e]
    exact dKron_ok t u a b a2 b2 ca cb ca2 cb2 hh.1 hh.2.1 hh.2.2 w h h2
  . exact dKron_no t u a b a2 b2 ca cb ca2 cb2 hh w h h2
end Go.Proofs.YtpehekonjdneaaaGreatDoor.Tbl
