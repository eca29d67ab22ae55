import Derived.Test.YtpehekonjdneaaaDoorK5156c1b6
set_option maxRecDepth 100000
set_option maxHeartbeats 8000000
namespace Go.Proofs.YtpehekonjdneaaaDoor.Tbl
open Go.RowKit Go.Shelf Go.Proofs.YtpehekonjdneaaaDoor.Pau Go.Proofs.YtpehekonjdneaaaDoor.Gt
theorem wl0 : Wl T0.s /\ Wl T0.d := by
  unfold Wl Wd
  decide
theorem tAlive (w : World) (hT : Tg w) : Calls Tryd.prog 6 #[] w fun e w' => e = .returned (.bool true) /\ Below w.heap.size w w' := by
  have HT := hide (fun W (hb : Below w.heap.size w W) => hT.below hb)
  have HC1 : Hid (∀ W, Calls Tryd.prog 14 #[.int .i64 2] W fun e w' => ∃ g1 g2, e = .returned (.tuple #[.agg #[.int .i64 2, .slice (some ⟨g1, 0, none⟩) 2 2, .slice (some ⟨g2, 0, none⟩) 2 2], .int .i64 0]) /\ Th w' T0 (some ⟨g1, 0, none⟩) (some ⟨g2, 0, none⟩) 2 2 /\ Below W.heap.size W w') := hide (fun W => (tNew_ok 2 (by decide) W).mono (by
    rintro e w' ⟨g1, g2, h1, h2, h3⟩
    rw [v_new] at h2
    exact ⟨g1, g2, h1, h2.th wl0.1 wl0.2 rfl rfl (by decide), h3⟩))
  have HC2 : Hid (∀ W a b ca cb g, Below w.heap.size w W -> Th W T0 a b ca cb -> Ns W (some ⟨g, 0, none⟩) [0] -> Calls Tryd.prog 4 #[.agg #[.int .i64 2, .slice a 2 ca, .slice b 2 cb], .int .i64 9, .slice (some ⟨g, 0, none⟩) 1 1] W fun e w' => ∃ a' b' ca' cb', e = .returned (.tuple #[.agg #[.int .i64 2, .slice a' 2 ca', .slice b' 2 cb'], .int .i64 0]) /\ Th w' T1 a' b' ca' cb' /\ Below W.heap.size W w') := hide (fun W a b ca cb g hb h hn => aGate T0 T1 9 0 [0] (by simp) v_g1 a b ca cb g 1 (by simp) W h (HT.out W hb) hn)
  have HC3 : Hid (∀ W a b ca cb g, Below w.heap.size w W -> Th W T1 a b ca cb -> Ns W (some ⟨g, 0, none⟩) [0, 1] -> Calls Tryd.prog 4 #[.agg #[.int .i64 2, .slice a 2 ca, .slice b 2 cb], .int .i64 11, .slice (some ⟨g, 0, none⟩) 2 2] W fun e w' => ∃ a' b' ca' cb', e = .returned (.tuple #[.agg #[.int .i64 2, .slice a' 2 ca', .slice b' 2 cb'], .int .i64 0]) /\ Th w' T2 a' b' ca' cb' /\ Below W.heap.size W w') := hide (fun W a b ca cb g hb h hn => aGate T1 T2 11 0 [0, 1] (by simp) v_g2 a b ca cb g 2 (by simp) W h (HT.out W hb) hn)
  have HC11 : Hid (∀ W a b ca cb g, Below w.heap.size w W -> Th W T2 a b ca cb -> Ns W (some ⟨g, 0, none⟩) [0, 1, 2] -> Calls Tryd.prog 4 #[.agg #[.int .i64 2, .slice a 2 ca, .slice b 2 cb], .int .i64 18, .slice (some ⟨g, 0, none⟩) 3 3] W fun e w' => ∃ a' b' ca' cb', e = .returned (.tuple #[.agg #[.int .i64 0, .slice a' 0 ca', .slice b' 0 cb'], .int .i64 61]) /\ Th w' zrT a' b' ca' cb' /\ Below W.heap.size W w') := hide (fun W a b ca cb g hb h hn => aGate T2 zrT 18 61 [0, 1, 2] (by simp) v_g3 a b ca cb g 3 (by simp) W h (HT.out W hb) hn)
  have HC4 : Hid (∀ W a b ca cb, Th W T2 a b ca cb -> Calls Tryd.prog 15 #[.agg #[.int .i64 2, .slice a 2 ca, .slice b 2 cb], .int .i64 0] W fun e w' => e = .returned (.tuple #[.int .i64 2, .int .i64 0]) /\ Below W.heap.size W w') := hide (fun W a b ca cb h => aOdds T2 0 2 0 v_od a b ca cb W h)
  have HC6 : Hid (∀ W a b ca cb, Th W T3 a b ca cb -> Calls Tryd.prog 15 #[.agg #[.int .i64 2, .slice a 2 ca, .slice b 2 cb], .int .i64 1] W fun e w' => e = .returned (.tuple #[.int .i64 1, .int .i64 0]) /\ Below W.heap.size W w') := hide (fun W a b ca cb h => aOdds T3 1 1 0 v_od2 a b ca cb W h)
  have HC5 : Hid (∀ W a b ca cb, Th W T2 a b ca cb -> Calls Tryd.prog 16 #[.agg #[.int .i64 2, .slice a 2 ca, .slice b 2 cb], .int .i64 0, .int .i64 1] W fun e w' => ∃ a' b' ca' cb', e = .returned (.tuple #[.agg #[.int .i64 2, .slice a' 2 ca', .slice b' 2 cb'], .int .i64 0]) /\ Th w' T3 a' b' ca' cb' /\ Below W.heap.size W w') := hide (fun W a b ca cb h => aProject T2 T3 0 1 0 v_pr a b ca cb W h)
  have HC7 : Hid (∀ W a b ca cb, Th W T3 a b ca cb -> Calls Tryd.prog 16 #[.agg #[.int .i64 2, .slice a 2 ca, .slice b 2 cb], .int .i64 1, .int .i64 0] W fun e w' => ∃ a' b' ca' cb', e = .returned (.tuple #[.agg #[.int .i64 0, .slice a' 0 ca', .slice b' 0 cb'], .int .i64 142]) /\ Th w' zrT a' b' ca' cb' /\ Below W.heap.size W w') := hide (fun W a b ca cb h => aProject T3 zrT 1 0 142 v_pr2 a b ca cb W h)
  have HC8 : Hid (∀ W a b ca cb, Th W T2 a b ca cb -> Calls Tryd.prog 17 #[.agg #[.int .i64 2, .slice a 2 ca, .slice b 2 cb]] W fun e w' => ∃ gl c, e = .returned (.tuple #[.slice (some ⟨gl, 0, none⟩) 2 c, .int .i64 0]) /\ PO w' gl [⟨2, 3, 0, 0⟩, ⟨2, 0, 3, 0⟩] /\ Below W.heap.size W w') := hide (fun W a b ca cb h => (tCanon T2 a b ca cb W h).mono (by
    rintro e w' ⟨ao, c, h1, h2, -, h4⟩
    rw [v_cn.1] at h1 h2
    rw [v_cn.2] at h1
    rcases h2 with h2 | ⟨g, rfl, -, h2⟩
    . cases h2
    . exact ⟨g, c, h1, h2, h4⟩))
  have HC9 : Hid (∀ W a b ca cb g, Th W T2 a b ca cb -> Ns W (some ⟨g, 0, none⟩) [0] -> Calls Tryd.prog 8 #[.agg #[.int .i64 2, .slice a 2 ca, .slice b 2 cb], .slice (some ⟨g, 0, none⟩) 1 1] W fun e w' => e = .returned (.tuple #[.int .i64 1, .int .i64 0]) /\ Below W.heap.size W w') := hide (fun W a b ca cb g h hn => by
    have := tCut T2 a b ca cb [0] (by simp) (some ⟨g, 0, none⟩) 1 W h hn
    rw [v_cu] at this
    exact this)
  have HC10 : Hid (∀ W a b ca cb, Th W T2 a b ca cb -> Calls Tryd.prog 18 #[.agg #[.int .i64 2, .slice a 2 ca, .slice b 2 cb], .agg #[.int .i64 2, .int .u64 3, .int .u64 3, .int .i64 2]] W fun e w' => e = .returned (.tuple #[.int .i64 1, .int .i64 0]) /\ Below W.heap.size W w') := hide (fun W a b ca cb h => by
    have := tMemberP T2 a b ca cb ⟨2, 3, 3, 2⟩ ⟨by decide, by decide⟩ W h
    rw [v_mb.1, v_mb.2] at this
    exact this)
  have HC12 : Hid (∀ W a b ca cb, Below w.heap.size w W -> Th W T2 a b ca cb -> Calls Tryd.prog 19 #[.agg #[.int .i64 2, .slice a 2 ca, .slice b 2 cb], .int .i64 0, .int .i64 1] W fun e w' => ∃ a' b' ca' cb', e = .returned (.tuple #[.agg #[.int .i64 2, .slice a' 2 ca', .slice b' 2 cb'], .int .i64 0]) /\ Th w' T4 a' b' ca' cb' /\ Below W.heap.size W w') := hide (fun W a b ca cb hb h => aSettle T2 T4 0 1 0 v_st a b ca cb W h (HT.out W hb))
  have HC13 : Hid (∀ W a b ca cb, Th W T4 a b ca cb -> Calls Tryd.prog 10 #[.agg #[.int .i64 2, .slice a 2 ca, .slice b 2 cb]] W fun e w' => e = .returned (.int .i64 0) /\ Below W.heap.size W w') := hide (fun W a b ca cb h => by
    have := tCheck T4 a b ca cb W h
    rw [v_ch] at this
    exact this)
  have HC14 : Hid (∀ W a b ca cb, Th W T2 a b ca cb -> Calls Tryd.prog 20 #[.agg #[.int .i64 2, .slice a 2 ca, .slice b 2 cb], .agg #[.int .i64 2, .slice a 2 ca, .slice b 2 cb]] W fun e w' => e = .returned (.bool true) /\ Below W.heap.size W w') := hide (fun W a b ca cb h => by
    have := tSame T2 T2 a b a b ca cb ca cb W h h
    rw [v_sm] at this
    exact this)
  have hnum := tNum
  have hq := fun a b W => eql14 a b W
  clear hT
  go_enter Tryd.func6, Tryd.ntmps6
  go_wp2_with fail
  refine (HC1.out _).mono ?_
  rintro e w1 ⟨g1, g2, rfl, th1, hb1⟩
  have HV1 := hide (Va.new (w := w) hb1 th1)
  clear th1 hb1 HC1
  have es : T0.n = 2 /\ T0.s.length = 2 /\ T0.d.length = 2 := ⟨rfl, rfl, rfl⟩
  rw [es.1, es.2.1, es.2.2] at HV1
  clear es
  have hsz : ∀ o, (w1.alloc o).heap.size = w1.heap.size + 1 := fun o => World.size_alloc ..
  have HN1 := hide (ns_one (w1.alloc (.cells #[.int .i64 2, .slice (some ⟨g1, 0, none⟩) 2 2, .slice (some ⟨g2, 0, none⟩) 2 2] 24)) 0)
  rw [hsz] at HN1
  clear hsz
  have hbq := bnew (w1.alloc (.cells #[.int .i64 2, .slice (some ⟨g1, 0, none⟩) 2 2, .slice (some ⟨g2, 0, none⟩) 2 2] 24)) (.cells #[.int .i64 0] 3)
  have HV2 := hide (HV1.out.below hbq)
  clear hbq HV1
  go_wp2_with fail
  refine (HC2.out _ _ _ _ _ _ HV2.out.bw HV2.out.th HN1.out).mono ?_
  rintro e w2 ⟨a2, b2, ca2, cb2, rfl, th2, hb2⟩
  have HV3 := hide (HV2.out.below hb2)
  have HV4 : Hid (Va w (w2.setRow w1.heap.size #[.int .i64 2, .slice a2 2 ca2, .slice b2 2 cb2]) w1.heap.size T1 a2 b2 ca2 cb2) := hide (Va.row HV3.out th2)
  have hR : w2.heap[w1.heap.size]? = some (.cells #[.int .i64 2, .slice (some ⟨g1, 0, none⟩) 2 2, .slice (some ⟨g2, 0, none⟩) 2 2] 24 (0, 0)) := HV3.out.bx
  have hX : At3 (w2.setRow w1.heap.size #[.int .i64 2, .slice a2 2 ca2, .slice b2 2 cb2]) w1.heap.size (.int .i64 2) (.slice a2 2 ca2) (.slice b2 2 cb2) := HV4.out.bx
  obtain ⟨x0, x1, x2, x3⟩ := hX.cells
  clear hb2 th2 HV2 HV3 hX HN1 HC2
  go_wp2_with (first
    | (refine wpList_store_row rfl _ _ _ rfl w1.heap.size _ rfl rfl _ _ hR (by exact infoT) (by rfl) (all3 _ _ _ _ _ _ _) ?_))
  have hs2 : (w2.setRow w1.heap.size #[.int .i64 2, .slice a2 2 ca2, .slice b2 2 cb2]).heap.size = w2.heap.size := by simp [World.setRow]
  have HN2 := hide (ns_two (w2.setRow w1.heap.size #[.int .i64 2, .slice a2 2 ca2, .slice b2 2 cb2]) 0 1)
  rw [hs2] at HN2
  clear hs2 hR x0 x1 x2 x3
  generalize w2.setRow w1.heap.size #[.int .i64 2, .slice a2 2 ca2, .slice b2 2 cb2] = W3 at *
  generalize w1.heap.size = gt at *
  generalize w2.heap.size = gq at *
  have HV5 := hide (HV4.out.below (bnew W3 (.cells #[.int .i64 0, .int .i64 1] 3)))
  refine (HC3.out _ _ _ _ _ _ HV5.out.bw HV5.out.th HN2.out).mono ?_
  rintro e w4 ⟨a, b, ca, cb, rfl, th4, hb4⟩
  have HV6 := hide (HV5.out.below hb4)
  have HV7 : Hid (Va w (w4.setRow gt #[.int .i64 2, .slice a 2 ca, .slice b 2 cb]) gt T2 a b ca cb) := hide (Va.row HV6.out th4)
  have hR : w4.heap[gt]? = some (.cells #[.int .i64 2, .slice a2 2 ca2, .slice b2 2 cb2] 24 (0, 0)) := HV6.out.bx
  have hX : At3 (w4.setRow gt #[.int .i64 2, .slice a 2 ca, .slice b 2 cb]) gt (.int .i64 2) (.slice a 2 ca) (.slice b 2 cb) := HV7.out.bx
  obtain ⟨x0, x1, x2, x3⟩ := hX.cells
  clear hb4 th4 HV4 HV5 HV6 hX HN2 HC3
  go_wp2_with (first
    | (refine wpList_store_row rfl _ _ _ rfl gt _ rfl rfl _ _ hR (by exact infoT) (by rfl) (all3 _ _ _ _ _ _ _) ?_))
  clear hR x0 x1 x2 x3
  generalize w4.setRow gt #[.int .i64 2, .slice a 2 ca, .slice b 2 cb] = W5 at *
  refine (HC4.out _ _ _ _ _ HV7.out.th).mono ?_
  rintro e w5 ⟨rfl, hb5⟩
  have HV8 := hide (HV7.out.below hb5)
  have hX : At3 w5 gt (.int .i64 2) (.slice a 2 ca) (.slice b 2 cb) := HV8.out.bx
  obtain ⟨x0, x1, x2, x3⟩ := hX.cells
  clear hb5 HV7 HC4 hX
  go_wp2_with fail
  refine (HC5.out _ _ _ _ _ HV8.out.th).mono ?_
  rintro e w6 ⟨a3, b3, ca3, cb3, rfl, th6, hb6⟩
  have HV9 := hide ((HV8.out.below hb6).below (bnew w6 (.cells #[.int .i64 2, .slice a3 2 ca3, .slice b3 2 cb3] 24)))
  have HU1 : Hid (Va w (w6.alloc (.cells #[.int .i64 2, .slice a3 2 ca3, .slice b3 2 cb3] 24)) w6.heap.size T3 a3 b3 ca3 cb3) := hide (Va.new (bkp HV8.out.bw hb6) th6)
  clear hb6 th6 HV8 HC5 x0 x1 x2 x3
  go_wp2_with fail
  generalize w6.alloc (.cells #[.int .i64 2, .slice a3 2 ca3, .slice b3 2 cb3] 24) = W7 at *
  generalize w6.heap.size = g7 at *
  refine (HC6.out _ _ _ _ _ HU1.out.th).mono ?_
  rintro e w8 ⟨rfl, hb8⟩
  have HV10 := hide (HV9.out.below hb8)
  have HU2 := hide (HU1.out.below hb8)
  have hY : At3 w8 g7 (.int .i64 2) (.slice a3 2 ca3) (.slice b3 2 cb3) := HU2.out.bx
  obtain ⟨y0, y1, y2, y3⟩ := hY.cells
  clear hb8 HV9 HU1 HC6 hY
  go_wp2_with fail
  refine (HC7.out _ _ _ _ _ HU2.out.th).mono ?_
  rintro e w9 ⟨a', b', ca', cb', rfl, -, hb9⟩
  have HV11 := hide ((HV10.out.below hb9).below (bnew w9 (.cells #[.int .i64 0, .slice a' 0 ca', .slice b' 0 cb'] 24)))
  have HU3 := hide ((HU2.out.below hb9).below (bnew w9 (.cells #[.int .i64 0, .slice a' 0 ca', .slice b' 0 cb'] 24)))
  have hX : At3 (w9.alloc (.cells #[.int .i64 0, .slice a' 0 ca', .slice b' 0 cb'] 24)) gt (.int .i64 2) (.slice a 2 ca) (.slice b 2 cb) := HV11.out.bx
  obtain ⟨x0, x1, x2, x3⟩ := hX.cells
  clear hb9 HV10 HU2 HC7 hX y0 y1 y2 y3
  go_wp2_with fail
  clear x0 x1 x2 x3
  generalize w9.alloc (.cells #[.int .i64 0, .slice a' 0 ca', .slice b' 0 cb'] 24) = W9 at *
  generalize w9.heap.size = g11 at *
  refine (HC8.out _ _ _ _ _ HV11.out.th).mono ?_
  rintro e w10 ⟨gl, cl, rfl, po10, hb10⟩
  have HV12 := hide (HV11.out.below hb10)
  have HU4 := hide (HU3.out.below hb10)
  have HL1 := hide po10
  have hX : At3 w10 gt (.int .i64 2) (.slice a 2 ca) (.slice b 2 cb) := HV12.out.bx
  obtain ⟨x0, x1, x2, x3⟩ := hX.cells
  clear hb10 po10 HV11 HU3 HC8 hX
  have HN3 := hide (ns_one w10 0)
  have hbq := bnew w10 (.cells #[.int .i64 0] 3)
  have HV13 := hide (HV12.out.below hbq)
  have HU5 := hide (HU4.out.below hbq)
  have HL2 := hide (HL1.out.below hbq)
  clear hbq HV12 HU4 HL1
  go_wp2_with fail
  clear x0 x1 x2 x3
  refine (HC9.out _ _ _ _ _ _ HV13.out.th HN3.out).mono ?_
  rintro e w11 ⟨rfl, hb11⟩
  have HV14 := hide (HV13.out.below hb11)
  have HU6 := hide (HU5.out.below hb11)
  have HL3 := hide (HL2.out.below hb11)
  have hX : At3 w11 gt (.int .i64 2) (.slice a 2 ca) (.slice b 2 cb) := HV14.out.bx
  obtain ⟨x0, x1, x2, x3⟩ := hX.cells
  clear hb11 HV13 HU5 HL2 HC9 hX HN3
  go_wp2_with fail
  clear x0 x1 x2 x3
  refine (HC10.out _ _ _ _ _ HV14.out.th).mono ?_
  rintro e w12 ⟨rfl, hb12⟩
  have HV15 := hide (HV14.out.below hb12)
  have HU7 := hide (HU6.out.below hb12)
  have HL4 := hide (HL3.out.below hb12)
  have hX : At3 w12 gt (.int .i64 2) (.slice a 2 ca) (.slice b 2 cb) := HV15.out.bx
  obtain ⟨x0, x1, x2, x3⟩ := hX.cells
  have hY : At3 w12 g7 (.int .i64 2) (.slice a3 2 ca3) (.slice b3 2 cb3) := HU7.out.bx
  obtain ⟨y0, y1, y2, y3⟩ := hY.cells
  clear hb12 HV14 HU6 HL3 HC10 hX hY
  have HN4 := hide (ns_three w12 0 1 2)
  have hbq := bnew w12 (.cells #[.int .i64 0, .int .i64 1, .int .i64 2] 3)
  have HV16 := hide (HV15.out.below hbq)
  have HU8 := hide (HU7.out.below hbq)
  have HL5 := hide (HL4.out.below hbq)
  clear hbq HV15 HU7 HL4
  go_wp2_with (first | (go_at_call 5; refine (hnum _ _).mono ?_; rintro e wn ⟨rfl, hw⟩; obtain rfl := hw.symm))
  clear x0 x1 x2 x3 y0 y1 y2 y3
  refine (HC11.out _ _ _ _ _ _ HV16.out.bw HV16.out.th HN4.out).mono ?_
  rintro e w13 ⟨a', b', ca', cb', rfl, -, hb13⟩
  have HV17 := hide ((HV16.out.below hb13).below (bnew w13 (.cells #[.int .i64 0, .slice a' 0 ca', .slice b' 0 cb'] 24)))
  have HU9 := hide ((HU8.out.below hb13).below (bnew w13 (.cells #[.int .i64 0, .slice a' 0 ca', .slice b' 0 cb'] 24)))
  have HL6 := hide ((HL5.out.below hb13).below (bnew w13 (.cells #[.int .i64 0, .slice a' 0 ca', .slice b' 0 cb'] 24)))
  have hX : At3 (w13.alloc (.cells #[.int .i64 0, .slice a' 0 ca', .slice b' 0 cb'] 24)) gt (.int .i64 2) (.slice a 2 ca) (.slice b 2 cb) := HV17.out.bx
  obtain ⟨x0, x1, x2, x3⟩ := hX.cells
  clear hb13 HV16 HU8 HL5 HC11 hX HN4
  go_wp2_with fail
  clear x0 x1 x2 x3
  generalize w13.alloc (.cells #[.int .i64 0, .slice a' 0 ca', .slice b' 0 cb'] 24) = W13 at *
  generalize w13.heap.size = g19 at *
  refine (HC12.out _ _ _ _ _ HV17.out.bw HV17.out.th).mono ?_
  rintro e w14 ⟨a4, b4, ca4, cb4, rfl, th14, hb14⟩
  have hbq := bnew w14 (.cells #[.int .i64 2, .slice a4 2 ca4, .slice b4 2 cb4] 24)
  have HV18 := hide ((HV17.out.below hb14).below hbq)
  have HU10 := hide ((HU9.out.below hb14).below hbq)
  have HL7 := hide ((HL6.out.below hb14).below hbq)
  have HS1 : Hid (Va w (w14.alloc (.cells #[.int .i64 2, .slice a4 2 ca4, .slice b4 2 cb4] 24)) w14.heap.size T4 a4 b4 ca4 cb4) := hide (Va.new (bkp HV17.out.bw hb14) th14)
  clear hb14 th14 hbq HV17 HU9 HL6 HC12
  have hX : At3 (w14.alloc (.cells #[.int .i64 2, .slice a4 2 ca4, .slice b4 2 cb4] 24)) g7 (.int .i64 2) (.slice a3 2 ca3) (.slice b3 2 cb3) := HU10.out.bx
  obtain ⟨y0, y1, y2, y3⟩ := hX.cells
  obtain ⟨m0, m1, m2, m3⟩ := HL7.out.at (i := 0) rfl
  obtain ⟨n0, n1, n2, n3⟩ := HL7.out.at (i := 1) rfl
  have hml := HL7.out.lt
  obtain ⟨gu, ou, rfl, hgu, ⟨k0, k1, k2, k3⟩⟩ := HU10.out.th.s.at (i := 0) (p := ⟨2, 0, 1, 2⟩) rfl
  simp only [Nat.zero_mul, Nat.one_mul, Nat.add_zero, Nat.zero_add] at m0 m1 m2 m3 n0 n1 n2 n3 k0 k1 k2 k3
  have q1 := fun W => hq ⟨2, 3, 0, 0⟩ ⟨2, 3, 0, 0⟩ W
  have q2 := fun W => hq ⟨2, 0, 3, 0⟩ ⟨2, 0, 3, 0⟩ W
  have q3 := fun W => hq ⟨2, 0, 1, 2⟩ ⟨2, 0, 1, 2⟩ W
  simp only [decide_true] at q1 q2 q3
  clear hq hX
  go_wp2_with (first | (go_at_call 5; refine (hnum _ _).mono ?_; rintro e wn ⟨rfl, hw⟩; obtain rfl := hw.symm))
  refine (HC13.out _ _ _ _ _ HS1.out.th).mono ?_
  rintro e w15 ⟨rfl, hb15⟩
  have HV19 := hide (HV18.out.below hb15)
  have hX : At3 w15 gt (.int .i64 2) (.slice a 2 ca) (.slice b 2 cb) := HV19.out.bx
  obtain ⟨x0, x1, x2, x3⟩ := hX.cells
  clear hb15 HV18 HU10 HL7 HS1 HC13 hX m0 m1 m2 m3 n0 n1 n2 n3 k0 k1 k2 k3 y0 y1 y2 y3 hml hgu
  go_wp2_with (first | (go_at_call 5; refine (hnum _ _).mono ?_; rintro e wn ⟨rfl, hw⟩; obtain rfl := hw.symm))
  refine (HC14.out _ _ _ _ _ HV19.out.th).mono ?_
  rintro e w16 ⟨rfl, hb16⟩
  have HF := hide (bkp HV19.out.bw hb16)
  clear hb16 HV19 HC14 x0 x1 x2 x3
  go_wp2_with fail
  go_ret
  exact ⟨rfl, HF.out⟩
end Go.Proofs.YtpehekonjdneaaaDoor.Tbl
