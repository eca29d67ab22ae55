import Derived.Test.YtpehekonjdneaaaGreatDoorKe5d4ee75
set_option maxRecDepth 100000
set_option maxHeartbeats 8000000
namespace Go.Proofs.YtpehekonjdneaaaGreatDoor.Tbl
open Go.RowKit Go.Shelf Go.Proofs.YtpehekonjdneaaaGreatDoor.Pau Go.Proofs.YtpehekonjdneaaaGreatDoor.Gt
structure Pw (w V : World) (gt gd : Nat) (t : TT) (a b a2 b2 : Option Addr) (ca cb ca2 cb2 : Nat) (p0 p1 p2 p3 : Value) : Prop where
  bp : At4 V w.heap.size p0 p1 p2 p3
  bt : At3 V gt (.int .i64 t.n) (.slice a t.s.length ca) (.slice b t.d.length cb)
  bd : At3 V gd (.int .i64 t.n) (.slice a2 t.s.length ca2) (.slice b2 t.d.length cb2)
  th : Th V t a b ca cb
  td : Th V t a2 b2 ca2 cb2
  sm : Sm t
  bw : Below w.heap.size w V
theorem Pw.keep {w V V' : World} {gt gd : Nat} {t : TT} {a b a2 b2 : Option Addr} {ca cb ca2 cb2 : Nat} {p0 p1 p2 p3 : Value} (h : Pw w V gt gd t a b a2 b2 ca cb ca2 cb2 p0 p1 p2 p3) (hb : Below V.heap.size V V') : Pw w V' gt gd t a b a2 b2 ca cb ca2 cb2 p0 p1 p2 p3 :=
  ⟨h.bp.below hb, h.bt.below hb, h.bd.below hb, h.th.below hb, h.td.below hb, h.sm, bkp h.bw hb⟩
theorem Pw.put {w V : World} {gt gd : Nat} {t : TT} {a b a2 b2 : Option Addr} {ca cb ca2 cb2 : Nat} {p0 p1 p2 p3 : Value} (h : Pw w V gt gd t a b a2 b2 ca cb ca2 cb2 p0 p1 p2 p3) (hg : w.heap.size < gt) (hgd : gt < gd)
    {R : TT} {xa xb ya yb : Option Addr} {xca xcb yca ycb : Nat} (hx : Th V R xa xb xca xcb) (hy : Th V R ya yb yca ycb) (hR : Sm R) :
    Pw w ((((((V.setCell ⟨gt, 0, none⟩ (.int .i64 R.n)).setCell ⟨gt, 1, none⟩ (.slice xa R.s.length xca)).setCell ⟨gt, 2, none⟩ (.slice xb R.d.length xcb)).setCell ⟨gd, 0, none⟩ (.int .i64 R.n)).setCell ⟨gd, 1, none⟩ (.slice ya R.s.length yca)).setCell ⟨gd, 2, none⟩ (.slice yb R.d.length ycb)) gt gd R xa xb ya yb xca xcb yca ycb p0 p1 p2 p3 /\
    (∀ k, k ≠ gt -> k ≠ gd -> ((((((V.setCell ⟨gt, 0, none⟩ (.int .i64 R.n)).setCell ⟨gt, 1, none⟩ (.slice xa R.s.length xca)).setCell ⟨gt, 2, none⟩ (.slice xb R.d.length xcb)).setCell ⟨gd, 0, none⟩ (.int .i64 R.n)).setCell ⟨gd, 1, none⟩ (.slice ya R.s.length yca)).setCell ⟨gd, 2, none⟩ (.slice yb R.d.length ycb)).heap[k]? = V.heap[k]?) /\
    ∀ (X : TT) (a b : Option Addr) (ca cb : Nat), Th V X a b ca cb -> Th ((((((V.setCell ⟨gt, 0, none⟩ (.int .i64 R.n)).setCell ⟨gt, 1, none⟩ (.slice xa R.s.length xca)).setCell ⟨gt, 2, none⟩ (.slice xb R.d.length xcb)).setCell ⟨gd, 0, none⟩ (.int .i64 R.n)).setCell ⟨gd, 1, none⟩ (.slice ya R.s.length yca)).setCell ⟨gd, 2, none⟩ (.slice yb R.d.length ycb)) X a b ca cb := by
  have h1 := h.bt
  have h2 : At3 (V.setRow gt #[.int .i64 R.n, .slice xa R.s.length xca, .slice xb R.d.length xcb]) gd (.int .i64 t.n) (.slice a2 t.s.length ca2) (.slice b2 t.d.length cb2) := (setRow_other _ _ _ _ (by omega)).trans h.bd
  have h1' := h1
  have h2' := h2
  unfold At3 at h1' h2'
  rw [c3_setD V _ _ _ _ _ _ _ _ h1', c3_setD _ _ _ _ _ _ _ _ _ h2']
  refine ⟨⟨(setRow_other _ _ _ _ (by omega)).trans ((setRow_other _ _ _ _ (by omega)).trans h.bp), ?_, ?_, (hx.row h1 _).row h2 _, (hy.row h1 _).row h2 _, hR, below_setRow (below_setRow h.bw (by omega) _) (by omega) _⟩, fun k k1 k2 => (setRow_other _ _ _ _ k2).trans (setRow_other _ _ _ _ k1), fun X a b ca cb hX => (hX.row h1 _).row h2 _⟩
  . exact (setRow_other _ _ _ _ (by omega)).trans (setRow_heap _ _ _ _ _ _ h1')
  . exact setRow_heap _ _ _ _ _ _ h2'
theorem xTableauPlays (n : Int) (acts : List AC) (hal : acts.length <= 1000000000000000) (ao : Option Addr) (c : Nat) (p : P) (hp : Wd p) (m : List Int) (hm : m.length <= 1000000000000000) (so : Option Addr) (sc : Nat) (w : World) (hT : Tg w) (hA : AIn w ao acts) (hM : Ns w so m) :
    Calls Tryz.prog 3 #[.int .i64 n, .slice ao acts.length c, pV p, .slice so m.length sc] w fun e w' => e = .returned (.bool true) /\ Below w.heap.size w w' := by
  have HN1 := hide (fun W => tNewR n W)
  have HN2 := hide (fun W => dNewR n W)
  have HSU := hide (sm_nw n)
  have HCP := hide (fun (t : TT) a b ca cb W (hs : Sm t) (hb : Th W t a b ca cb) => dCopy t a b ca cb (Nat.le_trans hs.1 (by decide)) (Nat.le_trans hs.2 (by decide)) W hb)
  have HTA : Hid (∀ (t : TT) W B a b ca cb a' b' ca' cb', Th W t a b ca cb -> Tn W B t a' b' ca' cb' -> Th W t a' b' ca' cb') := hide (fun t W B a b ca cb a' b' ca' cb' h hh => hh.th h.ws h.wd h.na h.nb)
  have HDN := hide (fun (t : TT) a b ca cb a2 b2 ca2 cb2 (x : AC) lo lc W (hb : Below w.heap.size w W) (hl : x.l.length <= 1000000000000000) (hlc : x.l.length <= lc) (h : Th W t a b ca cb) (h2 : Th W t a2 b2 ca2 cb2) (hN : Ns W lo x.l) => jDone t a b a2 b2 ca cb ca2 cb2 x.k x.g x.v x.l hl lo lc hlc W h h2 (hT.below hb) hN)
  have HAK := hide (fun (t : TT) W x y cx cy x2 y2 cx2 cy2 (h1 : Th W t x y cx cy) (h2 : Th W t x2 y2 cx2 cy2) => dAlike t t x y x2 y2 cx cy cx2 cy2 W h1 h2)
  have HTE := hide (fun (t : TT) W a b ca cb a2 b2 ca2 cb2 (hb : Below w.heap.size w W) (h1 : Th W t a b ca cb) (h2 : Th W t a2 b2 ca2 cb2) => jTells t a b a2 b2 ca cb ca2 cb2 p hp m hm so sc W h1 h2 (hM.below hb))
  have HAL := hide (fun W (hb : Below w.heap.size w W) => tAlive W (hT.below hb))
  have hnum := tNum
  simp only [decide_true] at HAK
  have HAI : Hid (∀ V, Below w.heap.size w V -> ∀ i, i < acts.length -> ∃ g off, ao = some ⟨g, off, none⟩ /\ Ac1 V g (off + i * 4) (acts.getD i oA)) := hide (fun V hb i hi => by
    rcases hA.below hb with e | ⟨g, off, e, hh⟩
    . rw [e] at hi; simp at hi
    . exact ⟨g, off, e, hh i _ (aget_of hi)⟩)
  have HP0 := hide (At4.new w (.int .i64 p.n) (.int .u64 (p.x : Int)) (.int .u64 (p.z : Int)) (.int .i64 p.ph))
  have HB0 := hide (bnew w (.cells #[.int .i64 p.n, .int .u64 (p.x : Int), .int .u64 (p.z : Int), .int .i64 p.ph] 25))
  clear hA hM hT hm hp
  generalize nwR n = nw at *
  obtain ⟨U, uc⟩ := nw
  obtain ⟨pn, px, pz, pph⟩ := p
  unfold pV at HTE ⊢
  unfold tV at HN1 HN2 HCP HDN HAK HTE
  simp only at *
  obtain ⟨na, hna⟩ : ∃ k, acts.length = k := ⟨_, rfl⟩
  rw [hna] at HAI hal ⊢
  clear hna
  generalize m.length = nm at *
  have huu : (uc != uc) = false := by simp
  go_enter Tryz.func3, Tryz.ntmps3
  go_wp2_with fail
  refine (HN1.out _).mono ?_
  rintro e w1 ⟨a1, b1, ca1, cb1, rfl, ht1, hb1⟩
  have hbn := bnew w1 (.cells #[.int .i64 U.n, .slice a1 U.s.length ca1, .slice b1 U.d.length cb1] 29)
  have HP1 := hide ((HP0.out.below hb1).below hbn)
  have HB1 := hide (bkp (bkp HB0.out hb1) hbn)
  have HT1 := hide (And.intro (At3.new w1 (.int .i64 U.n) (.slice a1 U.s.length ca1) (.slice b1 U.d.length cb1)) (ht1.below hbn))
  have HG1 : Hid (w.heap.size < w1.heap.size) := hide (by have := hb1.size; simp at this; omega)
  clear ht1 hb1 hbn HP0 HB0
  go_upto_region 2 with fail
  generalize w1.alloc (.cells #[.int .i64 U.n, .slice a1 U.s.length ca1, .slice b1 U.d.length cb1] 29) = W1 at *
  generalize w1.heap.size = gt at *
  go_wp2_with fail
  refine (HN2.out _).mono ?_
  rintro e w2 ⟨a2, b2, ca2, cb2, rfl, ht2, hb2⟩
  have hbn := bnew w2 (.cells #[.int .i64 U.n, .slice a2 U.s.length ca2, .slice b2 U.d.length cb2] 29)
  have HPW : Hid (Pw w (w2.alloc (.cells #[.int .i64 U.n, .slice a2 U.s.length ca2, .slice b2 U.d.length cb2] 29)) gt w2.heap.size U a1 b1 a2 b2 ca1 cb1 ca2 cb2 (.int .i64 pn) (.int .u64 (px : Int)) (.int .u64 (pz : Int)) (.int .i64 pph)) := hide ⟨(HP1.out.below hb2).below hbn, (HT1.out.1.below hb2).below hbn, At3.new _ _ _ _, (HT1.out.2.below hb2).below hbn, ht2.below hbn, HSU.out, bkp (bkp HB1.out hb2) hbn⟩
  have HG2 : Hid (gt < w2.heap.size) := hide (HT1.out.1.below hb2).lt
  clear ht2 hb2 hbn HP1 HB1 HT1
  go_upto_region 3 with fail
  generalize w2.alloc (.cells #[.int .i64 U.n, .slice a2 U.s.length ca2, .slice b2 U.d.length cb2] 29) = W2 at *
  generalize w2.heap.size = gd at *
  go_wp2_with (first
    | (go_at_call 7; (with_reducible refine Calls.mono (hnum _ _) ?_); rintro e w3 ⟨rfl, rfl⟩))
  have HI0 : Hid (∃ (t : TT) (a b a2 b2 : Option Addr) (ca cb ca2 cb2 : Nat), Pw w w3 gt gd t a b a2 b2 ca cb ca2 cb2 (.int .i64 pn) (.int .u64 (px : Int)) (.int .u64 (pz : Int)) (.int .i64 pph)) := hide ⟨_, _, _, _, _, _, _, _, _, HPW.out⟩
  clear HPW
  go_loopw [13] (fun vi wr => ∃ i : Nat, vi = .int .i64 (i : Int) /\ i <= na /\ Hid (∃ (t : TT) (a b a2 b2 : Option Addr) (ca cb ca2 cb2 : Nat), Pw w wr gt gd t a b a2 b2 ca cb ca2 cb2 (.int .i64 pn) (.int .u64 (px : Int)) (.int .u64 (pz : Int)) (.int .i64 pph))) (fun vi _ => na - (Go.RowKit.intOf vi).toNat)
  case atStart => exact ⟨0, rfl, Nat.zero_le _, HI0⟩
  case round =>
    obtain ⟨i, rfl, hi, HJ⟩ := hrel
    clear HI0
    obtain ⟨t, a, b, a2', b2', ca, cb, ca2', cb2', hpw⟩ := HJ.out
    have HPW := hide hpw
    clear hpw HJ
    by_cases hlt : i < na /\ uc = 0
    . have hd : decide ((i : Int) < (na : Int)) = true := decide_eq_true (by omega)
      have hu0 : (uc == 0) = true := by rw [hlt.2]; rfl
      have hi1 := hlt.1
      clear hlt
      obtain ⟨x0, x1, x2, x3⟩ := HPW.out.bt.cells
      go_wp2_with fail
      refine (HCP.out t a b ca cb _ HPW.out.sm HPW.out.th).mono ?_
      rintro e w4 ⟨a4, b4, ca4, cb4, rfl, ht4, hb4⟩
      have hbn := bnew w4 (.cells #[.int .i64 t.n, .slice a4 t.s.length ca4, .slice b4 t.d.length cb4] 29)
      have hp4 := HPW.out.keep hb4
      have HK4 := hide (HTA.out t _ _ a b ca cb _ _ _ _ hp4.th ht4)
      have HP4 := hide (hp4.keep hbn)
      have HK5 := hide (And.intro (At3.new w4 (.int .i64 t.n) (.slice a4 t.s.length ca4) (.slice b4 t.d.length cb4)) (HK4.out.below hbn))
      have HG4 : Hid (gt < w4.heap.size /\ gd < w4.heap.size) := hide ⟨hp4.bt.lt, hp4.bd.lt⟩
      clear ht4 hb4 hbn hp4 HK4 HPW x0 x1 x2 x3
      go_upto_region 10 with fail
      generalize w4.alloc (.cells #[.int .i64 t.n, .slice a4 t.s.length ca4, .slice b4 t.d.length cb4] 29) = V4 at *
      generalize w4.heap.size = gk at *
      obtain ⟨x0, x1, x2, x3⟩ := HP4.out.bt.cells
      have hbn := bnew V4 (.cells #[.int .i64 t.n, .slice a t.s.length ca, .slice b t.d.length cb] 29)
      have HP5 := hide (HP4.out.keep hbn)
      have HK6 := hide (And.intro (HK5.out.1.below hbn) (HK5.out.2.below hbn))
      have HW6 := hide (At3.new V4 (.int .i64 t.n) (.slice a t.s.length ca) (.slice b t.d.length cb))
      have HG5 : Hid (gt < V4.heap.size /\ gd < V4.heap.size) := hide ⟨HP4.out.bt.lt, HP4.out.bd.lt⟩
      clear hbn
      go_upto_region 11 with fail
      clear x0 x1 x2 x3 HP4 HK5
      generalize V4.alloc (.cells #[.int .i64 t.n, .slice a t.s.length ca, .slice b t.d.length cb] 29) = V5 at *
      generalize V4.heap.size = gw at *
      obtain ⟨ga, oa, rfl, lo, lc, ⟨c0, c1, c2, c3⟩, hNs, hlc, hll⟩ := HAI.out _ HP5.out.bw i hi1
      have hga : ga < V5.heap.size := World.block_lt_of_cell? _ _ c0
      have HDX := hide (fun W (hb : Below V5.heap.size V5 W) => HDN.out t a b ca cb a2' b2' ca2' cb2' (acts.getD i oA) lo lc W (HP5.out.keep hb).bw hll hlc (HP5.out.keep hb).th (HP5.out.keep hb).td (hNs.below hb))
      have HSR := hide (sm_dn HP5.out.sm (acts.getD i oA).k (acts.getD i oA).g (acts.getD i oA).l (acts.getD i oA).v)
      clear hNs hlc hll
      generalize dnT t (acts.getD i oA).k (acts.getD i oA).g (acts.getD i oA).l (acts.getD i oA).v = R at *
      generalize (acts.getD i oA).l.length = xl at *
      generalize (acts.getD i oA).k = xk at *
      generalize (acts.getD i oA).g = xg at *
      generalize (acts.getD i oA).v = xv at *
      have HD0 : Hid (Below V5.heap.size V5 V5.drew) := hide (Below.refl _ _).drew
      obtain ⟨x0, x1, x2, x3⟩ := HP5.out.bt.cells
      obtain ⟨y0, y1, y2, y3⟩ := HP5.out.bd.cells
      have n1 : ¬ gt = gd := by have := HG2.out; omega
      have n2 : ¬ gd = gt := by have := HG2.out; omega
      go_cut [14] from 31 to 70 (fun s14 wq => s14 = .bool true /\ Hid (∃ (xa xb ya yb : Option Addr) (xca xcb yca ycb : Nat), Pw w wq gt gd R xa xb ya yb xca xcb yca ycb (.int .i64 pn) (.int .u64 (px : Int)) (.int .u64 (pz : Int)) (.int .i64 pph) /\ (At3 wq gk (.int .i64 t.n) (.slice a4 t.s.length ca4) (.slice b4 t.d.length cb4) /\ At3 wq gw (.int .i64 t.n) (.slice a t.s.length ca) (.slice b t.d.length cb)) /\ Th wq t a4 b4 ca4 cb4 /\ Th wq t a b ca cb))
      case first =>
        go_region_with (first
          | (go_at_call 9; (with_reducible refine Calls.mono (HDX.out _ HD0.out) ?_); rintro e w6 ⟨xa, xb, xca, xcb, ya, yb, yca, ycb, rfl, ⟨hx6, hy6⟩, hb6⟩; have hp6 := HP5.out.keep (bkp HD0.out hb6); obtain ⟨s0, s1, s2, s3⟩ := hp6.bt.cells; obtain ⟨r0, r1, r2, r3⟩ := hp6.bd.cells; have sf := hp6.bt.fz; have rf := hp6.bd.fz))
        all_goals (
          have HX : Hid (∃ (xa' xb' ya' yb' : Option Addr) (xca' xcb' yca' ycb' : Nat), Pw w ((((((w6.setCell ⟨gt, 0, none⟩ (.int .i64 R.n)).setCell ⟨gt, 1, none⟩ (.slice xa R.s.length xca)).setCell ⟨gt, 2, none⟩ (.slice xb R.d.length xcb)).setCell ⟨gd, 0, none⟩ (.int .i64 R.n)).setCell ⟨gd, 1, none⟩ (.slice ya R.s.length yca)).setCell ⟨gd, 2, none⟩ (.slice yb R.d.length ycb)) gt gd R xa' xb' ya' yb' xca' xcb' yca' ycb' (.int .i64 pn) (.int .u64 (px : Int)) (.int .u64 (pz : Int)) (.int .i64 pph) /\ (At3 ((((((w6.setCell ⟨gt, 0, none⟩ (.int .i64 R.n)).setCell ⟨gt, 1, none⟩ (.slice xa R.s.length xca)).setCell ⟨gt, 2, none⟩ (.slice xb R.d.length xcb)).setCell ⟨gd, 0, none⟩ (.int .i64 R.n)).setCell ⟨gd, 1, none⟩ (.slice ya R.s.length yca)).setCell ⟨gd, 2, none⟩ (.slice yb R.d.length ycb)) gk (.int .i64 t.n) (.slice a4 t.s.length ca4) (.slice b4 t.d.length cb4) /\ At3 ((((((w6.setCell ⟨gt, 0, none⟩ (.int .i64 R.n)).setCell ⟨gt, 1, none⟩ (.slice xa R.s.length xca)).setCell ⟨gt, 2, none⟩ (.slice xb R.d.length xcb)).setCell ⟨gd, 0, none⟩ (.int .i64 R.n)).setCell ⟨gd, 1, none⟩ (.slice ya R.s.length yca)).setCell ⟨gd, 2, none⟩ (.slice yb R.d.length ycb)) gw (.int .i64 t.n) (.slice a t.s.length ca) (.slice b t.d.length cb)) /\ Th ((((((w6.setCell ⟨gt, 0, none⟩ (.int .i64 R.n)).setCell ⟨gt, 1, none⟩ (.slice xa R.s.length xca)).setCell ⟨gt, 2, none⟩ (.slice xb R.d.length xcb)).setCell ⟨gd, 0, none⟩ (.int .i64 R.n)).setCell ⟨gd, 1, none⟩ (.slice ya R.s.length yca)).setCell ⟨gd, 2, none⟩ (.slice yb R.d.length ycb)) t a4 b4 ca4 cb4 /\ Th ((((((w6.setCell ⟨gt, 0, none⟩ (.int .i64 R.n)).setCell ⟨gt, 1, none⟩ (.slice xa R.s.length xca)).setCell ⟨gt, 2, none⟩ (.slice xb R.d.length xcb)).setCell ⟨gd, 0, none⟩ (.int .i64 R.n)).setCell ⟨gd, 1, none⟩ (.slice ya R.s.length yca)).setCell ⟨gd, 2, none⟩ (.slice yb R.d.length ycb)) t a b ca cb) := hide (by
            obtain ⟨u1, u2, u3⟩ := hp6.put HG1.out HG2.out hx6 hy6 HSR.out
            have hbb := bkp HD0.out hb6
            have k1 := HG4.out
            have k2 := HG5.out
            exact ⟨_, _, _, _, _, _, _, _, u1, ⟨(u2 gk (by omega) (by omega)).trans (HK6.out.1.below hbb), (u2 gw (by omega) (by omega)).trans (HW6.out.below hbb)⟩, u3 _ _ _ _ _ (HK6.out.2.below hbb), u3 _ _ _ _ _ hp6.th⟩)
          go_wp2_with fail
          go_meet
          case rel => exact ⟨rfl, HX⟩)
      case rest =>
        obtain ⟨rfl, HX⟩ := hcut
        clear HDX HD0 c0 c1 c2 c3 hga x0 x1 x2 x3 y0 y1 y2 y3 n1 n2 HP5 HK6 HW6 HG4 HG5 HSR
        obtain ⟨xa, xb, ya, yb, xca, xcb, yca, ycb, hpw, ⟨hk, hw⟩, hTk, hTw⟩ := HX.out
        have HP7 := hide hpw
        have HT7 := hide (And.intro hTw hTk)
        clear hpw hTk hTw HX
        obtain ⟨x0, x1, x2, x3⟩ := hk.cells
        obtain ⟨y0, y1, y2, y3⟩ := hw.cells
        clear hk hw
        go_wp2_with fail
        refine (HAK.out t _ _ _ _ _ _ _ _ _ HT7.out.1 HT7.out.2).mono ?_
        rintro e w8 ⟨rfl, hb8⟩
        have HP8 := hide (HP7.out.keep hb8)
        clear hb8 HP7 HT7 x0 x1 x2 x3 y0 y1 y2 y3
        obtain ⟨x0, x1, x2, x3⟩ := HP8.out.bt.cells
        obtain ⟨y0, y1, y2, y3⟩ := HP8.out.bd.cells
        obtain ⟨z0, z1, z2, z3, z4⟩ := HP8.out.bp.cells
        go_wp2_with fail
        refine (HTE.out R _ _ _ _ _ _ _ _ _ HP8.out.bw HP8.out.th HP8.out.td).mono ?_
        rintro e w9 ⟨rfl, hb9⟩
        have HEN : Hid (∃ (t : TT) (a b a2 b2 : Option Addr) (ca cb ca2 cb2 : Nat), Pw w w9 gt gd t a b a2 b2 ca cb ca2 cb2 (.int .i64 pn) (.int .u64 (px : Int)) (.int .u64 (pz : Int)) (.int .i64 pph)) := hide ⟨_, _, _, _, _, _, _, _, _, HP8.out.keep hb9⟩
        clear hb9 HP8 x0 x1 x2 x3 y0 y1 y2 y3 z0 z1 z2 z3 z4
        go_wp2_with fail
        go_roundw
        case rel => first | exact ⟨i + 1, by go_num, by omega, HEN⟩ | ((repeat apply Exists.intro); exact ⟨⟨i + 1, by go_num, by omega, HEN⟩, rfl⟩)
        case measure => simp [Go.RowKit.intOf]; omega
    . have HBX := hide HPW.out.bw
      clear HPW
      by_cases h1 : i < na
      . have hd : decide ((i : Int) < (na : Int)) = true := decide_eq_true (by omega)
        have hd' : decide (i < na) = true := decide_eq_true h1
        have hu0 : (uc == 0) = false := beq_false_of_ne (fun e => hlt ⟨h1, e⟩)
        clear hlt
        go_wp2_with fail
        refine (HAL.out _ HBX.out).mono ?_
        rintro e w9 ⟨rfl, hb9⟩
        have HB9 := hide (bkp HBX.out hb9)
        clear hb9
        go_wp2_with fail
        go_ret
        exact ⟨rfl, HB9.out⟩
      . have hd : decide ((i : Int) < (na : Int)) = false := decide_eq_false (by omega)
        have hd' : decide (i < na) = false := decide_eq_false h1
        clear hlt
        go_wp2_with fail
        refine (HAL.out _ HBX.out).mono ?_
        rintro e w9 ⟨rfl, hb9⟩
        have HB9 := hide (bkp HBX.out hb9)
        clear hb9
        go_wp2_with fail
        go_ret
        exact ⟨rfl, HB9.out⟩
end Go.Proofs.YtpehekonjdneaaaGreatDoor.Tbl
