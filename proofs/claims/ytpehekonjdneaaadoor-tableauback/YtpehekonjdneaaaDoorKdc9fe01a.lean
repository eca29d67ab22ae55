import Derived.Test.YtpehekonjdneaaaDoorKda699e39
import Derived.Test.YtpehekonjdneaaaDoorK60636dd1
set_option maxRecDepth 100000
set_option maxHeartbeats 8000000
namespace Go.Proofs.YtpehekonjdneaaaDoor.Tbl
open Go.RowKit Go.Shelf Go.Proofs.YtpehekonjdneaaaDoor.Pau Go.Proofs.YtpehekonjdneaaaDoor.Gt
structure Tg (w : World) : Prop where
  tb : Tb w
  ts : Ts w
  ti : Ti w
theorem Tg.below {w w' : World} (h : Tg w) (hb : Below w.heap.size w w') : Tg w' := ⟨h.tb.below hb, h.ts.below hb, h.ti.below hb⟩
theorem wd_thr (k : Int) (l : List Int) {p : P} (hp : Wd p) : Wd (thrR k l p).1 := by
  unfold thrR
  split
  . rename_i hf
    unfold thrOk at hf
    rw [Bool.and_eq_true, Bool.and_eq_true, decide_eq_true_eq] at hf
    obtain ⟨⟨h1, h2⟩, h3⟩ := hf
    obtain ⟨k1, k2, k3⟩ := cl_rng h2
    have hn := (rt_iff.1 h1).2.1
    obtain ⟨e1, e2⟩ := chk_qs h3 (by rw [k3]; split <;> omega) hn (by rw [k3]; split <;> omega)
    exact thf_wd _ _ e2.1 hp _
  . exact wd_o
def thT (t : TT) (k : Int) (l : List Int) : TT := ⟨t.n, (List.range t.s.length).map (fun i => (thrR k l (t.s.getD i oP)).1), (List.range t.d.length).map (fun i => (thrR k l (t.d.getD i oP)).1)⟩
theorem Pc.bx {g b o : Nat} {w w' : World} {p : P} (h : Pc w b o p) (hb : Bx g w w') (hne : b ≠ g) : Pc w' b o p := by
  have key : ∀ j, w'.cell? ⟨b, j, none⟩ = w.cell? ⟨b, j, none⟩ := fun j => World.cell?_of_block (w := w) (a := ⟨b, j, none⟩) (hb.block b h.lt hne)
  exact ⟨(key _).trans h.n, (key _).trans h.x, (key _).trans h.z, (key _).trans h.ph⟩
theorem tThrough (t : TT) (a b : Option Addr) (ca cb : Nat) (hz : szB t = true) (k : Int) (l : List Int) (hl : l.length <= 1000000000000000) (ao : Option Addr) (c : Nat) (hc : l.length <= c) (w : World) (h : Th w t a b ca cb) (hT : Tg w) (hN : Ns w ao l) :
    Calls Tryd.prog 13 #[tV t a b ca cb, .int .i64 k, .slice ao l.length c] w fun e w' => ∃ a' b' ca' cb', e = .returned (tV (thT t k l) a' b' ca' cb') /\ Th w' (thT t k l) a' b' ca' cb' /\ Below w.heap.size w w' := by
  obtain ⟨h0, h64, hls, hld⟩ := sz_of hz
  obtain ⟨N, hNN⟩ : ∃ N : Nat, t.n = (N : Int) := ⟨t.n.toNat, by omega⟩
  rw [hNN, Int.toNat_natCast] at hls hld
  have hN64 : N <= 64 := by omega
  have HG : Hid (∀ i, i < N -> ∀ W, Below w.heap.size w W -> (∃ gs os, a = some ⟨gs, os, none⟩ /\ gs < w.heap.size /\ Pc W gs (os + i * 4) (t.s.getD i oP)) /\ (∃ gd od, b = some ⟨gd, od, none⟩ /\ gd < w.heap.size /\ Pc W gd (od + i * 4) (t.d.getD i oP))) := hide (fun i hi W hb => by
    obtain ⟨gs, os, e1, h1, p1⟩ := h.s.at (get_of (show i < t.s.length by omega))
    obtain ⟨gd, od, e2, h2, p2⟩ := h.d.at (get_of (show i < t.d.length by omega))
    exact ⟨⟨gs, os, e1, h1, p1.below hb⟩, ⟨gd, od, e2, h2, p2.below hb⟩⟩)
  have HC1 := hide (fun W => tBlank N hN64 W)
  have HCT : Hid (∀ p, Wd p -> ∀ W, Below w.heap.size w W -> Calls Tryd.prog 31 #[pV p, .int .i64 k, .slice ao l.length c] W fun e w' => e = .returned (.tuple #[pV (thrR k l p).1, .int .i64 (thrR k l p).2]) /\ Below W.heap.size W w') := hide (fun p hp W hb => pThrough p hp k l hl ao c hc W (hT.below hb).tb (hT.below hb).ts (hT.below hb).ti (hN.below hb))
  have HW : Hid (∀ i, i < N -> Wd (t.s.getD i oP) /\ Wd (t.d.getD i oP)) := hide (fun i hi => ⟨h.ws.getD (by omega), h.wd.getD (by omega)⟩)
  have HTH : Hid (∀ W g1 g2 c1 c2, PO W g1 (fillL N (fun i => (thrR k l (t.s.getD i oP)).1) N) -> PO W g2 (fillL N (fun i => (thrR k l (t.d.getD i oP)).1) N) -> N <= c1 -> N <= c2 -> Th W (thT t k l) (some ⟨g1, 0, none⟩) (some ⟨g2, 0, none⟩) c1 c2) := hide (fun W g1 g2 c1 c2 h1 h2 h3 h4 => by
    rw [fill_all] at h1 h2
    have e1 : (thT t k l).s.length = N := by simp [thT, hls]
    have e2 : (thT t k l).d.length = N := by simp [thT, hld]
    refine ⟨?_, ?_, ?_, ?_, by omega, by omega, by omega, by omega⟩
    . unfold thT; rw [hls]; exact h1.pin
    . unfold thT; rw [hld]; exact h2.pin
    . intro p hp
      obtain ⟨i, hi, rfl⟩ := List.mem_map.1 hp
      exact wd_thr k l (h.ws.getD (List.mem_range.1 hi))
    . intro p hp
      obtain ⟨i, hi, rfl⟩ := List.mem_map.1 hp
      exact wd_thr k l (h.wd.getD (List.mem_range.1 hi)))
  have e1 : (thT t k l).s.length = N := by simp [thT, hls]
  have e2 : (thT t k l).d.length = N := by simp [thT, hld]
  have e3 : (thT t k l).n = (N : Int) := hNN
  unfold tV
  rw [e1, e2, e3, hls, hld, hNN]
  generalize thT t k l = R at *
  have HF1 : Hid (∀ i, (fun i => (thrR k l (t.s.getD i oP)).1) i = (thrR k l (t.s.getD i oP)).1) := hide (fun _ => rfl)
  have HF2 : Hid (∀ i, (fun i => (thrR k l (t.d.getD i oP)).1) i = (thrR k l (t.d.getD i oP)).1) := hide (fun _ => rfl)
  generalize (fun i => (thrR k l (t.s.getD i oP)).1) = f1 at *
  generalize (fun i => (thrR k l (t.d.getD i oP)).1) = f2 at *
  obtain ⟨hA, hZ⟩ := two3 w (.int .i64 (N : Int)) (.slice a N ca) (.slice b N cb) (.int .i64 0) (.slice none 0 0) (.slice none 0 0)
  have HA := hide hA
  have HZ := hide hZ
  have HB0 := hide (bkp (bnew w (.cells #[.int .i64 (N : Int), .slice a N ca, .slice b N cb] 24)) (bnew _ (.cells #[.int .i64 0, .slice none 0 0, .slice none 0 0] 24)))
  generalize l.length = m at *
  clear hA hZ h hz h0 h64 hls hld hNN e1 e2 e3 hT hN
  go_enter Tryd.func13, Tryd.ntmps13
  go_wp2_with fail
  refine (HC1.out _).mono ?_
  rintro e w1 ⟨g1, g2, rfl, ht, hb1⟩
  have hbn := bnew w1 (.cells #[.int .i64 (N : Int), .slice (some ⟨g1, 0, none⟩) N N, .slice (some ⟨g2, 0, none⟩) N N] 24)
  have hlt1 := ht.s.lt
  have hlt2 := ht.d.lt
  have hg1 := ht.b1
  have hg2 := ht.b2
  have hne := ht.ne
  simp only [World.size_alloc] at hg1 hg2
  have hgt1 : w1.heap.size ≠ g1 := by omega
  have hgt2 : w1.heap.size ≠ g2 := by omega
  have HI0 : Hid (Below w.heap.size w (w1.alloc (.cells #[.int .i64 (N : Int), .slice (some ⟨g1, 0, none⟩) N N, .slice (some ⟨g2, 0, none⟩) N N] 24)) /\ At3 (w1.alloc (.cells #[.int .i64 (N : Int), .slice (some ⟨g1, 0, none⟩) N N, .slice (some ⟨g2, 0, none⟩) N N] 24)) w.heap.size (.int .i64 (N : Int)) (.slice a N ca) (.slice b N cb) /\ At3 (w1.alloc (.cells #[.int .i64 (N : Int), .slice (some ⟨g1, 0, none⟩) N N, .slice (some ⟨g2, 0, none⟩) N N] 24)) (w.heap.size + 1) (.int .i64 0) (.slice none 0 0) (.slice none 0 0) /\ At3 (w1.alloc (.cells #[.int .i64 (N : Int), .slice (some ⟨g1, 0, none⟩) N N, .slice (some ⟨g2, 0, none⟩) N N] 24)) w1.heap.size (.int .i64 (N : Int)) (.slice (some ⟨g1, 0, none⟩) N N) (.slice (some ⟨g2, 0, none⟩) N N) /\ PO (w1.alloc (.cells #[.int .i64 (N : Int), .slice (some ⟨g1, 0, none⟩) N N, .slice (some ⟨g2, 0, none⟩) N N] 24)) g1 (fillL N f1 0) /\ PO (w1.alloc (.cells #[.int .i64 (N : Int), .slice (some ⟨g1, 0, none⟩) N N, .slice (some ⟨g2, 0, none⟩) N N] 24)) g2 (fillL N f2 0)) := hide ⟨bkp (bkp HB0.out hb1) hbn, (HA.out.below hb1).below hbn, (HZ.out.below hb1).below hbn, At3.new _ _ _ _, by rw [fill_zero]; exact ht.s.below hbn, by rw [fill_zero]; exact ht.d.below hbn⟩
  obtain ⟨x0, x1, x2, x3⟩ := (HA.out.below hb1).cells
  clear ht hb1 hbn HB0 HA HZ HC1
  obtain ⟨y0, y1, y2, y3⟩ := HI0.out.2.1.cells
  go_wp2_with fail
  clear x0 x1 x2 x3 y0 y1 y2 y3
  generalize w1.alloc (.cells #[.int .i64 (N : Int), .slice (some ⟨g1, 0, none⟩) N N, .slice (some ⟨g2, 0, none⟩) N N] 24) = W1 at *
  generalize w1.heap.size = gt at *
  go_loopw [14] (fun vi wr => ∃ q : Nat, vi = .int .i64 (q : Int) /\ q <= N /\ Hid (Below w.heap.size w wr /\ At3 wr w.heap.size (.int .i64 (N : Int)) (.slice a N ca) (.slice b N cb) /\ At3 wr (w.heap.size + 1) (.int .i64 0) (.slice none 0 0) (.slice none 0 0) /\ At3 wr gt (.int .i64 (N : Int)) (.slice (some ⟨g1, 0, none⟩) N N) (.slice (some ⟨g2, 0, none⟩) N N) /\ PO wr g1 (fillL N f1 q) /\ PO wr g2 (fillL N f2 q))) (fun vi _ => N - (Go.RowKit.intOf vi).toNat)
  case atStart => exact ⟨0, rfl, Nat.zero_le _, HI0⟩
  case round =>
    obtain ⟨q, rfl, hq, HI⟩ := hrel
    clear HI0
    obtain ⟨t0, t1, t2, t3⟩ := HI.out.2.2.2.1.cells
    by_cases hlt : q < N
    . have hd : decide ((q : Int) < (N : Int)) = true := decide_eq_true (by omega)
      obtain ⟨⟨gs, os, rfl, hgs, -⟩, ⟨gd, od, rfl, hgd, -⟩⟩ := HG.out q hlt _ HI.out.1
      have HGS : Hid (∀ W, Below w.heap.size w W -> Pc W gs (os + q * 4) (t.s.getD q oP) /\ Pc W gd (od + q * 4) (t.d.getD q oP)) := hide (fun W hW => by
        obtain ⟨⟨gs', os', e, -, h2⟩, ⟨gd', od', e', -, h2'⟩⟩ := HG.out q hlt W hW
        cases e
        cases e'
        exact ⟨h2, h2'⟩)
      have HcA := hide (HCT.out _ (HW.out q hlt).1)
      have HcB := hide (HCT.out _ (HW.out q hlt).2)
      have hf1 := HF1.out q
      have hf2 := HF2.out q
      generalize thrR k l (t.s.getD q oP) = R1 at *
      generalize thrR k l (t.d.getD q oP) = R2 at *
      generalize t.s.getD q oP = p1 at *
      generalize t.d.getD q oP = p2 at *
      obtain ⟨m1, z1, y1, h1⟩ := p1
      obtain ⟨m2, z2, y2, h2⟩ := p2
      obtain ⟨⟨m3, z3, y3, h3⟩, r3⟩ := R1
      obtain ⟨⟨m4, z4, y4, h4⟩, r4⟩ := R2
      unfold pV at HcA HcB
      simp only at HcA HcB hf1 hf2
      go_wp2_with fail
      clear t0 t1 t2 t3
      have HBV : Hid (∀ V, Bx g1 wr V -> Below w.heap.size w V) := hide (fun V hV => hV.below HI.out.1 (by omega) (Nat.le_refl _))
      have HSV : Hid (∀ V, Bx g1 wr V -> (Bx g1 wr V /\ V.cell? ⟨w.heap.size, 0, none⟩ = some (.int .i64 (N : Int)) /\ V.cell? ⟨w.heap.size, 1, none⟩ = some (.slice (some ⟨gs, os, none⟩) N ca) /\ V.cell? ⟨w.heap.size, 2, none⟩ = some (.slice (some ⟨gd, od, none⟩) N cb) /\ V.cell? ⟨gt, 0, none⟩ = some (.int .i64 (N : Int)) /\ V.cell? ⟨gt, 1, none⟩ = some (.slice (some ⟨g1, 0, none⟩) N N) /\ V.cell? ⟨gt, 2, none⟩ = some (.slice (some ⟨g2, 0, none⟩) N N) /\ V.cell? ⟨gs, os + q * 4, none⟩ = some (.int .i64 m1) /\ V.cell? ⟨gs, os + q * 4 + 1, none⟩ = some (.int .u64 (z1 : Int)) /\ V.cell? ⟨gs, os + q * 4 + 2, none⟩ = some (.int .u64 (y1 : Int)) /\ V.cell? ⟨gs, os + q * 4 + 3, none⟩ = some (.int .i64 h1))) := hide (fun V hV => by
        obtain ⟨k0, k1, k2, -⟩ := (HI.out.2.1.bx hV (by omega)).cells
        obtain ⟨l0, l1, l2, -⟩ := (HI.out.2.2.2.1.bx hV (by omega)).cells
        obtain ⟨m0, m1, m2, m3⟩ := (HGS.out V (HBV.out V hV)).1
        exact ⟨hV, k0, k1, k2, l0, l1, l2, m0, m1, m2, m3⟩)
      have HD0 : Hid (Bx g1 wr wr.drew) := hide (Bx.refl _ _).drew
      have HPO := hide (get_of (l := fillL N f1 q) (i := q) (by rw [fill_len]; exact hlt))
      generalize (fillL N f1 q).getD q oP = po at *
      obtain ⟨n5, x5, z5, ph5⟩ := po
      go_region_held3 (fun V => Bx g1 wr V /\ V.cell? ⟨w.heap.size, 0, none⟩ = some (.int .i64 (N : Int)) /\ V.cell? ⟨w.heap.size, 1, none⟩ = some (.slice (some ⟨gs, os, none⟩) N ca) /\ V.cell? ⟨w.heap.size, 2, none⟩ = some (.slice (some ⟨gd, od, none⟩) N cb) /\ V.cell? ⟨gt, 0, none⟩ = some (.int .i64 (N : Int)) /\ V.cell? ⟨gt, 1, none⟩ = some (.slice (some ⟨g1, 0, none⟩) N N) /\ V.cell? ⟨gt, 2, none⟩ = some (.slice (some ⟨g2, 0, none⟩) N N) /\ V.cell? ⟨gs, os + q * 4, none⟩ = some (.int .i64 m1) /\ V.cell? ⟨gs, os + q * 4 + 1, none⟩ = some (.int .u64 (z1 : Int)) /\ V.cell? ⟨gs, os + q * 4 + 2, none⟩ = some (.int .u64 (y1 : Int)) /\ V.cell? ⟨gs, os + q * 4 + 3, none⟩ = some (.int .i64 h1))
        (first | exact HSV.out _ HD0.out | exact HSV.out _ (by assumption) | exact HSV.out _ (hx5.trans (Bx.set g1 w5 (q * 4) ⟨m3, z3, y3, h3⟩)))
        (first
          | (go_at_call 31; (with_reducible refine Calls.mono (HcA.out _ (HBV.out _ (‹Bx g1 wr _ /\ _›.1))) ?_); rintro e w5 ⟨rfl, q5⟩; have hx5 := Bx.then (‹Bx g1 wr _ /\ _›.1) q5; obtain ⟨c0, c1, c2, c3⟩ := PO.at (PO.below (w := wr.drew) HI.out.2.2.2.2.1 q5) HPO.out; have cf := PO.fz (PO.below (w := wr.drew) HI.out.2.2.2.2.1 q5); have cl := PO.lt (PO.below (w := wr.drew) HI.out.2.2.2.2.1 q5)))
      have HX : Hid (Below w.heap.size w (set4 w5 g1 (q * 4) ⟨m3, z3, y3, h3⟩) /\ At3 (set4 w5 g1 (q * 4) ⟨m3, z3, y3, h3⟩) w.heap.size (.int .i64 (N : Int)) (.slice (some ⟨gs, os, none⟩) N ca) (.slice (some ⟨gd, od, none⟩) N cb) /\ At3 (set4 w5 g1 (q * 4) ⟨m3, z3, y3, h3⟩) (w.heap.size + 1) (.int .i64 0) (.slice none 0 0) (.slice none 0 0) /\ At3 (set4 w5 g1 (q * 4) ⟨m3, z3, y3, h3⟩) gt (.int .i64 (N : Int)) (.slice (some ⟨g1, 0, none⟩) N N) (.slice (some ⟨g2, 0, none⟩) N N) /\ PO (set4 w5 g1 (q * 4) ⟨m3, z3, y3, h3⟩) g1 (fillL N f1 (q + 1)) /\ PO (set4 w5 g1 (q * 4) ⟨m3, z3, y3, h3⟩) g2 (fillL N f2 q)) := hide (by
        have hxx := hx5.trans (Bx.set g1 w5 (q * 4) ⟨m3, z3, y3, h3⟩)
        have hpo : PO w5 g1 (fillL N f1 q) := PO.below (w := wr.drew) HI.out.2.2.2.2.1 q5
        refine ⟨HBV.out _ hxx, HI.out.2.1.bx hxx (by omega), HI.out.2.2.1.bx hxx (by omega), HI.out.2.2.2.1.bx hxx (by omega), ?_, HI.out.2.2.2.2.2.bx hxx (Ne.symm hne)⟩
        rw [← fill_succ, hf1]
        exact hpo.set _)
      change Exit.then _ _ _ _ (set4 w5 g1 (q * 4) ⟨m3, z3, y3, h3⟩)
      clear c0 c1 c2 c3 cf cl hx5 q5 HSV HBV HD0 HPO HI HcA
      generalize (set4 w5 g1 (q * 4) ⟨m3, z3, y3, h3⟩) = W2 at *
      have HBV : Hid (∀ V, Bx g2 W2 V -> Below w.heap.size w V) := hide (fun V hV => hV.below HX.out.1 (by omega) (Nat.le_refl _))
      have HSV : Hid (∀ V, Bx g2 W2 V -> (Bx g2 W2 V /\ V.cell? ⟨w.heap.size, 0, none⟩ = some (.int .i64 (N : Int)) /\ V.cell? ⟨w.heap.size, 1, none⟩ = some (.slice (some ⟨gs, os, none⟩) N ca) /\ V.cell? ⟨w.heap.size, 2, none⟩ = some (.slice (some ⟨gd, od, none⟩) N cb) /\ V.cell? ⟨gt, 0, none⟩ = some (.int .i64 (N : Int)) /\ V.cell? ⟨gt, 1, none⟩ = some (.slice (some ⟨g1, 0, none⟩) N N) /\ V.cell? ⟨gt, 2, none⟩ = some (.slice (some ⟨g2, 0, none⟩) N N) /\ V.cell? ⟨gd, od + q * 4, none⟩ = some (.int .i64 m2) /\ V.cell? ⟨gd, od + q * 4 + 1, none⟩ = some (.int .u64 (z2 : Int)) /\ V.cell? ⟨gd, od + q * 4 + 2, none⟩ = some (.int .u64 (y2 : Int)) /\ V.cell? ⟨gd, od + q * 4 + 3, none⟩ = some (.int .i64 h2))) := hide (fun V hV => by
        obtain ⟨k0, k1, k2, -⟩ := (HX.out.2.1.bx hV (by omega)).cells
        obtain ⟨l0, l1, l2, -⟩ := (HX.out.2.2.2.1.bx hV (by omega)).cells
        obtain ⟨m0, m1, m2, m3⟩ := (HGS.out V (HBV.out V hV)).2
        exact ⟨hV, k0, k1, k2, l0, l1, l2, m0, m1, m2, m3⟩)
      have HD0 : Hid (Bx g2 W2 W2.drew) := hide (Bx.refl _ _).drew
      have HPO := hide (get_of (l := fillL N f2 q) (i := q) (by rw [fill_len]; exact hlt))
      generalize (fillL N f2 q).getD q oP = po at *
      obtain ⟨n6, x6, z6, ph6⟩ := po
      obtain ⟨t0, t1, t2, t3⟩ := HX.out.2.2.2.1.cells
      go_wp2_with fail
      clear t0 t1 t2 t3
      go_region_held3 (fun V => Bx g2 W2 V /\ V.cell? ⟨w.heap.size, 0, none⟩ = some (.int .i64 (N : Int)) /\ V.cell? ⟨w.heap.size, 1, none⟩ = some (.slice (some ⟨gs, os, none⟩) N ca) /\ V.cell? ⟨w.heap.size, 2, none⟩ = some (.slice (some ⟨gd, od, none⟩) N cb) /\ V.cell? ⟨gt, 0, none⟩ = some (.int .i64 (N : Int)) /\ V.cell? ⟨gt, 1, none⟩ = some (.slice (some ⟨g1, 0, none⟩) N N) /\ V.cell? ⟨gt, 2, none⟩ = some (.slice (some ⟨g2, 0, none⟩) N N) /\ V.cell? ⟨gd, od + q * 4, none⟩ = some (.int .i64 m2) /\ V.cell? ⟨gd, od + q * 4 + 1, none⟩ = some (.int .u64 (z2 : Int)) /\ V.cell? ⟨gd, od + q * 4 + 2, none⟩ = some (.int .u64 (y2 : Int)) /\ V.cell? ⟨gd, od + q * 4 + 3, none⟩ = some (.int .i64 h2))
        (first | exact HSV.out _ HD0.out | exact HSV.out _ (by assumption) | exact HSV.out _ (hx5.trans (Bx.set g2 w5 (q * 4) ⟨m4, z4, y4, h4⟩)))
        (first
          | (go_at_call 31; (with_reducible refine Calls.mono (HcB.out _ (HBV.out _ (‹Bx g2 W2 _ /\ _›.1))) ?_); rintro e w5 ⟨rfl, q5⟩; have hx5 := Bx.then (‹Bx g2 W2 _ /\ _›.1) q5; obtain ⟨c0, c1, c2, c3⟩ := PO.at (PO.below (w := W2.drew) HX.out.2.2.2.2.2 q5) HPO.out; have cf := PO.fz (PO.below (w := W2.drew) HX.out.2.2.2.2.2 q5); have cl := PO.lt (PO.below (w := W2.drew) HX.out.2.2.2.2.2 q5)))
      have HY : Hid (Below w.heap.size w (set4 w5 g2 (q * 4) ⟨m4, z4, y4, h4⟩) /\ At3 (set4 w5 g2 (q * 4) ⟨m4, z4, y4, h4⟩) w.heap.size (.int .i64 (N : Int)) (.slice (some ⟨gs, os, none⟩) N ca) (.slice (some ⟨gd, od, none⟩) N cb) /\ At3 (set4 w5 g2 (q * 4) ⟨m4, z4, y4, h4⟩) (w.heap.size + 1) (.int .i64 0) (.slice none 0 0) (.slice none 0 0) /\ At3 (set4 w5 g2 (q * 4) ⟨m4, z4, y4, h4⟩) gt (.int .i64 (N : Int)) (.slice (some ⟨g1, 0, none⟩) N N) (.slice (some ⟨g2, 0, none⟩) N N) /\ PO (set4 w5 g2 (q * 4) ⟨m4, z4, y4, h4⟩) g1 (fillL N f1 (q + 1)) /\ PO (set4 w5 g2 (q * 4) ⟨m4, z4, y4, h4⟩) g2 (fillL N f2 (q + 1))) := hide (by
        have hxx := hx5.trans (Bx.set g2 w5 (q * 4) ⟨m4, z4, y4, h4⟩)
        have hpo : PO w5 g2 (fillL N f2 q) := PO.below (w := W2.drew) HX.out.2.2.2.2.2 q5
        refine ⟨HBV.out _ hxx, HX.out.2.1.bx hxx (by omega), HX.out.2.2.1.bx hxx (by omega), HX.out.2.2.2.1.bx hxx (by omega), HX.out.2.2.2.2.1.bx hxx hne, ?_⟩
        rw [← fill_succ, hf2]
        exact hpo.set _)
      clear c0 c1 c2 c3 cf cl hx5 q5 HSV HBV HD0 HPO HX HcB
      go_wp2_with fail
      go_roundw
      case rel => exact ⟨q + 1, by go_num, by omega, HY⟩
      case measure => simp [Go.RowKit.intOf]; omega
    . obtain rfl : N = q := by omega
      have hd : decide ((N : Int) < (N : Int)) = false := decide_eq_false (by omega)
      have hR := HI.out.2.2.1
      unfold At3 at hR
      have HXX : Hid (Th (wr.setRow (w.heap.size + 1) #[.int .i64 (N : Int), .slice (some ⟨g1, 0, none⟩) N N, .slice (some ⟨g2, 0, none⟩) N N]) R (some ⟨g1, 0, none⟩) (some ⟨g2, 0, none⟩) N N /\ Below w.heap.size w (wr.setRow (w.heap.size + 1) #[.int .i64 (N : Int), .slice (some ⟨g1, 0, none⟩) N N, .slice (some ⟨g2, 0, none⟩) N N])) := hide ⟨HTH.out _ _ _ _ _ (HI.out.2.2.2.2.1.of_block (setRow_other _ _ _ _ (by omega))) (HI.out.2.2.2.2.2.of_block (setRow_other _ _ _ _ (by omega))) (Nat.le_refl _) (Nat.le_refl _), below_setRow HI.out.1 (by omega) _⟩
      clear HI HTH
      go_wp2_with (first
        | (refine wpList_store_row rfl _ _ _ rfl (w.heap.size + 1) _ rfl rfl _ _ hR (by exact infoT) (by rfl) (all3 _ _ _ _ _ _ _) ?_))
      refine bodyPost_ret (results_c rfl _ _ (w.heap.size + 1) _ _ _ _ rfl (setRow_heap _ _ _ _ _ _ hR) Tryd.underlying24 rfl (by exact infoT)) rfl ?_
      exact ⟨some ⟨g1, 0, none⟩, some ⟨g2, 0, none⟩, N, N, rfl, HXX.out.1, HXX.out.2⟩
theorem Pc.ne {w : World} {g o k : Nat} {p : P} {i : Int} {a b : Option Addr} {m n c d : Nat} (h : Pc w g o p) (h3 : At3 w k (.int .i64 i) (.slice a m c) (.slice b n d)) : g ≠ k := by
  rintro rfl
  unfold At3 at h3
  have key : ∀ j v, w.cell? ⟨g, j, none⟩ = some v -> (#[Value.int .i64 i, .slice a m c, .slice b n d] : Array Value)[j]? = some v := by
    intro j v hv
    simpa [World.cell?, h3] using hv
  have h1 := key _ _ h.n
  have h2 := key _ _ h.x
  match o, h1, h2 with
  | 0, h1, h2 => simp at h2
  | 1, h1, h2 => simp at h1
  | 2, h1, h2 => simp at h1
  | o + 3, h1, h2 => simp at h1
theorem PIn.off3 {w w' : World} {k : Nat} {ao : Option Addr} {l : List P} {i : Int} {a b : Option Addr} {m n c d : Nat} (h : PIn w ao l) (h3 : At3 w k (.int .i64 i) (.slice a m c) (.slice b n d)) (hk : ∀ j, j ≠ k -> w'.heap[j]? = w.heap[j]?) : PIn w' ao l := by
  rcases h with h | ⟨g, off, e, h⟩
  . exact .inl h
  . refine .inr ⟨g, off, e, fun j p hp => ?_⟩
    have hq := h j p hp
    have key : ∀ x, w'.cell? ⟨g, x, none⟩ = w.cell? ⟨g, x, none⟩ := fun x => World.cell?_of_block (w := w) (a := ⟨g, x, none⟩) (hk g (hq.ne h3))
    exact ⟨(key _).trans hq.n, (key _).trans hq.x, (key _).trans hq.z, (key _).trans hq.ph⟩
theorem Th.off3 {w w' : World} {k : Nat} {t : TT} {x y : Option Addr} {cx cy : Nat} {i : Int} {a b : Option Addr} {m n c d : Nat} (h : Th w t x y cx cy) (h3 : At3 w k (.int .i64 i) (.slice a m c) (.slice b n d)) (hk : ∀ j, j ≠ k -> w'.heap[j]? = w.heap[j]?) : Th w' t x y cx cy := ⟨h.s.off3 h3 hk, h.d.off3 h3 hk, h.ws, h.wd, h.la, h.lb, h.na, h.nb⟩
theorem Th.row {w : World} {k : Nat} {t : TT} {x y : Option Addr} {cx cy : Nat} {i : Int} {a b : Option Addr} {m n c d : Nat} (h : Th w t x y cx cy) (h3 : At3 w k (.int .i64 i) (.slice a m c) (.slice b n d)) (cs : Array Value) : Th (w.setRow k cs) t x y cx cy := h.off3 h3 (fun _ hj => setRow_other _ _ _ _ hj)
def gtR (t : TT) (k : Int) (l : List Int) : TT × Int := if chB t = true then (if chkP k l t.n = 0 then (if clB (rw' k) = true then (thT t k l, 0) else (zrT, 141)) else (zrT, chkP k l t.n)) else (zrT, 140)
theorem tGate (t : TT) (a b : Option Addr) (ca cb : Nat) (k : Int) (l : List Int) (hl : l.length <= 1000000000000000) (ao : Option Addr) (c : Nat) (hc : l.length <= c) (w : World) (h : Th w t a b ca cb) (hT : Tg w) (hN : Ns w ao l) :
    Calls Tryd.prog 4 #[tV t a b ca cb, .int .i64 k, .slice ao l.length c] w fun e w' => ∃ a' b' ca' cb', e = .returned (.tuple #[tV (gtR t k l).1 a' b' ca' cb', .int .i64 (gtR t k l).2]) /\ Th w' (gtR t k l).1 a' b' ca' cb' /\ Below w.heap.size w w' := by
  have HC1 := hide (fun W (hb : Below w.heap.size w W) => tCheck t a b ca cb W (h.below hb))
  have HC2 := hide (fun W (hb : Below w.heap.size w W) => gCheck k ao c l t.n hl hc W (hT.below hb).tb (hN.below hb))
  have HC3 := hide (fun W (hb : Below w.heap.size w W) => gClifford k W (hT.below hb).tb)
  have HC4 := hide (fun W (hb : Below w.heap.size w W) (hz : szB t = true) => tThrough t a b ca cb hz k l hl ao c hc W (h.below hb) (hT.below hb) (hN.below hb))
  have HZT := hide th_zero
  have hsz : chB t = true -> szB t = true := ch_size
  obtain ⟨hA, hZ⟩ := two3 w (.int .i64 t.n) (.slice a t.s.length ca) (.slice b t.d.length cb) (.int .i64 0) (.slice none 0 0) (.slice none 0 0)
  have HA := hide hA
  have HZ := hide hZ
  have HB0 := hide (bkp (bnew w (.cells #[.int .i64 t.n, .slice a t.s.length ca, .slice b t.d.length cb] 24)) (bnew _ (.cells #[.int .i64 0, .slice none 0 0, .slice none 0 0] 24)))
  unfold gtR
  unfold chI at HC1
  unfold tV at HC1 HC4 ⊢
  have HR : Hid (thT t k l = thT t k l) := hide rfl
  generalize hth : thT t k l = R at *
  generalize chB t = r1 at *
  generalize chkP k l t.n = r2 at *
  generalize clB (rw' k) = r3 at *
  generalize t.s.length = ns at *
  generalize t.d.length = nd at *
  generalize t.n = n at *
  generalize l.length = m at *
  clear hA hZ h hT hN HR hth
  cases r1 with
  | false =>
    simp only [Bool.false_eq_true, if_false, zrT, List.length_nil] at HC1 HZT ⊢
    go_enter Tryd.func4, Tryd.ntmps4
    go_wp2_with fail
    refine (HC1.out _ HB0.out).mono ?_
    rintro e w1 ⟨rfl, hb1⟩
    have hR := HZ.out.below hb1
    have HB1 := hide (bkp HB0.out hb1)
    clear hb1
    unfold At3 at hR
    go_wp2_with (first
      | (refine wpList_store_row rfl _ _ _ rfl (w.heap.size + 1) _ rfl rfl _ _ hR (by exact infoT) (by rfl) (all3 _ _ _ _ _ _ _) ?_))
    refine bodyPost_ret (Pau.results_ct rfl _ _ (w.heap.size + 1) _ _ _ _ rfl (setRow_heap _ _ _ _ _ _ hR) Tryd.underlying24 rfl (by exact infoT)) rfl ?_
    exact ⟨none, none, 0, 0, rfl, HZT.out _, below_setRow HB1.out (by omega) _⟩
  | true =>
    have hz := hsz rfl
    simp only [if_true] at HC1 ⊢
    have HC5 := hide (fun W hb => HC4.out W hb hz)
    clear HC4 hsz
    by_cases h2 : r2 = 0
    . subst h2
      simp only [if_true] at HC2 ⊢
      cases r3 with
      | false =>
        simp only [Bool.false_eq_true, if_false, zrT, List.length_nil] at HC1 HZT ⊢
        go_enter Tryd.func4, Tryd.ntmps4
        go_wp2_with fail
        refine (HC1.out _ HB0.out).mono ?_
        rintro e w1 ⟨rfl, hb1⟩
        obtain ⟨x0, x1, x2, x3⟩ := (HA.out.below hb1).cells
        have HB1 := hide (bkp HB0.out hb1)
        have HZ1 := hide (HZ.out.below hb1)
        clear hb1 HZ HA HB0
        go_wp2_with fail
        refine (HC2.out _ HB1.out).mono ?_
        rintro e w2 ⟨rfl, hb2⟩
        have HB2 := hide (bkp HB1.out hb2)
        have HZ2 := hide (HZ1.out.below hb2)
        clear hb2 HZ1 HB1 x0 x1 x2 x3
        go_wp2_with fail
        refine (HC3.out _ HB2.out).mono ?_
        rintro e w3 ⟨rfl, hb3⟩
        have HB3 := hide (bkp HB2.out hb3)
        have hR := HZ2.out.below hb3
        clear hb3 HZ2 HB2
        unfold At3 at hR
        go_wp2_with (first
          | (refine wpList_store_row rfl _ _ _ rfl (w.heap.size + 1) _ rfl rfl _ _ hR (by exact infoT) (by rfl) (all3 _ _ _ _ _ _ _) ?_))
        refine bodyPost_ret (Pau.results_ct rfl _ _ (w.heap.size + 1) _ _ _ _ rfl (setRow_heap _ _ _ _ _ _ hR) Tryd.underlying24 rfl (by exact infoT)) rfl ?_
        exact ⟨none, none, 0, 0, rfl, HZT.out _, below_setRow HB3.out (by omega) _⟩
      | true =>
        simp only [if_true]
        go_enter Tryd.func4, Tryd.ntmps4
        go_wp2_with fail
        refine (HC1.out _ HB0.out).mono ?_
        rintro e w1 ⟨rfl, hb1⟩
        obtain ⟨x0, x1, x2, x3⟩ := (HA.out.below hb1).cells
        have HB1 := hide (bkp HB0.out hb1)
        have HA1 := hide (HA.out.below hb1)
        have HZ1 := hide (HZ.out.below hb1)
        clear hb1 HZ HA HB0
        go_wp2_with fail
        refine (HC2.out _ HB1.out).mono ?_
        rintro e w2 ⟨rfl, hb2⟩
        have HB2 := hide (bkp HB1.out hb2)
        have HA2 := hide (HA1.out.below hb2)
        have HZ2 := hide (HZ1.out.below hb2)
        clear hb2 HZ1 HB1 x0 x1 x2 x3 HA1
        go_wp2_with fail
        refine (HC3.out _ HB2.out).mono ?_
        rintro e w3 ⟨rfl, hb3⟩
        have HB3 := hide (bkp HB2.out hb3)
        have HZ3 := hide (HZ2.out.below hb3)
        obtain ⟨x0, x1, x2, x3⟩ := (HA2.out.below hb3).cells
        clear hb3 HZ2 HB2 HA2
        go_wp2_with fail
        refine (HC5.out _ HB3.out).mono ?_
        rintro e w4 ⟨a', b', ca', cb', rfl, hth, hb4⟩
        have hR := HZ3.out.below hb4
        have HX := hide (And.intro (hth.row hR #[.int .i64 R.n, .slice a' R.s.length ca', .slice b' R.d.length cb']) (bkp HB3.out hb4))
        clear hb4 HZ3 HB3 hth x0 x1 x2 x3
        unfold At3 at hR
        go_wp2_with (first
          | (refine wpList_store_row rfl _ _ _ rfl (w.heap.size + 1) _ rfl rfl _ _ hR (by exact infoT) (by rfl) (all3 _ _ _ _ _ _ _) ?_))
        refine bodyPost_ret (Pau.results_ct rfl _ _ (w.heap.size + 1) _ _ _ _ rfl (setRow_heap _ _ _ _ _ _ hR) Tryd.underlying24 rfl (by exact infoT)) rfl ?_
        exact ⟨a', b', ca', cb', rfl, HX.out.1, below_setRow HX.out.2 (by omega) _⟩
    . have d2 : (r2 != 0) = true := bne_iff_ne.2 h2
      simp only [h2, if_false, zrT, List.length_nil] at HZT ⊢
      go_enter Tryd.func4, Tryd.ntmps4
      go_wp2_with fail
      refine (HC1.out _ HB0.out).mono ?_
      rintro e w1 ⟨rfl, hb1⟩
      obtain ⟨x0, x1, x2, x3⟩ := (HA.out.below hb1).cells
      have HB1 := hide (bkp HB0.out hb1)
      have HZ1 := hide (HZ.out.below hb1)
      clear hb1 HZ HA HB0
      go_wp2_with fail
      refine (HC2.out _ HB1.out).mono ?_
      rintro e w2 ⟨rfl, hb2⟩
      have HB2 := hide (bkp HB1.out hb2)
      have hR := HZ1.out.below hb2
      clear hb2 HZ1 HB1 x0 x1 x2 x3
      unfold At3 at hR
      go_wp2_with (first
        | (refine wpList_store_row rfl _ _ _ rfl (w.heap.size + 1) _ rfl rfl _ _ hR (by exact infoT) (by rfl) (all3 _ _ _ _ _ _ _) ?_))
      refine bodyPost_ret (Pau.results_ct rfl _ _ (w.heap.size + 1) _ _ _ _ rfl (setRow_heap _ _ _ _ _ _ hR) Tryd.underlying24 rfl (by exact infoT)) rfl ?_
      exact ⟨none, none, 0, 0, rfl, HZT.out _, below_setRow HB2.out (by omega) _⟩
end Go.Proofs.YtpehekonjdneaaaDoor.Tbl
