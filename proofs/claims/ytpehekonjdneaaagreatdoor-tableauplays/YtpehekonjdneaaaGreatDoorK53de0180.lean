import Derived.Test.YtpehekonjdneaaaGreatDoorK44830d5d
set_option maxRecDepth 100000
set_option maxHeartbeats 8000000
namespace Go.Proofs.YtpehekonjdneaaaGreatDoor.Tbl
open Go.RowKit Go.Shelf Go.Proofs.YtpehekonjdneaaaGreatDoor.Pau Go.Proofs.YtpehekonjdneaaaGreatDoor.Gt
theorem jDone3_ok (t R : TT) (a b a2 b2 : Option Addr) (ca cb ca2 cb2 : Nat) (gk v : Int) (l : List Int) (hl : l.length <= 1000000000000000) (ao : Option Addr) (c : Nat) (hlc : l.length <= c) (hR : stR t (fsI l) v = (R, 0)) (w : World) (h : Th w t a b ca cb) (h2 : Th w t a2 b2 ca2 cb2) (hT : Tg w) (hN : Ns w ao l) :
    Calls Tryz.prog 9 #[tV t a b ca cb, tV t a2 b2 ca2 cb2, .agg #[.int .i64 3, .int .i64 gk, .slice ao l.length c, .int .i64 v]] w fun e w' => ∃ a' b' ca' cb' a3 b3 ca3 cb3, e = .returned (.tuple #[tV R a' b' ca' cb', tV R a3 b3 ca3 cb3, .bool true]) /\ (Th w' R a' b' ca' cb' /\ Th w' R a3 b3 ca3 cb3) /\ Below w.heap.size w w' := by
  have HC1 := hide (fun W (hb : Below w.heap.size w W) => tSettle t a b ca cb (fsI l) v W (h.below hb) (hT.below hb))
  have HC2 := hide (fun W (hb : Below w.heap.size w W) => dSettle t a2 b2 ca2 cb2 (fsI l) v W (h2.below hb))
  rw [hR] at HC1 HC2
  have HF1 := hide (fun W (hb : Below w.heap.size w W) => jFirst l ao c W (hN.below hb))
  have HAK := hide (fun W x y cx cy x2 y2 cx2 cy2 (h1 : Th W R x y cx cy) (h2 : Th W R x2 y2 cx2 cy2) => dAlike R R x y x2 y2 cx cy cx2 cy2 W h1 h2)
  simp only [decide_true] at HAK
  have hnum := tNum
  have HT1 := hide (fun W (hb : Below w.heap.size w W) => h.below hb)
  have HT2 := hide (fun W (hb : Below w.heap.size w W) => h2.below hb)
  have HSA := hide (seven3 w (.int .i64 t.n) (.slice a t.s.length ca) (.slice b t.d.length cb) (.slice a2 t.s.length ca2) (.slice b2 t.d.length cb2) (.int .i64 3) (.int .i64 gk) (.slice ao l.length c) (.int .i64 v))
  have HSB := hide (seven3s w (.int .i64 t.n) (.slice a t.s.length ca) (.slice b t.d.length cb) (.slice a2 t.s.length ca2) (.slice b2 t.d.length cb2) (.int .i64 3) (.int .i64 gk) (.slice ao l.length c) (.int .i64 v))
  have hu : True := by have := hT; have := hN; have := hl; have := hlc; have := gk; have := v; trivial
  clear hu h h2 hT hN hl hlc hR
  generalize fsI l = fq at *
  unfold tV at HC1 HC2 HAK ⊢
  simp only at *
  generalize t.n = tn at *
  generalize t.s.length = ns at *
  generalize t.d.length = nd at *
  generalize l.length = nl at *
  generalize R.n = rn at *
  generalize R.s.length = rs at *
  generalize R.d.length = rd at *
  go_enter Tryz.func9, Tryz.ntmps9
  go_upto_region 1 with fail
  go_cut [9, 10] from 17 (fun s9 s10 wq => ∃ gx gy : Nat, s9 = .pointer (some ⟨gx, 0, none⟩) /\ s10 = .pointer (some ⟨gy, 0, none⟩) /\ Hid (Dw w wq (.int .i64 tn) (.slice a ns ca) (.slice b nd cb) (.slice a2 ns ca2) (.slice b2 nd cb2) (.int .i64 3) (.int .i64 gk) (.slice ao nl c) (.int .i64 v) (.int .i64 tn) (.slice a ns ca) (.slice b nd cb) (.int .i64 tn) (.slice a2 ns ca2) (.slice b2 nd cb2) gx gy))
  case first =>
    go_region
    . go_wp2_with fail
      go_meet
      case rel => exact ⟨_, _, rfl, rfl, hide HSA.out.drew⟩
    . go_wp2_with fail
      go_meet
      case rel => exact ⟨_, _, rfl, rfl, hide HSB.out.drew⟩
  case rest =>
    obtain ⟨gx, gy, rfl, rfl, HD0⟩ := hcut
    clear HSA HSB
    obtain ⟨a0, a1, a2', a3, a4⟩ := HD0.out.ba.cells
    obtain ⟨t0, t1, t2, t3⟩ := HD0.out.bt.cells
    have HSV : Hid (∀ V e1 e2 e3 f1 f2 f3, Dw w V (.int .i64 tn) (.slice a ns ca) (.slice b nd cb) (.slice a2 ns ca2) (.slice b2 nd cb2) (.int .i64 3) (.int .i64 gk) (.slice ao nl c) (.int .i64 v) e1 e2 e3 f1 f2 f3 gx gy -> (Below w.heap.size w V /\ (V.cell? ⟨w.heap.size, 0, none⟩ = some (.int .i64 tn) /\ V.cell? ⟨w.heap.size, 1, none⟩ = some (.slice a ns ca) /\ V.cell? ⟨w.heap.size, 2, none⟩ = some (.slice b nd cb)) /\ V.cell? ⟨w.heap.size + 1 + 1, 2, none⟩ = some (.slice ao nl c) /\ V.cell? ⟨w.heap.size + 1 + 1, 3, none⟩ = some (.int .i64 v))) := hide (fun V e1 e2 e3 f1 f2 f3 hV => by
      obtain ⟨k0, k1, k2, -⟩ := hV.bt.cells
      obtain ⟨-, -, j2, j3, -⟩ := hV.ba.cells
      exact ⟨hV.bw, ⟨k0, k1, k2⟩, j2, j3⟩)
    have HD0' := hide HD0.out.drew
    go_upto_region 11 with fail
    clear a0 a1 a2' a3 a4 t0 t1 t2 t3
    go_region_held3 (fun V => Below w.heap.size w V /\ (V.cell? ⟨w.heap.size, 0, none⟩ = some (.int .i64 tn) /\ V.cell? ⟨w.heap.size, 1, none⟩ = some (.slice a ns ca) /\ V.cell? ⟨w.heap.size, 2, none⟩ = some (.slice b nd cb)) /\ V.cell? ⟨w.heap.size + 1 + 1, 2, none⟩ = some (.slice ao nl c) /\ V.cell? ⟨w.heap.size + 1 + 1, 3, none⟩ = some (.int .i64 v))
      (first | exact HSV.out _ _ _ _ _ _ _ HD0'.out | exact HSV.out _ _ _ _ _ _ _ hd6 | exact HSV.out _ _ _ _ _ _ _ hd5)
      (first
        | (go_at_call 22; (with_reducible refine Calls.mono (HF1.out _ (‹Below w.heap.size w _ /\ _›.1)) ?_); rintro e w4 ⟨rfl, rfl⟩)
        | (go_at_call 24; (with_reducible refine Calls.mono (HC1.out _ (‹Below w.heap.size w _ /\ _›.1)) ?_); rintro e w5 ⟨xa, xb, xca, xcb, rfl, hx5, hb5⟩; have hd5 := HD0'.out.keep hb5; obtain ⟨g0, g1, g2, g3⟩ := hd5.x.cells; have gf := hd5.x.fz; have hd6 := hd5.setx (.int .i64 rn) (.slice xa rs xca) (.slice xb rd xcb); have h6 := hd5.x; unfold At3 at h6; rw [← c3_setD _ _ _ _ _ _ _ _ _ h6] at hd6; have hx6 := hx5.row (show At3 w5 gx _ _ _ from h6) #[.int .i64 rn, .slice xa rs xca, .slice xb rd xcb]; rw [← c3_setD _ _ _ _ _ _ _ _ _ h6] at hx6))
    have HD1 := hide hd6
    have HX1 := hide hx6
    clear hd6 hd5 hx6 hx5 hb5 h6 g0 g1 g2 g3 gf HSV HD0' HD0
    generalize ((w5.setCell ⟨gx, 0, none⟩ (.int .i64 rn)).setCell ⟨gx, 1, none⟩ (.slice xa rs xca)).setCell ⟨gx, 2, none⟩ (.slice xb rd xcb) = W1 at *
    obtain ⟨a0, a1, a2', a3, a4⟩ := HD1.out.ba.cells
    obtain ⟨t0, t1, t2, t3⟩ := HD1.out.bd.cells
    have HSV : Hid (∀ V e1 e2 e3 f1 f2 f3, Dw w V (.int .i64 tn) (.slice a ns ca) (.slice b nd cb) (.slice a2 ns ca2) (.slice b2 nd cb2) (.int .i64 3) (.int .i64 gk) (.slice ao nl c) (.int .i64 v) e1 e2 e3 f1 f2 f3 gx gy -> (Below w.heap.size w V /\ (V.cell? ⟨w.heap.size + 1, 0, none⟩ = some (.int .i64 tn) /\ V.cell? ⟨w.heap.size + 1, 1, none⟩ = some (.slice a2 ns ca2) /\ V.cell? ⟨w.heap.size + 1, 2, none⟩ = some (.slice b2 nd cb2)) /\ V.cell? ⟨w.heap.size + 1 + 1, 2, none⟩ = some (.slice ao nl c) /\ V.cell? ⟨w.heap.size + 1 + 1, 3, none⟩ = some (.int .i64 v))) := hide (fun V e1 e2 e3 f1 f2 f3 hV => by
      obtain ⟨k0, k1, k2, -⟩ := hV.bd.cells
      obtain ⟨-, -, j2, j3, -⟩ := hV.ba.cells
      exact ⟨hV.bw, ⟨k0, k1, k2⟩, j2, j3⟩)
    have HD0' := hide HD1.out.drew
    go_upto_region 12 with fail
    clear a0 a1 a2' a3 a4 t0 t1 t2 t3
    go_region_held3 (fun V => Below w.heap.size w V /\ (V.cell? ⟨w.heap.size + 1, 0, none⟩ = some (.int .i64 tn) /\ V.cell? ⟨w.heap.size + 1, 1, none⟩ = some (.slice a2 ns ca2) /\ V.cell? ⟨w.heap.size + 1, 2, none⟩ = some (.slice b2 nd cb2)) /\ V.cell? ⟨w.heap.size + 1 + 1, 2, none⟩ = some (.slice ao nl c) /\ V.cell? ⟨w.heap.size + 1 + 1, 3, none⟩ = some (.int .i64 v))
      (first | exact HSV.out _ _ _ _ _ _ _ HD0'.out | exact HSV.out _ _ _ _ _ _ _ hd6 | exact HSV.out _ _ _ _ _ _ _ hd5)
      (first
        | (go_at_call 22; (with_reducible refine Calls.mono (HF1.out _ (‹Below w.heap.size w _ /\ _›.1)) ?_); rintro e w4 ⟨rfl, rfl⟩)
        | (go_at_call 25; (with_reducible refine Calls.mono (HC2.out _ (‹Below w.heap.size w _ /\ _›.1)) ?_); rintro e w5 ⟨ya, yb, yca, ycb, rfl, hx5, hb5⟩; have hd5 := HD0'.out.keep hb5; obtain ⟨g0, g1, g2, g3⟩ := hd5.y.cells; have gf := hd5.y.fz; have hd6 := hd5.sety (.int .i64 rn) (.slice ya rs yca) (.slice yb rd ycb); have h6 := hd5.y; unfold At3 at h6; rw [← c3_setD _ _ _ _ _ _ _ _ _ h6] at hd6; have hx6 := hx5.row (show At3 w5 gy _ _ _ from h6) #[.int .i64 rn, .slice ya rs yca, .slice yb rd ycb]; rw [← c3_setD _ _ _ _ _ _ _ _ _ h6] at hx6; have hz5 := HX1.out.below (Below.drew (Below.refl _ _)); have hz6 := (hz5.below hb5).row (show At3 w5 gy _ _ _ from h6) #[.int .i64 rn, .slice ya rs yca, .slice yb rd ycb]; rw [← c3_setD _ _ _ _ _ _ _ _ _ h6] at hz6))
    have HD4 := hide hd6
    have HY4 := hide hx6
    have HX4 := hide hz6
    clear hd6 hd5 hx6 hx5 hb5 h6 g0 g1 g2 g3 gf HSV HD0' HD1 hz5 hz6 HX1
    generalize ((w5.setCell ⟨gy, 0, none⟩ (.int .i64 rn)).setCell ⟨gy, 1, none⟩ (.slice ya rs yca)).setCell ⟨gy, 2, none⟩ (.slice yb rd ycb) = W2 at *
    go_upto_region 21 with fail
    obtain ⟨x0, x1, x2, x3⟩ := HD4.out.x.cells
    obtain ⟨y0, y1, y2, y3⟩ := HD4.out.y.cells
    go_wp2_with (first
      | (go_at_call 7; (with_reducible refine Calls.mono (hnum _ _) ?_); rintro e w3 ⟨rfl, rfl⟩))
    refine (HAK.out _ _ _ _ _ _ _ _ _ HX4.out HY4.out).mono ?_
    rintro e w5 ⟨rfl, hb5⟩
    have HD5 := hide (HD4.out.keep hb5)
    have HX5 := hide (HX4.out.below hb5)
    have HY5 := hide (HY4.out.below hb5)
    clear hb5 HD4 HX4 HY4 x0 x1 x2 x3 y0 y1 y2 y3
    obtain ⟨r0, r1, r2, r3⟩ := HD5.out.x.cells
    obtain ⟨s0, s1, s2, s3⟩ := HD5.out.y.cells
    obtain ⟨p0, p1, p2, p3⟩ := HD5.out.b6.cells
    obtain ⟨q0, q1, q2, q3⟩ := HD5.out.b7.cells
    have pf := HD5.out.b6.fz
    have qf := HD5.out.b7.fz
    have n1 : ¬ gy = w.heap.size + 1 + 1 + 1 := by have := HD5.out.hy; omega
    have n2 : ¬ w.heap.size + 1 + 1 + 1 = gy := by have := HD5.out.hy; omega
    go_upto_region 25 with (first
      | (go_at_call 7; (with_reducible refine Calls.mono (hnum _ _) ?_); rintro e w3 ⟨rfl, rfl⟩))
    go_region
    obtain ⟨f1, f2, f3, f4⟩ := HD5.out.fin (.int .i64 rn) (.slice xa rs xca) (.slice xb rd xcb) (.int .i64 rn) (.slice ya rs yca) (.slice yb rd ycb)
    clear r0 r1 r2 r3 s0 s1 s2 s3 p0 p1 p2 p3 q0 q1 q2 q3 pf qf
    have HF := hide (And.intro f3 (And.intro (f4 _ _ _ _ _ HX5.out) (f4 _ _ _ _ _ HY5.out)))
    clear f3 f4
    go_wp2_with fail
    refine bodyPost_ret (results_cct rfl _ _ (w.heap.size + 1 + 1 + 1) (w.heap.size + 1 + 1 + 1 + 1) _ _ _ _ _ _ _ _ rfl f1 rfl f2 Tryz.underlying29 rfl (by exact infoT) Tryz.underlying29 rfl (by exact infoT)) rfl ?_
    exact ⟨_, _, _, _, _, _, _, _, rfl, ⟨HF.out.2.1, HF.out.2.2⟩, HF.out.1⟩
theorem jDone3_no (t R : TT) (rc : Int) (a b a2 b2 : Option Addr) (ca cb ca2 cb2 : Nat) (gk v : Int) (l : List Int) (hl : l.length <= 1000000000000000) (ao : Option Addr) (c : Nat) (hlc : l.length <= c) (hR : stR t (fsI l) v = (R, rc)) (hrc : rc ≠ 0) (w : World) (h : Th w t a b ca cb) (h2 : Th w t a2 b2 ca2 cb2) (hT : Tg w) (hN : Ns w ao l) :
    Calls Tryz.prog 9 #[tV t a b ca cb, tV t a2 b2 ca2 cb2, .agg #[.int .i64 3, .int .i64 gk, .slice ao l.length c, .int .i64 v]] w fun e w' => ∃ a' b' ca' cb' a3 b3 ca3 cb3, e = .returned (.tuple #[tV t a' b' ca' cb', tV t a3 b3 ca3 cb3, .bool true]) /\ (Th w' t a' b' ca' cb' /\ Th w' t a3 b3 ca3 cb3) /\ Below w.heap.size w w' := by
  have HC1 := hide (fun W (hb : Below w.heap.size w W) => tSettle t a b ca cb (fsI l) v W (h.below hb) (hT.below hb))
  have HC2 := hide (fun W (hb : Below w.heap.size w W) => dSettle t a2 b2 ca2 cb2 (fsI l) v W (h2.below hb))
  rw [hR] at HC1 HC2
  have HF1 := hide (fun W (hb : Below w.heap.size w W) => jFirst l ao c W (hN.below hb))
  have HAK := hide (fun W x y cx cy x2 y2 cx2 cy2 (h1 : Th W R x y cx cy) (h2 : Th W R x2 y2 cx2 cy2) => dAlike R R x y x2 y2 cx cy cx2 cy2 W h1 h2)
  simp only [decide_true] at HAK
  have hnum := tNum
  have HT1 := hide (fun W (hb : Below w.heap.size w W) => h.below hb)
  have HT2 := hide (fun W (hb : Below w.heap.size w W) => h2.below hb)
  have HSA := hide (seven3 w (.int .i64 t.n) (.slice a t.s.length ca) (.slice b t.d.length cb) (.slice a2 t.s.length ca2) (.slice b2 t.d.length cb2) (.int .i64 3) (.int .i64 gk) (.slice ao l.length c) (.int .i64 v))
  have HSB := hide (seven3s w (.int .i64 t.n) (.slice a t.s.length ca) (.slice b t.d.length cb) (.slice a2 t.s.length ca2) (.slice b2 t.d.length cb2) (.int .i64 3) (.int .i64 gk) (.slice ao l.length c) (.int .i64 v))
  have hr0 : (rc != 0) = true := bne_iff_ne.2 hrc
  have hrr : (rc != rc) = false := by simp
  have hu : True := by have := hT; have := hN; have := hl; have := hlc; have := gk; have := v; trivial
  clear hu h h2 hT hN hl hlc hR hrc
  generalize fsI l = fq at *
  unfold tV at HC1 HC2 HAK ⊢
  simp only at *
  generalize t.n = tn at *
  generalize t.s.length = ns at *
  generalize t.d.length = nd at *
  generalize l.length = nl at *
  generalize R.n = rn at *
  generalize R.s.length = rs at *
  generalize R.d.length = rd at *
  go_enter Tryz.func9, Tryz.ntmps9
  go_upto_region 1 with fail
  go_cut [9, 10] from 17 (fun s9 s10 wq => ∃ gx gy : Nat, s9 = .pointer (some ⟨gx, 0, none⟩) /\ s10 = .pointer (some ⟨gy, 0, none⟩) /\ Hid (Dw w wq (.int .i64 tn) (.slice a ns ca) (.slice b nd cb) (.slice a2 ns ca2) (.slice b2 nd cb2) (.int .i64 3) (.int .i64 gk) (.slice ao nl c) (.int .i64 v) (.int .i64 tn) (.slice a ns ca) (.slice b nd cb) (.int .i64 tn) (.slice a2 ns ca2) (.slice b2 nd cb2) gx gy))
  case first =>
    go_region
    . go_wp2_with fail
      go_meet
      case rel => exact ⟨_, _, rfl, rfl, hide HSA.out.drew⟩
    . go_wp2_with fail
      go_meet
      case rel => exact ⟨_, _, rfl, rfl, hide HSB.out.drew⟩
  case rest =>
    obtain ⟨gx, gy, rfl, rfl, HD0⟩ := hcut
    clear HSA HSB
    obtain ⟨a0, a1, a2', a3, a4⟩ := HD0.out.ba.cells
    obtain ⟨t0, t1, t2, t3⟩ := HD0.out.bt.cells
    have HSV : Hid (∀ V e1 e2 e3 f1 f2 f3, Dw w V (.int .i64 tn) (.slice a ns ca) (.slice b nd cb) (.slice a2 ns ca2) (.slice b2 nd cb2) (.int .i64 3) (.int .i64 gk) (.slice ao nl c) (.int .i64 v) e1 e2 e3 f1 f2 f3 gx gy -> (Below w.heap.size w V /\ (V.cell? ⟨w.heap.size, 0, none⟩ = some (.int .i64 tn) /\ V.cell? ⟨w.heap.size, 1, none⟩ = some (.slice a ns ca) /\ V.cell? ⟨w.heap.size, 2, none⟩ = some (.slice b nd cb)) /\ V.cell? ⟨w.heap.size + 1 + 1, 2, none⟩ = some (.slice ao nl c) /\ V.cell? ⟨w.heap.size + 1 + 1, 3, none⟩ = some (.int .i64 v))) := hide (fun V e1 e2 e3 f1 f2 f3 hV => by
      obtain ⟨k0, k1, k2, -⟩ := hV.bt.cells
      obtain ⟨-, -, j2, j3, -⟩ := hV.ba.cells
      exact ⟨hV.bw, ⟨k0, k1, k2⟩, j2, j3⟩)
    have HD0' := hide HD0.out.drew
    go_upto_region 11 with fail
    clear a0 a1 a2' a3 a4 t0 t1 t2 t3
    go_region_held3 (fun V => Below w.heap.size w V /\ (V.cell? ⟨w.heap.size, 0, none⟩ = some (.int .i64 tn) /\ V.cell? ⟨w.heap.size, 1, none⟩ = some (.slice a ns ca) /\ V.cell? ⟨w.heap.size, 2, none⟩ = some (.slice b nd cb)) /\ V.cell? ⟨w.heap.size + 1 + 1, 2, none⟩ = some (.slice ao nl c) /\ V.cell? ⟨w.heap.size + 1 + 1, 3, none⟩ = some (.int .i64 v))
      (first | exact HSV.out _ _ _ _ _ _ _ HD0'.out | exact HSV.out _ _ _ _ _ _ _ hd6 | exact HSV.out _ _ _ _ _ _ _ hd5)
      (first
        | (go_at_call 22; (with_reducible refine Calls.mono (HF1.out _ (‹Below w.heap.size w _ /\ _›.1)) ?_); rintro e w4 ⟨rfl, rfl⟩)
        | (go_at_call 24; (with_reducible refine Calls.mono (HC1.out _ (‹Below w.heap.size w _ /\ _›.1)) ?_); rintro e w5 ⟨xa, xb, xca, xcb, rfl, hx5, hb5⟩; have hd5 := HD0'.out.keep hb5; obtain ⟨g0, g1, g2, g3⟩ := hd5.x.cells; have gf := hd5.x.fz; have hd6 := hd5.setx (.int .i64 rn) (.slice xa rs xca) (.slice xb rd xcb); have h6 := hd5.x; unfold At3 at h6; rw [← c3_setD _ _ _ _ _ _ _ _ _ h6] at hd6; have hx6 := hx5.row (show At3 w5 gx _ _ _ from h6) #[.int .i64 rn, .slice xa rs xca, .slice xb rd xcb]; rw [← c3_setD _ _ _ _ _ _ _ _ _ h6] at hx6))
    have HD1 := hide hd6
    have HX1 := hide hx6
    clear hd6 hd5 hx6 hx5 hb5 h6 g0 g1 g2 g3 gf HSV HD0' HD0
    generalize ((w5.setCell ⟨gx, 0, none⟩ (.int .i64 rn)).setCell ⟨gx, 1, none⟩ (.slice xa rs xca)).setCell ⟨gx, 2, none⟩ (.slice xb rd xcb) = W1 at *
    obtain ⟨a0, a1, a2', a3, a4⟩ := HD1.out.ba.cells
    obtain ⟨t0, t1, t2, t3⟩ := HD1.out.bd.cells
    have HSV : Hid (∀ V e1 e2 e3 f1 f2 f3, Dw w V (.int .i64 tn) (.slice a ns ca) (.slice b nd cb) (.slice a2 ns ca2) (.slice b2 nd cb2) (.int .i64 3) (.int .i64 gk) (.slice ao nl c) (.int .i64 v) e1 e2 e3 f1 f2 f3 gx gy -> (Below w.heap.size w V /\ (V.cell? ⟨w.heap.size + 1, 0, none⟩ = some (.int .i64 tn) /\ V.cell? ⟨w.heap.size + 1, 1, none⟩ = some (.slice a2 ns ca2) /\ V.cell? ⟨w.heap.size + 1, 2, none⟩ = some (.slice b2 nd cb2)) /\ V.cell? ⟨w.heap.size + 1 + 1, 2, none⟩ = some (.slice ao nl c) /\ V.cell? ⟨w.heap.size + 1 + 1, 3, none⟩ = some (.int .i64 v))) := hide (fun V e1 e2 e3 f1 f2 f3 hV => by
      obtain ⟨k0, k1, k2, -⟩ := hV.bd.cells
      obtain ⟨-, -, j2, j3, -⟩ := hV.ba.cells
      exact ⟨hV.bw, ⟨k0, k1, k2⟩, j2, j3⟩)
    have HD0' := hide HD1.out.drew
    go_upto_region 12 with fail
    clear a0 a1 a2' a3 a4 t0 t1 t2 t3
    go_region_held3 (fun V => Below w.heap.size w V /\ (V.cell? ⟨w.heap.size + 1, 0, none⟩ = some (.int .i64 tn) /\ V.cell? ⟨w.heap.size + 1, 1, none⟩ = some (.slice a2 ns ca2) /\ V.cell? ⟨w.heap.size + 1, 2, none⟩ = some (.slice b2 nd cb2)) /\ V.cell? ⟨w.heap.size + 1 + 1, 2, none⟩ = some (.slice ao nl c) /\ V.cell? ⟨w.heap.size + 1 + 1, 3, none⟩ = some (.int .i64 v))
      (first | exact HSV.out _ _ _ _ _ _ _ HD0'.out | exact HSV.out _ _ _ _ _ _ _ hd6 | exact HSV.out _ _ _ _ _ _ _ hd5)
      (first
        | (go_at_call 22; (with_reducible refine Calls.mono (HF1.out _ (‹Below w.heap.size w _ /\ _›.1)) ?_); rintro e w4 ⟨rfl, rfl⟩)
        | (go_at_call 25; (with_reducible refine Calls.mono (HC2.out _ (‹Below w.heap.size w _ /\ _›.1)) ?_); rintro e w5 ⟨ya, yb, yca, ycb, rfl, hx5, hb5⟩; have hd5 := HD0'.out.keep hb5; obtain ⟨g0, g1, g2, g3⟩ := hd5.y.cells; have gf := hd5.y.fz; have hd6 := hd5.sety (.int .i64 rn) (.slice ya rs yca) (.slice yb rd ycb); have h6 := hd5.y; unfold At3 at h6; rw [← c3_setD _ _ _ _ _ _ _ _ _ h6] at hd6; have hx6 := hx5.row (show At3 w5 gy _ _ _ from h6) #[.int .i64 rn, .slice ya rs yca, .slice yb rd ycb]; rw [← c3_setD _ _ _ _ _ _ _ _ _ h6] at hx6; have hz5 := HX1.out.below (Below.drew (Below.refl _ _)); have hz6 := (hz5.below hb5).row (show At3 w5 gy _ _ _ from h6) #[.int .i64 rn, .slice ya rs yca, .slice yb rd ycb]; rw [← c3_setD _ _ _ _ _ _ _ _ _ h6] at hz6))
    have HD4 := hide hd6
    have HY4 := hide hx6
    have HX4 := hide hz6
    clear hd6 hd5 hx6 hx5 hb5 h6 g0 g1 g2 g3 gf HSV HD0' HD1 hz5 hz6 HX1
    generalize ((w5.setCell ⟨gy, 0, none⟩ (.int .i64 rn)).setCell ⟨gy, 1, none⟩ (.slice ya rs yca)).setCell ⟨gy, 2, none⟩ (.slice yb rd ycb) = W2 at *
    go_upto_region 21 with fail
    obtain ⟨x0, x1, x2, x3⟩ := HD4.out.x.cells
    obtain ⟨y0, y1, y2, y3⟩ := HD4.out.y.cells
    go_wp2_with (first
      | (go_at_call 7; (with_reducible refine Calls.mono (hnum _ _) ?_); rintro e w3 ⟨rfl, rfl⟩))
    refine (HAK.out _ _ _ _ _ _ _ _ _ HX4.out HY4.out).mono ?_
    rintro e w5 ⟨rfl, hb5⟩
    have HD5 := hide (HD4.out.keep hb5)
    have HX5 := hide (HX4.out.below hb5)
    have HY5 := hide (HY4.out.below hb5)
    clear hb5 HD4 HX4 HY4 x0 x1 x2 x3 y0 y1 y2 y3
    obtain ⟨r0, r1, r2, r3⟩ := HD5.out.bt.cells
    obtain ⟨s0, s1, s2, s3⟩ := HD5.out.bd.cells
    obtain ⟨p0, p1, p2, p3⟩ := HD5.out.b6.cells
    obtain ⟨q0, q1, q2, q3⟩ := HD5.out.b7.cells
    have pf := HD5.out.b6.fz
    have qf := HD5.out.b7.fz
    have n1 : ¬ gy = w.heap.size + 1 + 1 + 1 := by have := HD5.out.hy; omega
    have n2 : ¬ w.heap.size + 1 + 1 + 1 = gy := by have := HD5.out.hy; omega
    go_upto_region 24 with (first
      | (go_at_call 7; (with_reducible refine Calls.mono (hnum _ _) ?_); rintro e w3 ⟨rfl, rfl⟩))
    go_region
    obtain ⟨f1, f2, f3, f4⟩ := HD5.out.fin (.int .i64 tn) (.slice a ns ca) (.slice b nd cb) (.int .i64 tn) (.slice a2 ns ca2) (.slice b2 nd cb2)
    clear r0 r1 r2 r3 s0 s1 s2 s3 p0 p1 p2 p3 q0 q1 q2 q3 pf qf
    have HF := hide (And.intro f3 (And.intro (f4 _ _ _ _ _ (HT1.out _ HD5.out.bw)) (f4 _ _ _ _ _ (HT2.out _ HD5.out.bw))))
    clear f3 f4
    go_wp2_with fail
    refine bodyPost_ret (results_cct rfl _ _ (w.heap.size + 1 + 1 + 1) (w.heap.size + 1 + 1 + 1 + 1) _ _ _ _ _ _ _ _ rfl f1 rfl f2 Tryz.underlying29 rfl (by exact infoT) Tryz.underlying29 rfl (by exact infoT)) rfl ?_
    exact ⟨_, _, _, _, _, _, _, _, rfl, ⟨HF.out.2.1, HF.out.2.2⟩, HF.out.1⟩
theorem jDone5_ok (t R : TT) (a b a2 b2 : Option Addr) (ca cb ca2 cb2 : Nat) (gk v : Int) (l : List Int) (hl : l.length <= 1000000000000000) (ao : Option Addr) (c : Nat) (hlc : l.length <= c) (hR : krR (nwR v).1 t = (R, 0)) (w : World) (h : Th w t a b ca cb) (h2 : Th w t a2 b2 ca2 cb2) (hT : Tg w) (hN : Ns w ao l) :
    Calls Tryz.prog 9 #[tV t a b ca cb, tV t a2 b2 ca2 cb2, .agg #[.int .i64 5, .int .i64 gk, .slice ao l.length c, .int .i64 v]] w fun e w' => ∃ a' b' ca' cb' a3 b3 ca3 cb3, e = .returned (.tuple #[tV R a' b' ca' cb', tV R a3 b3 ca3 cb3, .bool true]) /\ (Th w' R a' b' ca' cb' /\ Th w' R a3 b3 ca3 cb3) /\ Below w.heap.size w w' := by
  have HN1 := hide (fun W => tNewR v W)
  have HN2 := hide (fun W => dNewR v W)
  have HC1 := hide (fun W x y cx cy (hb : Below w.heap.size w W) (hx : Th W (nwR v).1 x y cx cy) => tKron (nwR v).1 t x y a b cx cy ca cb W hx (h.below hb))
  have HC2 := hide (fun W x y cx cy (hb : Below w.heap.size w W) (hx : Th W (nwR v).1 x y cx cy) => dKron (nwR v).1 t x y a2 b2 cx cy ca2 cb2 W hx (h2.below hb))
  rw [hR] at HC1 HC2
  have HAK := hide (fun W x y cx cy x2 y2 cx2 cy2 (h1 : Th W R x y cx cy) (h2 : Th W R x2 y2 cx2 cy2) => dAlike R R x y x2 y2 cx cy cx2 cy2 W h1 h2)
  simp only [decide_true] at HAK
  have hnum := tNum
  have HT1 := hide (fun W (hb : Below w.heap.size w W) => h.below hb)
  have HT2 := hide (fun W (hb : Below w.heap.size w W) => h2.below hb)
  have HSA := hide (seven3 w (.int .i64 t.n) (.slice a t.s.length ca) (.slice b t.d.length cb) (.slice a2 t.s.length ca2) (.slice b2 t.d.length cb2) (.int .i64 5) (.int .i64 gk) (.slice ao l.length c) (.int .i64 v))
  have HSB := hide (seven3s w (.int .i64 t.n) (.slice a t.s.length ca) (.slice b t.d.length cb) (.slice a2 t.s.length ca2) (.slice b2 t.d.length cb2) (.int .i64 5) (.int .i64 gk) (.slice ao l.length c) (.int .i64 v))
  have hu : True := by have := hT; have := hN; have := hl; have := hlc; have := gk; have := v; trivial
  clear hu h h2 hT hN hl hlc hR
  generalize (nwR v).1 = U at *
  generalize (nwR v).2 = uc at *
  unfold tV at HC1 HC2 HN1 HN2 HAK ⊢
  simp only at *
  generalize t.n = tn at *
  generalize t.s.length = ns at *
  generalize t.d.length = nd at *
  generalize l.length = nl at *
  generalize U.n = un at *
  generalize U.s.length = us at *
  generalize U.d.length = ud at *
  generalize R.n = rn at *
  generalize R.s.length = rs at *
  generalize R.d.length = rd at *
  go_enter Tryz.func9, Tryz.ntmps9
  go_upto_region 1 with fail
  go_cut [9, 10] from 17 (fun s9 s10 wq => ∃ gx gy : Nat, s9 = .pointer (some ⟨gx, 0, none⟩) /\ s10 = .pointer (some ⟨gy, 0, none⟩) /\ Hid (Dw w wq (.int .i64 tn) (.slice a ns ca) (.slice b nd cb) (.slice a2 ns ca2) (.slice b2 nd cb2) (.int .i64 5) (.int .i64 gk) (.slice ao nl c) (.int .i64 v) (.int .i64 tn) (.slice a ns ca) (.slice b nd cb) (.int .i64 tn) (.slice a2 ns ca2) (.slice b2 nd cb2) gx gy))
  case first =>
    go_region
    . go_wp2_with fail
      go_meet
      case rel => exact ⟨_, _, rfl, rfl, hide HSA.out.drew⟩
    . go_wp2_with fail
      go_meet
      case rel => exact ⟨_, _, rfl, rfl, hide HSB.out.drew⟩
  case rest =>
    obtain ⟨gx, gy, rfl, rfl, HD0⟩ := hcut
    clear HSA HSB
    obtain ⟨a0, a1, a2', a3, a4⟩ := HD0.out.ba.cells
    obtain ⟨t0, t1, t2, t3⟩ := HD0.out.bt.cells
    go_wp2_with fail
    refine (HN1.out _).mono ?_
    rintro e w1 ⟨ua, ub, uca, ucb, rfl, hu1, hb1⟩
    have HD1 := hide ((HD0.out.keep hb1).keep (bnew w1 (.cells #[.int .i64 un, .slice ua us uca, .slice ub ud ucb] 29)))
    have HU1 := hide (hu1.below (bnew w1 (.cells #[.int .i64 un, .slice ua us uca, .slice ub ud ucb] 29)))
    have HB1 := hide (At3.new w1 (.int .i64 un) (.slice ua us uca) (.slice ub ud ucb))
    clear hu1 hb1 HD0 a0 a1 a2' a3 a4 t0 t1 t2 t3
    go_upto_region 18 with fail
    generalize w1.alloc (.cells #[.int .i64 un, .slice ua us uca, .slice ub ud ucb] 29) = W1 at *
    generalize w1.heap.size = gu at *
    obtain ⟨a0, a1, a2', a3, a4⟩ := HD1.out.ba.cells
    go_wp2_with fail
    refine (HN2.out _).mono ?_
    rintro e w2 ⟨va, vb, vca, vcb, rfl, hv2, hb2⟩
    have hbn := bnew w2 (.cells #[.int .i64 un, .slice va us vca, .slice vb ud vcb] 29)
    have HGV : Hid (gx < w2.heap.size) := hide (HD1.out.keep hb2).x.lt
    have HD2 := hide ((HD1.out.keep hb2).keep hbn)
    have HU2 := hide ((HU1.out.below hb2).below hbn)
    have HB2 := hide ((HB1.out.below hb2).below hbn)
    have HV2 := hide (hv2.below hbn)
    have HE2 := hide (At3.new w2 (.int .i64 un) (.slice va us vca) (.slice vb ud vcb))
    clear hv2 hb2 hbn HD1 HU1 HB1 a0 a1 a2' a3 a4
    go_upto_region 19 with fail
    generalize w2.alloc (.cells #[.int .i64 un, .slice va us vca, .slice vb ud vcb] 29) = W2' at *
    generalize w2.heap.size = gv at *
    obtain ⟨a0, a1, a2', a3⟩ := HB2.out.cells
    obtain ⟨t0, t1, t2, t3⟩ := HD2.out.bt.cells
    go_wp2_with fail
    refine (HC1.out _ _ _ _ _ HD2.out.bw HU2.out).mono ?_
    rintro e w3 ⟨xa, xb, xca, xcb, rfl, hx3, hb3⟩
    have HD3 := hide (HD2.out.keep hb3)
    have HX3 := hide hx3
    have HV3 := hide (HV2.out.below hb3)
    have HE3 := hide (HE2.out.below hb3)
    clear hx3 hb3 HD2 HU2 HB2 HV2 HE2 a0 a1 a2' a3 t0 t1 t2 t3
    have hRx := HD3.out.x
    unfold At3 at hRx
    have HD4' := hide (HD3.out.setx (.int .i64 rn) (.slice xa rs xca) (.slice xb rd xcb))
    have HX4' := hide (HX3.out.row (show At3 w3 gx _ _ _ from hRx) #[.int .i64 rn, .slice xa rs xca, .slice xb rd xcb])
    have HV4' := hide (HV3.out.row (show At3 w3 gx _ _ _ from hRx) #[.int .i64 rn, .slice xa rs xca, .slice xb rd xcb])
    go_upto_region 20 with (first
      | (refine wpList_store_row rfl _ _ _ rfl gx _ rfl rfl _ _ hRx (by exact infoT) (by rfl) (all3 _ _ _ _ _ _ _) ?_))
    have HE4 : Hid (At3 (w3.setRow gx #[.int .i64 rn, .slice xa rs xca, .slice xb rd xcb]) gv (.int .i64 un) (.slice va us vca) (.slice vb ud vcb)) := hide ((setRow_other _ _ _ _ (by have := HGV.out; omega)).trans HE3.out)
    clear hRx HD3 HX3 HV3 HE3
    generalize w3.setRow gx #[.int .i64 rn, .slice xa rs xca, .slice xb rd xcb] = W3 at *
    obtain ⟨a0, a1, a2', a3⟩ := HE4.out.cells
    obtain ⟨t0, t1, t2, t3⟩ := HD4'.out.bd.cells
    go_wp2_with fail
    refine (HC2.out _ _ _ _ _ HD4'.out.bw HV4'.out).mono ?_
    rintro e w4 ⟨ya, yb, yca, ycb, rfl, hy1, hb2⟩
    have HD3 := hide (HD4'.out.keep hb2)
    have HY1 := hide hy1
    have HX3 := hide (HX4'.out.below hb2)
    clear hy1 hb2 HD4' HX4' HV4' HE4 HGV a0 a1 a2' a3 t0 t1 t2 t3
    have hRy := HD3.out.y
    unfold At3 at hRy
    have HD4 := hide (HD3.out.sety (.int .i64 rn) (.slice ya rs yca) (.slice yb rd ycb))
    have HX4 := hide (HX3.out.row (show At3 w4 gy _ _ _ from hRy) #[.int .i64 rn, .slice ya rs yca, .slice yb rd ycb])
    have HY4 := hide (HY1.out.row (show At3 w4 gy _ _ _ from hRy) #[.int .i64 rn, .slice ya rs yca, .slice yb rd ycb])
    go_upto_region 21 with (first
      | (refine wpList_store_row rfl _ _ _ rfl gy _ rfl rfl _ _ hRy (by exact infoT) (by rfl) (all3 _ _ _ _ _ _ _) ?_))
    clear hRy HD3 HX3 HY1
    generalize w4.setRow gy #[.int .i64 rn, .slice ya rs yca, .slice yb rd ycb] = W2 at *
    obtain ⟨x0, x1, x2, x3⟩ := HD4.out.x.cells
    obtain ⟨y0, y1, y2, y3⟩ := HD4.out.y.cells
    go_wp2_with (first
      | (go_at_call 7; (with_reducible refine Calls.mono (hnum _ _) ?_); rintro e w3 ⟨rfl, rfl⟩))
    refine (HAK.out _ _ _ _ _ _ _ _ _ HX4.out HY4.out).mono ?_
    rintro e w5 ⟨rfl, hb5⟩
    have HD5 := hide (HD4.out.keep hb5)
    have HX5 := hide (HX4.out.below hb5)
    have HY5 := hide (HY4.out.below hb5)
    clear hb5 HD4 HX4 HY4 x0 x1 x2 x3 y0 y1 y2 y3
    obtain ⟨r0, r1, r2, r3⟩ := HD5.out.x.cells
    obtain ⟨s0, s1, s2, s3⟩ := HD5.out.y.cells
    obtain ⟨p0, p1, p2, p3⟩ := HD5.out.b6.cells
    obtain ⟨q0, q1, q2, q3⟩ := HD5.out.b7.cells
    have pf := HD5.out.b6.fz
    have qf := HD5.out.b7.fz
    have n1 : ¬ gy = w.heap.size + 1 + 1 + 1 := by have := HD5.out.hy; omega
    have n2 : ¬ w.heap.size + 1 + 1 + 1 = gy := by have := HD5.out.hy; omega
    go_upto_region 25 with (first
      | (go_at_call 7; (with_reducible refine Calls.mono (hnum _ _) ?_); rintro e w3 ⟨rfl, rfl⟩))
    go_region
    obtain ⟨f1, f2, f3, f4⟩ := HD5.out.fin (.int .i64 rn) (.slice xa rs xca) (.slice xb rd xcb) (.int .i64 rn) (.slice ya rs yca) (.slice yb rd ycb)
    clear r0 r1 r2 r3 s0 s1 s2 s3 p0 p1 p2 p3 q0 q1 q2 q3 pf qf
    have HF := hide (And.intro f3 (And.intro (f4 _ _ _ _ _ HX5.out) (f4 _ _ _ _ _ HY5.out)))
    clear f3 f4
    go_wp2_with fail
    refine bodyPost_ret (results_cct rfl _ _ (w.heap.size + 1 + 1 + 1) (w.heap.size + 1 + 1 + 1 + 1) _ _ _ _ _ _ _ _ rfl f1 rfl f2 Tryz.underlying29 rfl (by exact infoT) Tryz.underlying29 rfl (by exact infoT)) rfl ?_
    exact ⟨_, _, _, _, _, _, _, _, rfl, ⟨HF.out.2.1, HF.out.2.2⟩, HF.out.1⟩
theorem jDone5_no (t R : TT) (rc : Int) (a b a2 b2 : Option Addr) (ca cb ca2 cb2 : Nat) (gk v : Int) (l : List Int) (hl : l.length <= 1000000000000000) (ao : Option Addr) (c : Nat) (hlc : l.length <= c) (hR : krR (nwR v).1 t = (R, rc)) (hrc : rc ≠ 0) (w : World) (h : Th w t a b ca cb) (h2 : Th w t a2 b2 ca2 cb2) (hT : Tg w) (hN : Ns w ao l) :
    Calls Tryz.prog 9 #[tV t a b ca cb, tV t a2 b2 ca2 cb2, .agg #[.int .i64 5, .int .i64 gk, .slice ao l.length c, .int .i64 v]] w fun e w' => ∃ a' b' ca' cb' a3 b3 ca3 cb3, e = .returned (.tuple #[tV t a' b' ca' cb', tV t a3 b3 ca3 cb3, .bool true]) /\ (Th w' t a' b' ca' cb' /\ Th w' t a3 b3 ca3 cb3) /\ Below w.heap.size w w' := by
  have HN1 := hide (fun W => tNewR v W)
  have HN2 := hide (fun W => dNewR v W)
  have HC1 := hide (fun W x y cx cy (hb : Below w.heap.size w W) (hx : Th W (nwR v).1 x y cx cy) => tKron (nwR v).1 t x y a b cx cy ca cb W hx (h.below hb))
  have HC2 := hide (fun W x y cx cy (hb : Below w.heap.size w W) (hx : Th W (nwR v).1 x y cx cy) => dKron (nwR v).1 t x y a2 b2 cx cy ca2 cb2 W hx (h2.below hb))
  rw [hR] at HC1 HC2
  have HAK := hide (fun W x y cx cy x2 y2 cx2 cy2 (h1 : Th W R x y cx cy) (h2 : Th W R x2 y2 cx2 cy2) => dAlike R R x y x2 y2 cx cy cx2 cy2 W h1 h2)
  simp only [decide_true] at HAK
  have hnum := tNum
  have HT1 := hide (fun W (hb : Below w.heap.size w W) => h.below hb)
  have HT2 := hide (fun W (hb : Below w.heap.size w W) => h2.below hb)
  have HSA := hide (seven3 w (.int .i64 t.n) (.slice a t.s.length ca) (.slice b t.d.length cb) (.slice a2 t.s.length ca2) (.slice b2 t.d.length cb2) (.int .i64 5) (.int .i64 gk) (.slice ao l.length c) (.int .i64 v))
  have HSB := hide (seven3s w (.int .i64 t.n) (.slice a t.s.length ca) (.slice b t.d.length cb) (.slice a2 t.s.length ca2) (.slice b2 t.d.length cb2) (.int .i64 5) (.int .i64 gk) (.slice ao l.length c) (.int .i64 v))
  have hr0 : (rc != 0) = true := bne_iff_ne.2 hrc
  have hrr : (rc != rc) = false := by simp
  have hu : True := by have := hT; have := hN; have := hl; have := hlc; have := gk; have := v; trivial
  clear hu h h2 hT hN hl hlc hR hrc
  generalize (nwR v).1 = U at *
  generalize (nwR v).2 = uc at *
  unfold tV at HC1 HC2 HN1 HN2 HAK ⊢
  simp only at *
  generalize t.n = tn at *
  generalize t.s.length = ns at *
  generalize t.d.length = nd at *
  generalize l.length = nl at *
  generalize U.n = un at *
  generalize U.s.length = us at *
  generalize U.d.length = ud at *
  generalize R.n = rn at *
  generalize R.s.length = rs at *
  generalize R.d.length = rd at *
  go_enter Tryz.func9, Tryz.ntmps9
  go_upto_region 1 with fail
  go_cut [9, 10] from 17 (fun s9 s10 wq => ∃ gx gy : Nat, s9 = .pointer (some ⟨gx, 0, none⟩) /\ s10 = .pointer (some ⟨gy, 0, none⟩) /\ Hid (Dw w wq (.int .i64 tn) (.slice a ns ca) (.slice b nd cb) (.slice a2 ns ca2) (.slice b2 nd cb2) (.int .i64 5) (.int .i64 gk) (.slice ao nl c) (.int .i64 v) (.int .i64 tn) (.slice a ns ca) (.slice b nd cb) (.int .i64 tn) (.slice a2 ns ca2) (.slice b2 nd cb2) gx gy))
  case first =>
    go_region
    . go_wp2_with fail
      go_meet
      case rel => exact ⟨_, _, rfl, rfl, hide HSA.out.drew⟩
    . go_wp2_with fail
      go_meet
      case rel => exact ⟨_, _, rfl, rfl, hide HSB.out.drew⟩
  case rest =>
    obtain ⟨gx, gy, rfl, rfl, HD0⟩ := hcut
    clear HSA HSB
    obtain ⟨a0, a1, a2', a3, a4⟩ := HD0.out.ba.cells
    obtain ⟨t0, t1, t2, t3⟩ := HD0.out.bt.cells
    go_wp2_with fail
    refine (HN1.out _).mono ?_
    rintro e w1 ⟨ua, ub, uca, ucb, rfl, hu1, hb1⟩
    have HD1 := hide ((HD0.out.keep hb1).keep (bnew w1 (.cells #[.int .i64 un, .slice ua us uca, .slice ub ud ucb] 29)))
    have HU1 := hide (hu1.below (bnew w1 (.cells #[.int .i64 un, .slice ua us uca, .slice ub ud ucb] 29)))
    have HB1 := hide (At3.new w1 (.int .i64 un) (.slice ua us uca) (.slice ub ud ucb))
    clear hu1 hb1 HD0 a0 a1 a2' a3 a4 t0 t1 t2 t3
    go_upto_region 18 with fail
    generalize w1.alloc (.cells #[.int .i64 un, .slice ua us uca, .slice ub ud ucb] 29) = W1 at *
    generalize w1.heap.size = gu at *
    obtain ⟨a0, a1, a2', a3, a4⟩ := HD1.out.ba.cells
    go_wp2_with fail
    refine (HN2.out _).mono ?_
    rintro e w2 ⟨va, vb, vca, vcb, rfl, hv2, hb2⟩
    have hbn := bnew w2 (.cells #[.int .i64 un, .slice va us vca, .slice vb ud vcb] 29)
    have HGV : Hid (gx < w2.heap.size) := hide (HD1.out.keep hb2).x.lt
    have HD2 := hide ((HD1.out.keep hb2).keep hbn)
    have HU2 := hide ((HU1.out.below hb2).below hbn)
    have HB2 := hide ((HB1.out.below hb2).below hbn)
    have HV2 := hide (hv2.below hbn)
    have HE2 := hide (At3.new w2 (.int .i64 un) (.slice va us vca) (.slice vb ud vcb))
    clear hv2 hb2 hbn HD1 HU1 HB1 a0 a1 a2' a3 a4
    go_upto_region 19 with fail
    generalize w2.alloc (.cells #[.int .i64 un, .slice va us vca, .slice vb ud vcb] 29) = W2' at *
    generalize w2.heap.size = gv at *
    obtain ⟨a0, a1, a2', a3⟩ := HB2.out.cells
    obtain ⟨t0, t1, t2, t3⟩ := HD2.out.bt.cells
    go_wp2_with fail
    refine (HC1.out _ _ _ _ _ HD2.out.bw HU2.out).mono ?_
    rintro e w3 ⟨xa, xb, xca, xcb, rfl, hx3, hb3⟩
    have HD3 := hide (HD2.out.keep hb3)
    have HX3 := hide hx3
    have HV3 := hide (HV2.out.below hb3)
    have HE3 := hide (HE2.out.below hb3)
    clear hx3 hb3 HD2 HU2 HB2 HV2 HE2 a0 a1 a2' a3 t0 t1 t2 t3
    have hRx := HD3.out.x
    unfold At3 at hRx
    have HD4' := hide (HD3.out.setx (.int .i64 rn) (.slice xa rs xca) (.slice xb rd xcb))
    have HX4' := hide (HX3.out.row (show At3 w3 gx _ _ _ from hRx) #[.int .i64 rn, .slice xa rs xca, .slice xb rd xcb])
    have HV4' := hide (HV3.out.row (show At3 w3 gx _ _ _ from hRx) #[.int .i64 rn, .slice xa rs xca, .slice xb rd xcb])
    go_upto_region 20 with (first
      | (refine wpList_store_row rfl _ _ _ rfl gx _ rfl rfl _ _ hRx (by exact infoT) (by rfl) (all3 _ _ _ _ _ _ _) ?_))
    have HE4 : Hid (At3 (w3.setRow gx #[.int .i64 rn, .slice xa rs xca, .slice xb rd xcb]) gv (.int .i64 un) (.slice va us vca) (.slice vb ud vcb)) := hide ((setRow_other _ _ _ _ (by have := HGV.out; omega)).trans HE3.out)
    clear hRx HD3 HX3 HV3 HE3
    generalize w3.setRow gx #[.int .i64 rn, .slice xa rs xca, .slice xb rd xcb] = W3 at *
    obtain ⟨a0, a1, a2', a3⟩ := HE4.out.cells
    obtain ⟨t0, t1, t2, t3⟩ := HD4'.out.bd.cells
    go_wp2_with fail
    refine (HC2.out _ _ _ _ _ HD4'.out.bw HV4'.out).mono ?_
    rintro e w4 ⟨ya, yb, yca, ycb, rfl, hy1, hb2⟩
    have HD3 := hide (HD4'.out.keep hb2)
    have HY1 := hide hy1
    have HX3 := hide (HX4'.out.below hb2)
    clear hy1 hb2 HD4' HX4' HV4' HE4 HGV a0 a1 a2' a3 t0 t1 t2 t3
    have hRy := HD3.out.y
    unfold At3 at hRy
    have HD4 := hide (HD3.out.sety (.int .i64 rn) (.slice ya rs yca) (.slice yb rd ycb))
    have HX4 := hide (HX3.out.row (show At3 w4 gy _ _ _ from hRy) #[.int .i64 rn, .slice ya rs yca, .slice yb rd ycb])
    have HY4 := hide (HY1.out.row (show At3 w4 gy _ _ _ from hRy) #[.int .i64 rn, .slice ya rs yca, .slice yb rd ycb])
    go_upto_region 21 with (first
      | (refine wpList_store_row rfl _ _ _ rfl gy _ rfl rfl _ _ hRy (by exact infoT) (by rfl) (all3 _ _ _ _ _ _ _) ?_))
    clear hRy HD3 HX3 HY1
    generalize w4.setRow gy #[.int .i64 rn, .slice ya rs yca, .slice yb rd ycb] = W2 at *
    obtain ⟨x0, x1, x2, x3⟩ := HD4.out.x.cells
    obtain ⟨y0, y1, y2, y3⟩ := HD4.out.y.cells
    go_wp2_with (first
      | (go_at_call 7; (with_reducible refine Calls.mono (hnum _ _) ?_); rintro e w3 ⟨rfl, rfl⟩))
    refine (HAK.out _ _ _ _ _ _ _ _ _ HX4.out HY4.out).mono ?_
    rintro e w5 ⟨rfl, hb5⟩
    have HD5 := hide (HD4.out.keep hb5)
    have HX5 := hide (HX4.out.below hb5)
    have HY5 := hide (HY4.out.below hb5)
    clear hb5 HD4 HX4 HY4 x0 x1 x2 x3 y0 y1 y2 y3
    obtain ⟨r0, r1, r2, r3⟩ := HD5.out.bt.cells
    obtain ⟨s0, s1, s2, s3⟩ := HD5.out.bd.cells
    obtain ⟨p0, p1, p2, p3⟩ := HD5.out.b6.cells
    obtain ⟨q0, q1, q2, q3⟩ := HD5.out.b7.cells
    have pf := HD5.out.b6.fz
    have qf := HD5.out.b7.fz
    have n1 : ¬ gy = w.heap.size + 1 + 1 + 1 := by have := HD5.out.hy; omega
    have n2 : ¬ w.heap.size + 1 + 1 + 1 = gy := by have := HD5.out.hy; omega
    go_upto_region 24 with (first
      | (go_at_call 7; (with_reducible refine Calls.mono (hnum _ _) ?_); rintro e w3 ⟨rfl, rfl⟩))
    go_region
    obtain ⟨f1, f2, f3, f4⟩ := HD5.out.fin (.int .i64 tn) (.slice a ns ca) (.slice b nd cb) (.int .i64 tn) (.slice a2 ns ca2) (.slice b2 nd cb2)
    clear r0 r1 r2 r3 s0 s1 s2 s3 p0 p1 p2 p3 q0 q1 q2 q3 pf qf
    have HF := hide (And.intro f3 (And.intro (f4 _ _ _ _ _ (HT1.out _ HD5.out.bw)) (f4 _ _ _ _ _ (HT2.out _ HD5.out.bw))))
    clear f3 f4
    go_wp2_with fail
    refine bodyPost_ret (results_cct rfl _ _ (w.heap.size + 1 + 1 + 1) (w.heap.size + 1 + 1 + 1 + 1) _ _ _ _ _ _ _ _ rfl f1 rfl f2 Tryz.underlying29 rfl (by exact infoT) Tryz.underlying29 rfl (by exact infoT)) rfl ?_
    exact ⟨_, _, _, _, _, _, _, _, rfl, ⟨HF.out.2.1, HF.out.2.2⟩, HF.out.1⟩
end Go.Proofs.YtpehekonjdneaaaGreatDoor.Tbl
