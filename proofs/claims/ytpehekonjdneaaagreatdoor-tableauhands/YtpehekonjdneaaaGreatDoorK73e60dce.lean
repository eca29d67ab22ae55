import Derived.Test.YtpehekonjdneaaaGreatDoorK60b42a2b
import Derived.Test.YtpehekonjdneaaaGreatDoorK239b1d01
set_option maxRecDepth 100000
set_option maxHeartbeats 8000000
namespace Go.Proofs.YtpehekonjdneaaaGreatDoor.Tbl
open Go.RowKit Go.Shelf Go.Proofs.YtpehekonjdneaaaGreatDoor.Pau Go.Proofs.YtpehekonjdneaaaGreatDoor.Gt
def dnR (t : TT) (k g : Int) (l : List Int) (v : Int) : TT × Int :=
  if k = 1 then gtR t g l else if k = 2 then prR t (fsI l) v else if k = 3 then stR t (fsI l) v else if k = 4 then orR t l else if k = 5 then krR (nwR v).1 t else (t, 0)
def dnT (t : TT) (k g : Int) (l : List Int) (v : Int) : TT := if (dnR t k g l v).2 = 0 then (dnR t k g l v).1 else t
theorem jDone (t : TT) (a b a2 b2 : Option Addr) (ca cb ca2 cb2 : Nat) (k g v : Int) (l : List Int) (hl : l.length <= 1000000000000000) (ao : Option Addr) (c : Nat) (hlc : l.length <= c) (w : World) (h : Th w t a b ca cb) (h2 : Th w t a2 b2 ca2 cb2) (hT : Tg w) (hN : Ns w ao l) :
    Calls Tryz.prog 9 #[tV t a b ca cb, tV t a2 b2 ca2 cb2, .agg #[.int .i64 k, .int .i64 g, .slice ao l.length c, .int .i64 v]] w fun e w' => ∃ a' b' ca' cb' a3 b3 ca3 cb3, e = .returned (.tuple #[tV (dnT t k g l v) a' b' ca' cb', tV (dnT t k g l v) a3 b3 ca3 cb3, .bool true]) /\ (Th w' (dnT t k g l v) a' b' ca' cb' /\ Th w' (dnT t k g l v) a3 b3 ca3 cb3) /\ Below w.heap.size w w' := by
  unfold dnT
  by_cases hr : (dnR t k g l v).2 = 0
  . rw [if_pos hr]
    unfold dnR at hr ⊢
    by_cases e1 : k = 1
    . subst e1
      rw [if_pos rfl] at hr ⊢
      exact jDone1_ok t _ a b a2 b2 ca cb ca2 cb2 g v l hl ao c hlc (Prod.ext rfl hr) w h h2 hT hN
    rw [if_neg e1] at hr ⊢
    by_cases e2 : k = 2
    . subst e2
      rw [if_pos rfl] at hr ⊢
      exact jDone2_ok t _ a b a2 b2 ca cb ca2 cb2 g v l hl ao c hlc (Prod.ext rfl hr) w h h2 hT hN
    rw [if_neg e2] at hr ⊢
    by_cases e3 : k = 3
    . subst e3
      rw [if_pos rfl] at hr ⊢
      exact jDone3_ok t _ a b a2 b2 ca cb ca2 cb2 g v l hl ao c hlc (Prod.ext rfl hr) w h h2 hT hN
    rw [if_neg e3] at hr ⊢
    by_cases e4 : k = 4
    . subst e4
      rw [if_pos rfl] at hr ⊢
      exact jDone4_ok t _ a b a2 b2 ca cb ca2 cb2 g v l hl ao c hlc (Prod.ext rfl hr) w h h2 hT hN
    rw [if_neg e4] at hr ⊢
    by_cases e5 : k = 5
    . subst e5
      rw [if_pos rfl] at hr ⊢
      exact jDone5_ok t _ a b a2 b2 ca cb ca2 cb2 g v l hl ao c hlc (Prod.ext rfl hr) w h h2 hT hN
    rw [if_neg e5]
    exact jDone0 t a b a2 b2 ca cb ca2 cb2 k g v l hl ao c hlc ⟨e1, e2, e3, e4, e5⟩ w h h2 hT hN
  . rw [if_neg hr]
    unfold dnR at hr
    by_cases e1 : k = 1
    . subst e1
      rw [if_pos rfl] at hr
      exact jDone1_no t _ _ a b a2 b2 ca cb ca2 cb2 g v l hl ao c hlc (Prod.ext rfl rfl) hr w h h2 hT hN
    rw [if_neg e1] at hr
    by_cases e2 : k = 2
    . subst e2
      rw [if_pos rfl] at hr
      exact jDone2_no t _ _ a b a2 b2 ca cb ca2 cb2 g v l hl ao c hlc (Prod.ext rfl rfl) hr w h h2 hT hN
    rw [if_neg e2] at hr
    by_cases e3 : k = 3
    . subst e3
      rw [if_pos rfl] at hr
      exact jDone3_no t _ _ a b a2 b2 ca cb ca2 cb2 g v l hl ao c hlc (Prod.ext rfl rfl) hr w h h2 hT hN
    rw [if_neg e3] at hr
    by_cases e4 : k = 4
    . subst e4
      rw [if_pos rfl] at hr
      exact jDone4_no t _ _ a b a2 b2 ca cb ca2 cb2 g v l hl ao c hlc (Prod.ext rfl rfl) hr w h h2 hT hN
    rw [if_neg e4] at hr
    by_cases e5 : k = 5
    . subst e5
      rw [if_pos rfl] at hr
      exact jDone5_no t _ _ a b a2 b2 ca cb ca2 cb2 g v l hl ao c hlc (Prod.ext rfl rfl) hr w h h2 hT hN
    rw [if_neg e5] at hr
    exact absurd rfl hr
structure Hw (w V : World) (t1 t2 t3 u1 u2 u3 a0 a1 a2 a3 p0 p1 p2 p3 : Value) : Prop where
  bt : At3 V w.heap.size t1 t2 t3
  bu : At3 V (w.heap.size + 1) u1 u2 u3
  ba : AtA V (w.heap.size + 1 + 1) a0 a1 a2 a3
  bp : At4 V (w.heap.size + 1 + 1 + 1) p0 p1 p2 p3
  bw : Below w.heap.size w V
theorem Hw.keep {w V V' : World} {t1 t2 t3 u1 u2 u3 a0 a1 a2 a3 p0 p1 p2 p3 : Value} (h : Hw w V t1 t2 t3 u1 u2 u3 a0 a1 a2 a3 p0 p1 p2 p3) (hb : Below V.heap.size V V') : Hw w V' t1 t2 t3 u1 u2 u3 a0 a1 a2 a3 p0 p1 p2 p3 :=
  ⟨h.bt.below hb, h.bu.below hb, h.ba.below hb, h.bp.below hb, bkp h.bw hb⟩
theorem four334 (w : World) (t1 t2 t3 u1 u2 u3 a0 a1 a2 a3 p0 p1 p2 p3 : Value) :
    Hw w ((((w.alloc (.cells #[t1, t2, t3] 29)).alloc (.cells #[u1, u2, u3] 29)).alloc (.cells #[a0, a1, a2, a3] 41)).alloc (.cells #[p0, p1, p2, p3] 25)) t1 t2 t3 u1 u2 u3 a0 a1 a2 a3 p0 p1 p2 p3 := by
  have hA : ∀ (V : World) (a b c d : Value), AtA (V.alloc (.cells #[a, b, c, d] 41)) V.heap.size a b c d := fun V a b c d => heap_alloc_new _ _
  have h1 := At3.new w t1 t2 t3
  generalize hV1 : w.alloc (.cells #[t1, t2, t3] 29) = V1 at *
  have s1 : V1.heap.size = w.heap.size + 1 := by rw [← hV1]; simp
  have b1 : Below w.heap.size w V1 := by rw [← hV1]; exact bnew _ _
  have h2 := At3.new V1 u1 u2 u3
  have k2 := bnew V1 (.cells #[u1, u2, u3] 29)
  generalize hV2 : V1.alloc (.cells #[u1, u2, u3] 29) = V2 at *
  have s2 : V2.heap.size = w.heap.size + 1 + 1 := by rw [← hV2]; simp [s1]
  have h3 := hA V2 a0 a1 a2 a3
  have k3 := bnew V2 (.cells #[a0, a1, a2, a3] 41)
  generalize hV3 : V2.alloc (.cells #[a0, a1, a2, a3] 41) = V3 at *
  have s3 : V3.heap.size = w.heap.size + 1 + 1 + 1 := by rw [← hV3]; simp [s2]
  have h4 := At4.new V3 p0 p1 p2 p3
  have k4 := bnew V3 (.cells #[p0, p1, p2, p3] 25)
  rw [s1] at h2; rw [s2] at h3; rw [s3] at h4
  exact ⟨((h1.below k2).below k3).below k4, (h2.below k3).below k4, h3.below k4, h4, bkp (bkp (bkp b1 k2) k3) k4⟩
theorem xTableauHands (t u : TT) (a b a2 b2 : Option Addr) (ca cb ca2 cb2 : Nat) (k g v : Int) (l : List Int) (hl : l.length <= 1000000000000000) (ao : Option Addr) (c : Nat) (hlc : l.length <= c) (p : P) (hp : Wd p) (m : List Int) (hm : m.length <= 1000000000000000) (so : Option Addr) (sc : Nat) (w : World) (hT : Tg w) (h : Th w t a b ca cb) (h2 : Th w u a2 b2 ca2 cb2) (hN : Ns w ao l) (hM : Ns w so m) :
    Calls Tryz.prog 4 #[tV t a b ca cb, tV u a2 b2 ca2 cb2, .agg #[.int .i64 k, .int .i64 g, .slice ao l.length c, .int .i64 v], pV p, .slice so m.length sc] w fun e w' => e = .returned (.bool true) /\ Below w.heap.size w w' := by
  have HD := hide (fun W (hb : Below w.heap.size w W) => jDone t a b a b ca cb ca cb k g v l hl ao c hlc W (h.below hb) (h.below hb) (hT.below hb) (hN.below hb))
  have HK1 := hide (fun W (hb : Below w.heap.size w W) => tKron t u a b a2 b2 ca cb ca2 cb2 W (h.below hb) (h2.below hb))
  have HK2 := hide (fun W (hb : Below w.heap.size w W) => dKron t u a b a2 b2 ca cb ca2 cb2 W (h.below hb) (h2.below hb))
  have HAK := hide (fun W x y cx cy x2 y2 cx2 cy2 (h1 : Th W (krR t u).1 x y cx cy) (h2 : Th W (krR t u).1 x2 y2 cx2 cy2) => dAlike (krR t u).1 (krR t u).1 x y x2 y2 cx cy cx2 cy2 W h1 h2)
  have HS1 := hide (fun W (hb : Below w.heap.size w W) => tSame t u a b a2 b2 ca cb ca2 cb2 W (h.below hb) (h2.below hb))
  have HS2 := hide (fun W (hb : Below w.heap.size w W) => dSame t u a b a2 b2 ca cb ca2 cb2 W (h.below hb) (h2.below hb))
  have HTE := hide (fun W (hb : Below w.heap.size w W) => jTells t a b a b ca cb ca cb p hp m hm so sc W (h.below hb) (h.below hb) (hM.below hb))
  have HAL := hide (fun W (hb : Below w.heap.size w W) => tAlive W (hT.below hb))
  have hnum := tNum
  simp only [decide_true] at HAK
  have HW0 := hide (four334 w (.int .i64 t.n) (.slice a t.s.length ca) (.slice b t.d.length cb) (.int .i64 u.n) (.slice a2 u.s.length ca2) (.slice b2 u.d.length cb2) (.int .i64 k) (.int .i64 g) (.slice ao l.length c) (.int .i64 v) (.int .i64 p.n) (.int .u64 (p.x : Int)) (.int .u64 (p.z : Int)) (.int .i64 p.ph))
  clear h h2 hT hN hM hl hlc hm hp
  generalize dnT t k g l v = D at *
  generalize krR t u = Kr at *
  obtain ⟨R, r⟩ := Kr
  generalize smB t u = sm at *
  obtain ⟨pn, px, pz, pph⟩ := p
  unfold pV at HTE ⊢
  unfold tV at HD HK1 HK2 HAK HS1 HS2 HTE ⊢
  simp only at *
  generalize t.n = tn at *
  generalize t.s.length = ns at *
  generalize t.d.length = nd at *
  generalize u.n = un at *
  generalize u.s.length = us at *
  generalize u.d.length = ud at *
  generalize R.n = rn at *
  generalize R.s.length = rs at *
  generalize R.d.length = rd at *
  generalize D.n = dn at *
  generalize D.s.length = ds at *
  generalize D.d.length = dd at *
  generalize l.length = nl at *
  generalize m.length = nm at *
  have hrr : (r == r) = true := by simp
  have hss : (sm == sm) = true := by simp
  go_enter Tryz.func4, Tryz.ntmps4
  go_upto_region 1 with fail
  generalize (((w.alloc (.cells #[.int .i64 tn, .slice a ns ca, .slice b nd cb] 29)).alloc (.cells #[.int .i64 un, .slice a2 us ca2, .slice b2 ud cb2] 29)).alloc (.cells #[.int .i64 k, .int .i64 g, .slice ao nl c, .int .i64 v] 41)).alloc (.cells #[.int .i64 pn, .int .u64 (px : Int), .int .u64 (pz : Int), .int .i64 pph] 25) = W0 at *
  obtain ⟨x0, x1, x2, x3⟩ := HW0.out.bt.cells
  obtain ⟨y0, y1, y2, y3, y4⟩ := HW0.out.ba.cells
  go_wp2_with fail
  refine (HD.out _ HW0.out.bw).mono ?_
  rintro e w1 ⟨a', b', ca', cb', a3, b3, ca3, cb3, rfl, -, hb1⟩
  have HW1 := hide (HW0.out.keep hb1)
  clear hb1 HW0 HD x0 x1 x2 x3 y0 y1 y2 y3 y4
  have HBN := hide (fun o o' => HW1.out.keep (bkp (bnew w1 o) (bnew _ o')))
  go_upto_region 2 with fail
  have HW2 := hide (HBN.out (.cells #[.int .i64 dn, .slice a' ds ca', .slice b' dd cb'] 29) (.cells #[.int .i64 dn, .slice a3 ds ca3, .slice b3 dd cb3] 29))
  clear HBN HW1
  generalize (w1.alloc (.cells #[.int .i64 dn, .slice a' ds ca', .slice b' dd cb'] 29)).alloc (.cells #[.int .i64 dn, .slice a3 ds ca3, .slice b3 dd cb3] 29) = W1 at *
  obtain ⟨x0, x1, x2, x3⟩ := HW2.out.bt.cells
  obtain ⟨y0, y1, y2, y3⟩ := HW2.out.bu.cells
  go_wp2_with fail
  refine (HK1.out _ HW2.out.bw).mono ?_
  rintro e w2 ⟨xa, xb, xca, xcb, rfl, hx2, hb2⟩
  have hbn := bnew w2 (.cells #[.int .i64 rn, .slice xa rs xca, .slice xb rd xcb] 29)
  have HW3 := hide ((HW2.out.keep hb2).keep hbn)
  have HG3 := hide (And.intro (At3.new w2 (.int .i64 rn) (.slice xa rs xca) (.slice xb rd xcb)) (hx2.below hbn))
  clear hx2 hb2 hbn HW2 HK1 x0 x1 x2 x3 y0 y1 y2 y3
  go_upto_region 3 with fail
  generalize w2.alloc (.cells #[.int .i64 rn, .slice xa rs xca, .slice xb rd xcb] 29) = W2 at *
  generalize w2.heap.size = gx at *
  obtain ⟨x0, x1, x2, x3⟩ := HW3.out.bt.cells
  obtain ⟨y0, y1, y2, y3⟩ := HW3.out.bu.cells
  go_wp2_with fail
  refine (HK2.out _ HW3.out.bw).mono ?_
  rintro e w3 ⟨ya, yb, yca, ycb, rfl, hy3, hb3⟩
  have hbn := bnew w3 (.cells #[.int .i64 rn, .slice ya rs yca, .slice yb rd ycb] 29)
  have HW4 := hide ((HW3.out.keep hb3).keep hbn)
  have HG4 := hide (And.intro ((HG3.out.1.below hb3).below hbn) ((HG3.out.2.below hb3).below hbn))
  have HH4 := hide (And.intro (At3.new w3 (.int .i64 rn) (.slice ya rs yca) (.slice yb rd ycb)) (hy3.below hbn))
  clear hy3 hb3 hbn HW3 HG3 HK2 x0 x1 x2 x3 y0 y1 y2 y3
  go_upto_region 4 with fail
  generalize w3.alloc (.cells #[.int .i64 rn, .slice ya rs yca, .slice yb rd ycb] 29) = V4 at *
  generalize w3.heap.size = gy at *
  have HSV : Hid (∀ V, Below V4.heap.size V4 V -> (Below V4.heap.size V4 V /\ (V.cell? ⟨w.heap.size, 0, none⟩ = some (.int .i64 tn) /\ V.cell? ⟨w.heap.size, 1, none⟩ = some (.slice a ns ca) /\ V.cell? ⟨w.heap.size, 2, none⟩ = some (.slice b nd cb)) /\ (V.cell? ⟨w.heap.size + 1, 0, none⟩ = some (.int .i64 un) /\ V.cell? ⟨w.heap.size + 1, 1, none⟩ = some (.slice a2 us ca2) /\ V.cell? ⟨w.heap.size + 1, 2, none⟩ = some (.slice b2 ud cb2)) /\ (V.cell? ⟨gx, 0, none⟩ = some (.int .i64 rn) /\ V.cell? ⟨gx, 1, none⟩ = some (.slice xa rs xca) /\ V.cell? ⟨gx, 2, none⟩ = some (.slice xb rd xcb)) /\ (V.cell? ⟨gy, 0, none⟩ = some (.int .i64 rn) /\ V.cell? ⟨gy, 1, none⟩ = some (.slice ya rs yca) /\ V.cell? ⟨gy, 2, none⟩ = some (.slice yb rd ycb)) /\ (V.cell? ⟨w.heap.size + 1 + 1 + 1, 0, none⟩ = some (.int .i64 pn) /\ V.cell? ⟨w.heap.size + 1 + 1 + 1, 1, none⟩ = some (.int .u64 (px : Int)) /\ V.cell? ⟨w.heap.size + 1 + 1 + 1, 2, none⟩ = some (.int .u64 (pz : Int)) /\ V.cell? ⟨w.heap.size + 1 + 1 + 1, 3, none⟩ = some (.int .i64 pph)))) := hide (fun V hV => by
    obtain ⟨a0, a1, a2', -⟩ := (HW4.out.keep hV).bt.cells
    obtain ⟨b0, b1, b2', -⟩ := (HW4.out.keep hV).bu.cells
    obtain ⟨c0, c1, c2, -⟩ := (HG4.out.1.below hV).cells
    obtain ⟨d0, d1, d2, -⟩ := (HH4.out.1.below hV).cells
    obtain ⟨p0, p1, p2, p3, -⟩ := (HW4.out.keep hV).bp.cells
    exact ⟨hV, ⟨a0, a1, a2'⟩, ⟨b0, b1, b2'⟩, ⟨c0, c1, c2⟩, ⟨d0, d1, d2⟩, p0, p1, p2, p3⟩)
  have HBV : Hid (∀ V, Below V4.heap.size V4 V -> Below w.heap.size w V) := hide (fun V hV => (HW4.out.keep hV).bw)
  have HGV : Hid (∀ V, Below V4.heap.size V4 V -> Th V R xa xb xca xcb /\ Th V R ya yb yca ycb) := hide (fun V hV => ⟨HG4.out.2.below hV, HH4.out.2.below hV⟩)
  have HD0 : Hid (Below V4.heap.size V4 V4.drew) := hide (Below.refl _ _).drew
  clear HW4 HG4 HH4
  go_region_held3 (fun V => Below V4.heap.size V4 V /\ (V.cell? ⟨w.heap.size, 0, none⟩ = some (.int .i64 tn) /\ V.cell? ⟨w.heap.size, 1, none⟩ = some (.slice a ns ca) /\ V.cell? ⟨w.heap.size, 2, none⟩ = some (.slice b nd cb)) /\ (V.cell? ⟨w.heap.size + 1, 0, none⟩ = some (.int .i64 un) /\ V.cell? ⟨w.heap.size + 1, 1, none⟩ = some (.slice a2 us ca2) /\ V.cell? ⟨w.heap.size + 1, 2, none⟩ = some (.slice b2 ud cb2)) /\ (V.cell? ⟨gx, 0, none⟩ = some (.int .i64 rn) /\ V.cell? ⟨gx, 1, none⟩ = some (.slice xa rs xca) /\ V.cell? ⟨gx, 2, none⟩ = some (.slice xb rd xcb)) /\ (V.cell? ⟨gy, 0, none⟩ = some (.int .i64 rn) /\ V.cell? ⟨gy, 1, none⟩ = some (.slice ya rs yca) /\ V.cell? ⟨gy, 2, none⟩ = some (.slice yb rd ycb)) /\ (V.cell? ⟨w.heap.size + 1 + 1 + 1, 0, none⟩ = some (.int .i64 pn) /\ V.cell? ⟨w.heap.size + 1 + 1 + 1, 1, none⟩ = some (.int .u64 (px : Int)) /\ V.cell? ⟨w.heap.size + 1 + 1 + 1, 2, none⟩ = some (.int .u64 (pz : Int)) /\ V.cell? ⟨w.heap.size + 1 + 1 + 1, 3, none⟩ = some (.int .i64 pph)))
    (first | exact HSV.out _ HD0.out | exact HSV.out _ (by assumption))
    (first
      | (go_at_call 7; (with_reducible refine Calls.mono (hnum _ _) ?_); rintro e wn ⟨rfl, rfl⟩)
      | (go_at_call 10; (with_reducible refine Calls.mono (HAK.out _ _ _ _ _ _ _ _ _ (HGV.out _ (‹Below V4.heap.size V4 _ /\ _›.1)).1 (HGV.out _ (‹Below V4.heap.size V4 _ /\ _›.1)).2) ?_); rintro e w5 ⟨rfl, q5⟩; have hb5 := bkp (‹Below V4.heap.size V4 _ /\ _›.1) q5)
      | (go_at_call 15; (with_reducible refine Calls.mono (HS1.out _ (HBV.out _ (‹Below V4.heap.size V4 _ /\ _›.1))) ?_); rintro e w6 ⟨rfl, q6⟩; have hb6 := bkp (‹Below V4.heap.size V4 _ /\ _›.1) q6)
      | (go_at_call 16; (with_reducible refine Calls.mono (HS2.out _ (HBV.out _ (‹Below V4.heap.size V4 _ /\ _›.1))) ?_); rintro e w7 ⟨rfl, q7⟩; have hb7 := bkp (‹Below V4.heap.size V4 _ /\ _›.1) q7)
      | (go_at_call 11; (with_reducible refine Calls.mono (HTE.out _ (HBV.out _ (‹Below V4.heap.size V4 _ /\ _›.1))) ?_); rintro e w8 ⟨rfl, q8⟩; have hb8 := bkp (‹Below V4.heap.size V4 _ /\ _›.1) q8)
      | (go_at_call 12; (with_reducible refine Calls.mono (HAL.out _ (HBV.out _ (‹Below V4.heap.size V4 _ /\ _›.1))) ?_); rintro e w9 ⟨rfl, q9⟩; have hb9 := bkp (‹Below V4.heap.size V4 _ /\ _›.1) q9))
  have HBX := hide (HBV.out _ hb9)
  clear HSV HBV HGV HD0
  go_wp2_with fail
  go_ret
  exact ⟨rfl, HBX.out⟩
end Go.Proofs.YtpehekonjdneaaaGreatDoor.Tbl
