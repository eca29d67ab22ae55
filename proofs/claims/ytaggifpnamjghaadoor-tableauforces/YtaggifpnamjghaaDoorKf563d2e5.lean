import Derived.Test.YtaggifpnamjghaaDoorKb3405a83
import Derived.Test.YtaggifpnamjghaaDoorKc31012d3
import Derived.Deep.CutRange
set_option maxRecDepth 100000
set_option maxHeartbeats 8000000
namespace Go.Proofs.YtaggifpnamjghaaDoor.Tbl
open Go.RowKit Go.Shelf Go.Proofs.YtaggifpnamjghaaDoor.Pau Go.Proofs.YtaggifpnamjghaaDoor.Gt
def zf1 : Oper := { dst := some 20, op := Op.call { callee := Callee.value (Operand.func 8), args := #[Operand.tmp 19], argTypes := #[24] }, type := 24, pos := "law.go:281", after := #[{ on := 0, ground := Ground.data }], guard := none }
def zf3 : Oper := { dst := some 22, op := Op.call { callee := Callee.value (Operand.func 8), args := #[Operand.tmp 21], argTypes := #[24] }, type := 24, pos := "law.go:281", after := #[{ on := 2, ground := Ground.data }, { on := 1, ground := Ground.chain }], guard := none }
def zf4 : Oper := { dst := some 7, op := Op.alloc 24, type := 0, pos := "law.go:281", after := #[], guard := none }
def zf5 : Oper := { dst := some 8, op := Op.alloc 24, type := 0, pos := "law.go:281", after := #[], guard := none }
def zf6 : Oper := { dst := none, op := Op.store 24 (Operand.tmp 7) (Operand.tmp 20), type := 0, pos := "law.go:281", after := #[{ on := 4, ground := Ground.data }, { on := 1, ground := Ground.data }, { on := 3, ground := Ground.chain }, { on := 0, ground := Ground.phase }, { on := 1, ground := Ground.phase }, { on := 2, ground := Ground.textOnly Departure.lateStores }, { on := 3, ground := Ground.textOnly Departure.lateStoresUnsure }, { on := 4, ground := Ground.phase }, { on := 5, ground := Ground.phase }], guard := none }
def zf7 : Oper := { dst := none, op := Op.store 24 (Operand.tmp 8) (Operand.tmp 22), type := 0, pos := "law.go:281", after := #[{ on := 5, ground := Ground.data }, { on := 3, ground := Ground.data }, { on := 6, ground := Ground.chain }, { on := 0, ground := Ground.phase }, { on := 1, ground := Ground.phase }, { on := 2, ground := Ground.phase }, { on := 3, ground := Ground.phase }, { on := 4, ground := Ground.phase }, { on := 5, ground := Ground.phase }, { on := 6, ground := Ground.phase }], guard := none }
structure Lw (w V : World) (t u : TT) (tn un : Int) (ns nd us ud : Nat) (pn : Int) (px pz : Nat) (pph : Int) (a b a2 b2 a1 b1 a3 b3 : Option Addr) (ca cb ca2 cb2 ca1 cb1 ca3 cb3 gx gy : Nat) : Prop where
  tt : At3 V w.heap.size (.int .i64 tn) (.slice a ns ca) (.slice b nd cb)
  pp : At4 V (w.heap.size + 1) (.int .i64 pn) (.int .u64 (px : Int)) (.int .u64 (pz : Int)) (.int .i64 pph)
  uu : At3 V (w.heap.size + 1 + 1) (.int .i64 un) (.slice a2 us ca2) (.slice b2 ud cb2)
  xx : At3 V gx (.int .i64 tn) (.slice a1 ns ca1) (.slice b1 nd cb1)
  yy : At3 V gy (.int .i64 un) (.slice a3 us ca3) (.slice b3 ud cb3)
  t0 : Th V t a b ca cb
  u0 : Th V u a2 b2 ca2 cb2
  t1 : Th V t a1 b1 ca1 cb1
  u1 : Th V u a3 b3 ca3 cb3
  bw : Below w.heap.size w V
theorem Lw.keep {w V V' : World} {t u : TT} {tn un : Int} {ns nd us ud : Nat} {pn : Int} {px pz : Nat} {pph : Int} {a b a2 b2 a1 b1 a3 b3 : Option Addr} {ca cb ca2 cb2 ca1 cb1 ca3 cb3 gx gy : Nat} (h : Lw w V t u tn un ns nd us ud pn px pz pph a b a2 b2 a1 b1 a3 b3 ca cb ca2 cb2 ca1 cb1 ca3 cb3 gx gy) (hb : Below V.heap.size V V') : Lw w V' t u tn un ns nd us ud pn px pz pph a b a2 b2 a1 b1 a3 b3 ca cb ca2 cb2 ca1 cb1 ca3 cb3 gx gy :=
  ⟨h.tt.below hb, h.pp.below hb, h.uu.below hb, h.xx.below hb, h.yy.below hb, h.t0.below hb, h.u0.below hb, h.t1.below hb, h.u1.below hb, bkp h.bw hb⟩
theorem three343b (w : World) (a b c a1 b1 c1 d1 a2 b2 c2 : Value) : Below w.heap.size w (((w.alloc (.cells #[a, b, c] 24)).alloc (.cells #[a1, b1, c1, d1] 32)).alloc (.cells #[a2, b2, c2] 24)) := bkp (bkp (bnew w _) (bnew _ _)) (bnew _ _)
theorem xTableauForces (t u : TT) (a b a2 b2 : Option Addr) (ca cb ca2 cb2 : Nat) (p : P) (hp : Wd p) (w : World) (hT : Tg w) (h : Th w t a b ca cb) (hs : t.s.length <= 4398046511104) (hd : t.d.length <= 4398046511104) (h2 : Th w u a2 b2 ca2 cb2) (hs2 : u.s.length <= 4398046511104) (hd2 : u.d.length <= 4398046511104) :
    Calls Tryd.prog 4 #[tV t a b ca cb, pV p, tV u a2 b2 ca2 cb2] w fun e w' => e = .returned (.bool true) /\ Below w.heap.size w w' := by
  have c3 := fun W (hb : Below w.heap.size w W) => dCopy t a b ca cb hs hd W (h.below hb)
  have c4 := fun W (hb : Below w.heap.size w W) => dCopy u a2 b2 ca2 cb2 hs2 hd2 W (h2.below hb)
  have HTA : Hid (∀ W B a' b' ca' cb', Tn W B t a' b' ca' cb' -> Th W t a' b' ca' cb') := hide (fun W B a' b' ca' cb' hh => hh.th h.ws h.wd h.na h.nb)
  have HTC : Hid (∀ W B a' b' ca' cb', Tn W B u a' b' ca' cb' -> Th W u a' b' ca' cb') := hide (fun W B a' b' ca' cb' hh => hh.th h2.ws h2.wd h2.na h2.nb)
  have HF1 := hide (fun W a b ca cb (hh : Th W t a b ca cb) => tForceP t a b ca cb p hp W hh)
  have HF2 := hide (fun W a b ca cb (hh : Th W t a b ca cb) => dForce t a b ca cb p hp W hh)
  have HO1 := hide (fun W a b a2 b2 ca cb ca2 cb2 (hh : Th W t a b ca cb) (h3 : Th W u a2 b2 ca2 cb2) => tOverlap t u a b a2 b2 ca cb ca2 cb2 W hh h3)
  have HO2 := hide (fun W a b a2 b2 ca cb ca2 cb2 (hh : Th W t a b ca cb) (h3 : Th W u a2 b2 ca2 cb2) => dOverlap t u a b a2 b2 ca cb ca2 cb2 W hh h3)
  have HK1 := hide (fun W a b ca cb a2 b2 ca2 cb2 (h1 : Th W (fpR t p).1 a b ca cb) (h2 : Th W (fpR t p).1 a2 b2 ca2 cb2) => dAlike (fpR t p).1 (fpR t p).1 a b a2 b2 ca cb ca2 cb2 W h1 h2)
  have HK2 := hide (fun W a b ca cb a2 b2 ca2 cb2 (h1 : Th W t a b ca cb) (h2 : Th W t a2 b2 ca2 cb2) => dAlike t t a b a2 b2 ca cb ca2 cb2 W h1 h2)
  have HK3 := hide (fun W a b ca cb a2 b2 ca2 cb2 (h1 : Th W u a b ca cb) (h2 : Th W u a2 b2 ca2 cb2) => dAlike u u a b a2 b2 ca cb ca2 cb2 W h1 h2)
  have HAL := hide (fun W (hb : Below w.heap.size w W) => tAlive W (hT.below hb))
  have hnum := tNum
  have HT0 := hide (fun V (hb : Below w.heap.size w V) => h.below hb)
  have HT2 := hide (fun V (hb : Below w.heap.size w V) => h2.below hb)
  simp only [decide_true] at HK1 HK2 HK3
  obtain ⟨hA, hP, hZ⟩ := three343 w (.int .i64 t.n) (.slice a t.s.length ca) (.slice b t.d.length cb) (.int .i64 p.n) (.int .u64 (p.x : Int)) (.int .u64 (p.z : Int)) (.int .i64 p.ph) (.int .i64 u.n) (.slice a2 u.s.length ca2) (.slice b2 u.d.length cb2)
  have hBB := three343b w (.int .i64 t.n) (.slice a t.s.length ca) (.slice b t.d.length cb) (.int .i64 p.n) (.int .u64 (p.x : Int)) (.int .u64 (p.z : Int)) (.int .i64 p.ph) (.int .i64 u.n) (.slice a2 u.s.length ca2) (.slice b2 u.d.length cb2)
  clear hs hd hs2 hd2 hT hp h h2
  generalize ovP t u = ov at *
  obtain ⟨o1, o2⟩ := ov
  generalize fpR t p = F at *
  obtain ⟨F, f1, f2⟩ := F
  unfold tV at c3 c4 HF1 HF2 HO1 HO2 HK1 HK2 HK3 ⊢
  simp only at HF1 HF2 HO1 HO2 HK1
  obtain ⟨pn, px, pz, pph⟩ := p
  unfold pV at HF1 HF2 ⊢
  simp only at *
  generalize t.s.length = ns at *
  generalize t.d.length = nd at *
  generalize t.n = tn at *
  generalize u.s.length = us at *
  generalize u.d.length = ud at *
  generalize u.n = un at *
  generalize hfs : F.s.length = fs at *
  generalize hfd : F.d.length = fd at *
  generalize hfn : F.n = fn at *
  clear hfs hfd hfn
  have HW := hide (And.intro hBB (And.intro hA (And.intro hP hZ)))
  clear hBB hA hP hZ
  generalize hW0 : (((w.alloc (.cells #[.int .i64 tn, .slice a ns ca, .slice b nd cb] 24)).alloc (.cells #[.int .i64 pn, .int .u64 (px : Int), .int .u64 (pz : Int), .int .i64 pph] 32)).alloc (.cells #[.int .i64 un, .slice a2 us ca2, .slice b2 ud cb2] 24)) = W0 at HW
  have HP : Hid (∀ V, Below W0.heap.size W0 V -> Below w.heap.size w V /\ At3 V w.heap.size (.int .i64 tn) (.slice a ns ca) (.slice b nd cb) /\ At3 V (w.heap.size + 1 + 1) (.int .i64 un) (.slice a2 us ca2) (.slice b2 ud cb2)) := hide (fun V hh => ⟨bkp HW.out.1 hh, HW.out.2.1.below hh, HW.out.2.2.2.below hh⟩)
  have HZ := hide hW0
  clear hW0
  go_enter Tryd.func4, Tryd.ntmps4
  go_upto_region 1 with fail
  rw [HZ.out]
  have hst : Pt2 W0 t u none none none none W0.drew := Pt2.start (Below.refl _ _).drew
  go_cut [7, 8] from 19 (fun s7 s8 wc => ∃ (gx gy ca1 cb1 ca3 cb3 : Nat) (a1 b1 a3 b3 : Option Addr), s7 = .pointer (some ⟨gx, 0, none⟩) /\ s8 = .pointer (some ⟨gy, 0, none⟩) /\ Below W0.heap.size W0 wc /\ At3 wc gx (.int .i64 tn) (.slice a1 ns ca1) (.slice b1 nd cb1) /\ At3 wc gy (.int .i64 un) (.slice a3 us ca3) (.slice b3 ud cb3) /\ Th wc t a1 b1 ca1 cb1 /\ Th wc u a3 b3 ca3 cb3)
  case first =>
    refine wp_region_held_drew (S := fun V => Below W0.heap.size W0 V) (by kernel_rfl) hst.bel (fun hHeld => ?_)
    refine take_to14 (i := 0) (d := 19) (v := ?_) rfl rfl (by kernel_rfl) (by kernel_rfl) (by kernel_rfl) (fun _ _ _ h => h) (Or.inl ⟨by rfl, ?_⟩) (by assumption) ?_
    rotate_left 1
    . intro W hSw
      obtain ⟨-, mm1, mm2⟩ := HP.out W hSw
      obtain ⟨s0, s1, s2, s3⟩ := mm1.cells
      obtain ⟨t0, t1, t2, t3⟩ := mm2.cells
      go_simp
      with_reducible rfl
    simp only [Act.put, List.setIfInBounds_toArray, List.set_cons_zero, List.set_cons_succ]
    refine take_to14 (i := 2) (d := 21) (v := ?_) rfl rfl (by kernel_rfl) (by kernel_rfl) (by kernel_rfl) (fun _ _ _ h => h) (Or.inl ⟨by rfl, ?_⟩) (by assumption) ?_
    rotate_left 1
    . intro W hSw
      obtain ⟨-, mm1, mm2⟩ := HP.out W hSw
      obtain ⟨s0, s1, s2, s3⟩ := mm1.cells
      obtain ⟨t0, t1, t2, t3⟩ := mm2.cells
      go_simp
      with_reducible rfl
    simp only [Act.put, List.setIfInBounds_toArray, List.set_cons_zero, List.set_cons_succ]
    clear hHeld
    generalize W0.drew = vz at hst ⊢
    iterate 4
      all_goals first
        | (have hq : Pt2 _ _ _ none none none none _ := hst; clear hq; refine wpAnyH_ready (rs := [1, 4, 5]) (by kernel_rfl) (by simp) ?_; refine (AllReadyH.cons (o := zf1) rfl (fun K hK => ?_) (AllReadyH.cons (o := zf4) rfl (fun K hK => ?_) (AllReadyH.cons (o := zf5) rfl (fun K hK => ?_) AllReadyH.nil))))
        | (have hq : Pt2 _ _ _ none none (some _) none _ := hst; clear hq; refine wpAnyH_ready (rs := [3, 4, 5]) (by kernel_rfl) (by simp) ?_; refine (AllReadyH.cons (o := zf3) rfl (fun K hK => ?_) (AllReadyH.cons (o := zf4) rfl (fun K hK => ?_) (AllReadyH.cons (o := zf5) rfl (fun K hK => ?_) AllReadyH.nil))))
        | (have hq : Pt2 _ _ _ (some _) none none none _ := hst; clear hq; refine wpAnyH_ready (rs := [1, 5]) (by kernel_rfl) (by simp) ?_; refine (AllReadyH.cons (o := zf1) rfl (fun K hK => ?_) (AllReadyH.cons (o := zf5) rfl (fun K hK => ?_) AllReadyH.nil)))
        | (have hq : Pt2 _ _ _ none (some _) none none _ := hst; clear hq; refine wpAnyH_ready (rs := [1, 4]) (by kernel_rfl) (by simp) ?_; refine (AllReadyH.cons (o := zf1) rfl (fun K hK => ?_) (AllReadyH.cons (o := zf4) rfl (fun K hK => ?_) AllReadyH.nil)))
        | (have hq : Pt2 _ _ _ none none (some _) (some _) _ := hst; clear hq; refine wpAnyH_ready (rs := [4, 5]) (by kernel_rfl) (by simp) ?_; refine (AllReadyH.cons (o := zf4) rfl (fun K hK => ?_) (AllReadyH.cons (o := zf5) rfl (fun K hK => ?_) AllReadyH.nil)))
        | (have hq : Pt2 _ _ _ (some _) none (some _) none _ := hst; clear hq; refine wpAnyH_ready (rs := [3, 5]) (by kernel_rfl) (by simp) ?_; refine (AllReadyH.cons (o := zf3) rfl (fun K hK => ?_) (AllReadyH.cons (o := zf5) rfl (fun K hK => ?_) AllReadyH.nil)))
        | (have hq : Pt2 _ _ _ none (some _) (some _) none _ := hst; clear hq; refine wpAnyH_ready (rs := [3, 4]) (by kernel_rfl) (by simp) ?_; refine (AllReadyH.cons (o := zf3) rfl (fun K hK => ?_) (AllReadyH.cons (o := zf4) rfl (fun K hK => ?_) AllReadyH.nil)))
        | (have hq : Pt2 _ _ _ (some _) (some _) none none _ := hst; clear hq; refine wpAnyH_ready (rs := [1]) (by kernel_rfl) (by simp) ?_; refine (AllReadyH.cons (o := zf1) rfl (fun K hK => ?_) AllReadyH.nil))
        | (have hq : Pt2 _ _ _ (some _) none (some _) (some _) _ := hst; clear hq; refine wpAnyH_ready (rs := [5]) (by kernel_rfl) (by simp) ?_; refine (AllReadyH.cons (o := zf5) rfl (fun K hK => ?_) AllReadyH.nil))
        | (have hq : Pt2 _ _ _ none (some _) (some _) (some _) _ := hst; clear hq; refine wpAnyH_ready (rs := [4]) (by kernel_rfl) (by simp) ?_; refine (AllReadyH.cons (o := zf4) rfl (fun K hK => ?_) AllReadyH.nil))
        | (have hq : Pt2 _ _ _ (some _) (some _) (some _) none _ := hst; clear hq; refine wpAnyH_ready (rs := [3]) (by kernel_rfl) (by simp) ?_; refine (AllReadyH.cons (o := zf3) rfl (fun K hK => ?_) AllReadyH.nil))
      all_goals first
        | (
          unfold zf3
          go_simp
          go_at_call 8
          refine Calls.mono (c4 _ (HP.out _ hst.bel).1) ?_
          rintro e vz ⟨a3, b3, ca3, cb3, rfl, hO, hv⟩
          have hst := hst.call2 hv (HTC.out _ _ _ _ _ _ hO)
          clear hO hv
          go_wp2_with fail
          refine hK.out _ _ hst.bel (fun hHeld => ?_)
          clear hK K hHeld)
        | (
          unfold zf4
          have hst := hst.allocX
          go_simp
          refine hK.out _ _ hst.bel (fun hHeld => ?_)
          clear hK K hHeld
          generalize World.alloc vz (.cells #[.int .i64 0, .slice none 0 0, .slice none 0 0] 24) = vz at hst ⊢)
        | (
          unfold zf5
          have hst := hst.allocY
          go_simp
          refine hK.out _ _ hst.bel (fun hHeld => ?_)
          clear hK K hHeld
          generalize World.alloc vz (.cells #[.int .i64 0, .slice none 0 0, .slice none 0 0] 24) = vz at hst ⊢)
        | (
          unfold zf1
          go_simp
          go_at_call 8
          refine Calls.mono (c3 _ (HP.out _ hst.bel).1) ?_
          rintro e vz ⟨a1, b1, ca1, cb1, rfl, hO, hv⟩
          have hst := hst.call1 hv (HTA.out _ _ _ _ _ _ hO)
          clear hO hv
          go_wp2_with fail
          refine hK.out _ _ hst.bel (fun hHeld => ?_)
          clear hK K hHeld)
    all_goals (
      obtain ⟨zl, zx⟩ := hst.hx _ rfl
      obtain ⟨zm, zy⟩ := hst.hy _ rfl
      have hfin := hst.done (.int .i64 tn) (.slice a1 ns ca1) (.slice b1 nd cb1) (.int .i64 un) (.slice a3 us ca3) (.slice b3 ud cb3)
      have hbr := below_setRow hst.bel zl #[.int .i64 tn, .slice a1 ns ca1, .slice b1 nd cb1]
      have zy' : At3 (vz.setRow _ #[.int .i64 tn, .slice a1 ns ca1, .slice b1 nd cb1]) _ _ _ _ := (setRow_other vz _ _ #[.int .i64 tn, .slice a1 ns ca1, .slice b1 nd cb1] (hst.ne _ _ rfl rfl).symm).trans zy
      refine wpAnyH_ready (rs := [6]) (by kernel_rfl) (by simp) ?_
      refine AllReadyH.cons (o := zf6) rfl (fun K hK => ?_) AllReadyH.nil
      unfold zf6
      obtain ⟨u0, u1, u2, u3⟩ := zx.cells
      have uf := fun i => At3.fz zx i
      go_simp
      rw [c3_set14 _ _ _ _ _ _ _ _ _ zx]
      refine hK.out _ _ hbr (fun hHeld => ?_)
      clear hK K u0 u1 u2 u3 uf zx zy hst
      refine wpAnyH_ready (rs := [7]) (by kernel_rfl) (by simp) ?_
      refine AllReadyH.cons (o := zf7) rfl (fun K hK => ?_) AllReadyH.nil
      unfold zf7
      obtain ⟨u0, u1, u2, u3⟩ := zy'.cells
      have uf := fun i => At3.fz zy' i
      go_simp
      rw [c3_set14 _ _ _ _ _ _ _ _ _ zy']
      refine hK.out _ _ hfin.1 (fun hHeld => ?_)
      clear hK K
      refine wpAnyH_done (by kernel_rfl) ?_ _
      go_wp2_with fail
      go_meet
      case rel => exact ⟨_, _, _, _, _, _, _, _, _, _, rfl, rfl, hfin.1, hfin.2.1, hfin.2.2.1, hfin.2.2.2.1, hfin.2.2.2.2⟩)
  case rest =>
    obtain ⟨gx, gy, ca1, cb1, ca3, cb3, a1, b1, a3, b3, rfl, rfl, hbc, hX, hY, hTx, hTy⟩ := hcut
    have LW : Hid (Lw w wc t u tn un ns nd us ud pn px pz pph a b a2 b2 a1 b1 a3 b3 ca cb ca2 cb2 ca1 cb1 ca3 cb3 gx gy) := hide ⟨(HP.out _ hbc).2.1, HW.out.2.2.1.below hbc, (HP.out _ hbc).2.2, hX, hY, HT0.out _ (HP.out _ hbc).1, HT2.out _ (HP.out _ hbc).1, hTx, hTy, (HP.out _ hbc).1⟩
    clear hbc hX hY hTx hTy HP HW HZ HT0 HT2 c3 c4 hst HTA HTC
    obtain ⟨x0, x1, x2, x3⟩ := LW.out.xx.cells
    obtain ⟨y0, y1, y2, y3, y4⟩ := LW.out.pp.cells
    go_wp2_with fail
    refine (HF1.out _ _ _ _ _ LW.out.t1).mono ?_
    rintro e w3 ⟨fa1, fb1, fca1, fcb1, rfl, hF1, hb3⟩
    have hbn := bnew w3 (.cells #[.int .i64 fn, .slice fa1 fs fca1, .slice fb1 fd fcb1] 24)
    have LW3 := hide ((LW.out.keep hb3).keep hbn)
    have HG := hide (And.intro (At3.new w3 (.int .i64 fn) (.slice fa1 fs fca1) (.slice fb1 fd fcb1)) (hF1.below hbn))
    clear x0 x1 x2 x3 y0 y1 y2 y3 y4 hb3 hbn hF1 LW HF1
    obtain ⟨x0, x1, x2, x3⟩ := LW3.out.tt.cells
    obtain ⟨y0, y1, y2, y3, y4⟩ := LW3.out.pp.cells
    go_wp2_with fail
    clear x0 x1 x2 x3 y0 y1 y2 y3 y4
    generalize w3.alloc (.cells #[.int .i64 fn, .slice fa1 fs fca1, .slice fb1 fd fcb1] 24) = V3 at *
    generalize w3.heap.size = g3 at *
    refine (HF2.out _ _ _ _ _ LW3.out.t0).mono ?_
    rintro e w4 ⟨fa2, fb2, fca2, fcb2, rfl, hF2, hb4⟩
    have hbn := bnew w4 (.cells #[.int .i64 fn, .slice fa2 fs fca2, .slice fb2 fd fcb2] 24)
    have LW4 := hide ((LW3.out.keep hb4).keep hbn)
    have HG4 := hide (And.intro ((HG.out.1.below hb4).below hbn) ((HG.out.2.below hb4).below hbn))
    have HH4 := hide (And.intro (At3.new w4 (.int .i64 fn) (.slice fa2 fs fca2) (.slice fb2 fd fcb2)) (hF2.below hbn))
    clear hb4 hbn hF2 LW3 HF2 HG
    obtain ⟨x0, x1, x2, x3⟩ := LW4.out.xx.cells
    obtain ⟨y0, y1, y2, y3⟩ := LW4.out.yy.cells
    go_wp2_with fail
    clear x0 x1 x2 x3 y0 y1 y2 y3
    generalize w4.alloc (.cells #[.int .i64 fn, .slice fa2 fs fca2, .slice fb2 fd fcb2] 24) = V4 at *
    generalize w4.heap.size = g4 at *
    refine (HO1.out _ _ _ _ _ _ _ _ _ LW4.out.t1 LW4.out.u1).mono ?_
    rintro e w5 ⟨rfl, hb5⟩
    have LW5 := hide (LW4.out.keep hb5)
    have HG5 := hide (And.intro (HG4.out.1.below hb5) (HG4.out.2.below hb5))
    have HH5 := hide (And.intro (HH4.out.1.below hb5) (HH4.out.2.below hb5))
    clear hb5 LW4 HG4 HH4 HO1
    obtain ⟨x0, x1, x2, x3⟩ := LW5.out.tt.cells
    obtain ⟨y0, y1, y2, y3⟩ := LW5.out.uu.cells
    go_wp2_with fail
    clear x0 x1 x2 x3 y0 y1 y2 y3
    refine (HO2.out _ _ _ _ _ _ _ _ _ LW5.out.t0 LW5.out.u0).mono ?_
    rintro e w6 ⟨rfl, hb6⟩
    have LW6 := hide (LW5.out.keep hb6)
    have HG6 := hide (And.intro (HG5.out.1.below hb6) (HG5.out.2.below hb6))
    have HH6 := hide (And.intro (HH5.out.1.below hb6) (HH5.out.2.below hb6))
    clear hb6 LW5 HG5 HH5 HO2
    obtain ⟨x0, x1, x2, x3⟩ := HG6.out.1.cells
    obtain ⟨y0, y1, y2, y3⟩ := HH6.out.1.cells
    go_wp2_with fail
    clear x0 x1 x2 x3 y0 y1 y2 y3
    refine (HK1.out _ _ _ _ _ _ _ _ _ HG6.out.2 HH6.out.2).mono ?_
    rintro e w7 ⟨rfl, hb7⟩
    have LW7 := hide (LW6.out.keep hb7)
    clear hb7 LW6 HG6 HH6 HK1
    obtain ⟨x0, x1, x2, x3⟩ := LW7.out.xx.cells
    obtain ⟨y0, y1, y2, y3⟩ := LW7.out.tt.cells
    go_wp2_with (go_at_call 5; refine (hnum _ _).mono ?_; rintro e wn ⟨rfl, hw⟩; obtain rfl := hw.symm)
    clear x0 x1 x2 x3 y0 y1 y2 y3
    refine (HK2.out _ _ _ _ _ _ _ _ _ LW7.out.t1 LW7.out.t0).mono ?_
    rintro e w8 ⟨rfl, hb8⟩
    have LW8 := hide (LW7.out.keep hb8)
    clear hb8 LW7 HK2
    obtain ⟨x0, x1, x2, x3⟩ := LW8.out.yy.cells
    obtain ⟨y0, y1, y2, y3⟩ := LW8.out.uu.cells
    go_wp2_with (go_at_call 5; refine (hnum _ _).mono ?_; rintro e wn ⟨rfl, hw⟩; obtain rfl := hw.symm)
    clear x0 x1 x2 x3 y0 y1 y2 y3
    refine (HK3.out _ _ _ _ _ _ _ _ _ LW8.out.u1 LW8.out.u0).mono ?_
    rintro e w9 ⟨rfl, hb9⟩
    have HB9 := hide (bkp LW8.out.bw hb9)
    clear hb9 LW8 HK3
    go_wp2_with (go_at_call 5; refine (hnum _ _).mono ?_; rintro e wn ⟨rfl, hw⟩; obtain rfl := hw.symm)
    refine (HAL.out _ HB9.out).mono ?_
    rintro e w10 ⟨rfl, hb10⟩
    have HBX := hide (bkp HB9.out hb10)
    clear hb10 HB9 HAL
    go_wp2_with fail
    go_ret
    exact ⟨rfl, HBX.out⟩
end Go.Proofs.YtaggifpnamjghaaDoor.Tbl
