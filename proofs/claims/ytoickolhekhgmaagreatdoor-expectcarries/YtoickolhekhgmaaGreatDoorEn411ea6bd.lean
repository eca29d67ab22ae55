import Derived.Test.YtoickolhekhgmaaGreatDoorEn6c0334ff
import Derived.Test.YtoickolhekhgmaaGreatDoorEn15cb15cd
namespace Go.Proofs.YtoickolhekhgmaaGreatDoor.Gt
end Go.Proofs.YtoickolhekhgmaaGreatDoor.Gt
namespace Go.Proofs.YtoickolhekhgmaaGreatDoor.Oct
end Go.Proofs.YtoickolhekhgmaaGreatDoor.Oct
set_option maxRecDepth 100000
set_option maxHeartbeats 4000000
namespace Go.Proofs.YtoickolhekhgmaaGreatDoor.Pau
open Go.RowKit Go.Shelf Go.Proofs.YtoickolhekhgmaaGreatDoor.Oct Go.Proofs.YtoickolhekhgmaaGreatDoor.Gt
theorem dThrough_ok (p : P) (hp : Wd p) (hr : rt p = true) (k : Nat) (ns : List Nat) (hq : Ql k ns p.n) (hck : hchP (k : Int) (im64 ns) p.n = 0) (ao : Option Addr) (c : Nat) (w : World) (hN : Ns w ao (im64 ns)) :
    Calls Tryz.prog 15 #[pV p, .int .i64 (k : Int), .slice ao ns.length c] w fun e w' => e = .returned (.tuple #[pV (dthf k ns p ns.length), .int .i64 0]) /\ Below w.heap.size w w' := by
  have hlen := hq.len
  have hk1 := hq.k1
  have hk2 := hq.k2
  have har := ar_le k
  have hap := ar_pos k
  have n64 : ∀ q ∈ ns, q < 64 := fun q h => by have h1 := hq.inn q h; have h2 := hq.le; omega
  have c0 := fun W => dImages_ok k hk1 hk2 W
  have c1 := fun W => dRight p hp W
  rw [hr] at c1
  have hil : (im64 ns).length = ns.length := by unfold im64; rw [List.length_map]
  have c3 := fun W (h : Below w.heap.size w W) => hCheck (k : Int) ao c (im64 ns) p.n (by rw [hil, hlen]; omega) W (hN.below h)
  rw [hck, hil] at c3
  have HQ : Hid (∀ t, t < ns.length -> ns.getD t 0 < 64) := hide (fun t ht => n64 _ (getD_mem ht))
  have HBX := hide (fun (q : Nat) (h : q < 64) W => dBit p.x q hp.1 (by omega) W)
  have HBZ := hide (fun (q : Nat) (h : q < 64) W => dBit p.z q hp.2 (by omega) W)
  have HLE : Hid (∀ (t j : Nat), t < ns.length -> j < 3 -> j ≠ 1 -> ∀ W, Below w.heap.size w W -> Calls Tryz.prog 47 #[str (im k t j), .int .i64 p.n, .slice ao ns.length c] W fun e w' => e = .returned (pV (ldP (ip k t j) ns p.n)) /\ Below W.heap.size W w') := hide (fun t j ht hj hj1 W h => by
    have hta : t < ar k := by omega
    rw [← le_ld hk1 hk2 hta hj hj1 ns hlen p.n]
    exact dLetters (im k t j) ns (by rw [im_len hk1 hk2 hta hj hj1, hlen]) n64 (by omega) p.n ao c W (hN.below h))
  have HWF : Hid (∀ t, t <= ns.length -> Wd (dthf k ns p t)) := hide (fun t ht => by rw [thf_same hq hr t (by omega)]; exact thf_wd k ns n64 hp t)
  have HMU := hide (fun (b : P) (hb : Wd b) (t j : Nat) W => dMul b (ldP (ip k t j) ns p.n) hb (ldP_wd _ ns n64 _) W)
  have HMW := hide (fun (b : P) (hb : Wd b) (t j : Nat) => mulR_wd hb (ldP_wd (ip k t j) ns n64 p.n))
  have HS : Hid (∀ t u v, bt p.x (ns.getD t 0) = u -> bt p.z (ns.getD t 0) = v -> (u = 0 -> v = 0 -> dthf k ns p (t + 1) = dthf k ns p t) /\ (u = 1 -> v = 0 -> dthf k ns p (t + 1) = (mulR (dthf k ns p t) (ldP (ip k t 0) ns p.n)).1) /\ (u = 0 -> v = 1 -> dthf k ns p (t + 1) = (mulR (dthf k ns p t) (ldP (ip k t 2) ns p.n)).1) /\ (u = 1 -> v = 1 -> dthf k ns p (t + 1) = up (mulR (mulR (dthf k ns p t) (ldP (ip k t 0) ns p.n)).1 (ldP (ip k t 2) ns p.n)).1)) := hide (fun t u v hu hv => by
    have e : dthf k ns p (t + 1) = dst k ns p (dthf k ns p t) t := rfl
    rw [e]
    unfold dst
    simp only [hu, hv]
    refine ⟨?_, ?_, ?_, ?_⟩ <;> rintro rfl rfl <;> rfl)
  have HF0 : Hid (dthf k ns p 0 = ⟨p.n, clw p.x ns ns.length, clw p.z ns ns.length, p.ph⟩) := hide rfl
  have HXL := hide (fun j => clw_lt hp.1 ns j)
  have HZL := hide (fun j => clw_lt hp.2 ns j)
  have HX0 : Hid (clw p.x ns 0 = p.x) := hide rfl
  have HZ0 : Hid (clw p.z ns 0 = p.z) := hide rfl
  have HXS : Hid (∀ j, clw p.x ns (j + 1) = clw p.x ns j &&& (18446744073709551615 - 2 ^ (ns.getD j 0))) := hide (fun j => rfl)
  have HZS : Hid (∀ j, clw p.z ns (j + 1) = clw p.z ns j &&& (18446744073709551615 - 2 ^ (ns.getD j 0))) := hide (fun j => rfl)
  have HC0 : Hid (∀ j, j < ns.length -> ∀ g off, (∀ (i : Nat) z, (im64 ns)[i]? = some z -> w.cell? ⟨g, off + i, none⟩ = some (.int .i64 z)) -> w.cell? ⟨g, off + j, none⟩ = some (.int .i64 ((ns.getD j 0 : Nat) : Int))) := hide (fun j hj g off h => h j _ (by
    unfold im64
    rw [List.getElem?_map, List.getD_eq_getElem?_getD, List.getElem?_eq_getElem hj]
    rfl))
  have hgl : ns.length = 0 ∨ ∃ g off, ao = some ⟨g, off, none⟩ /\ Hid (∀ (j : Nat) z, (im64 ns)[j]? = some z -> w.cell? ⟨g, off + j, none⟩ = some (.int .i64 z)) := by
    rcases hN with h | h
    . left
      rw [← hil, h]
      rfl
    . exact .inr h
  have HSV : Hid (∀ t, (fun j => im k (j / 2) (2 * (j % 2))) (2 * t) = im k t 0 /\ (fun j => im k (j / 2) (2 * (j % 2))) (2 * t + 1) = im k t 2) := hide (fun t => ⟨by
    show im k (2 * t / 2) (2 * (2 * t % 2)) = _
    rw [show 2 * t / 2 = t by omega, show 2 * t % 2 = 0 by omega], by
    show im k ((2 * t + 1) / 2) (2 * ((2 * t + 1) % 2)) = _
    rw [show (2 * t + 1) / 2 = t by omega, show (2 * t + 1) % 2 = 1 by omega]⟩)
  have c0' : ∀ W, Calls Tryz.prog 43 #[.int .i64 (k : Int)] W fun e w' => ∃ gi, e = .returned (.slice (some ⟨gi, 0, none⟩) (2 * ar k) (2 * ar k)) /\ Sq w' gi (2 * ar k) (fun j => im k (j / 2) (2 * (j % 2))) /\ Below W.heap.size W w' := c0
  clear c0
  generalize hF : dthf k ns p = F at *
  generalize hfx : clw p.x ns = fx at *
  generalize hfz : clw p.z ns = fz at *
  generalize hnq : (fun j => ns.getD j 0) = nq at *
  generalize hsv : (fun j => im k (j / 2) (2 * (j % 2))) = sv at *
  have eq' : ∀ j, ns.getD j 0 = nq j := fun j => congrFun hnq j
  simp only [eq'] at HQ HS HXS HZS HC0
  obtain ⟨n, x, z, ph⟩ := p
  simp only at *
  obtain ⟨m, hm⟩ : ∃ m, ns.length = m := ⟨_, rfl⟩
  rw [hm] at c3 hgl HC0 HQ HF0 HLE HWF hlen ⊢
  rw [← hlen] at c0'
  obtain ⟨m2, hm2⟩ : ∃ m2, 2 * m = m2 := ⟨_, rfl⟩
  rw [hm2] at c0'
  have hme : ((m2 : Int) == 0) = false := beq_eq_false_iff_ne.2 (by omega)
  unfold pV at c1 ⊢
  simp only at *
  obtain ⟨G1, G2⟩ := At4.two w (.int .i64 n) (.int .u64 (x : Int)) (.int .u64 (z : Int)) (.int .i64 ph) (.int .i64 0) (.int .u64 0) (.int .u64 0) (.int .i64 0)
  have HG1 := hide G1
  have HG2 := hide G2
  have HBw := hide (bkp (bnew w (.cells #[.int .i64 n, .int .u64 (x : Int), .int .u64 (z : Int), .int .i64 ph] 27)) (bnew _ (.cells #[.int .i64 0, .int .u64 0, .int .u64 0, .int .i64 0] 27)))
  have hm3 : m <= 2 := by omega
  have hm4 : 1 <= m := by omega
  clear G1 G2 hF hfx hfz hnq hsv eq' hq hN hp hr hil hck n64 har hap hlen hm hk1 hk2
  go_enter Tryz.func15, Tryz.ntmps15
  go_wp2_with fail
  refine (c0' _).mono ?_
  rintro e w0 ⟨gi, rfl, hs0, hb0⟩
  have HB0 := hide (bkp HBw.out hb0)
  have K1 := hide (HG1.out.below hb0)
  have K2 := hide (HG2.out.below hb0)
  have Q1 := hide hs0
  obtain ⟨x0, x1, x2, x3, x4⟩ := K1.out.cells
  clear hb0 HG1 HG2 HBw c0' hs0
  go_wp2_with fail
  refine (c1 _).mono ?_
  rintro e w1 ⟨rfl, hb1⟩
  have HB1 := hide (bkp HB0.out hb1)
  have L1 := hide (K1.out.below hb1)
  have L2 := hide (K2.out.below hb1)
  have Q2 := hide (Q1.out.below hb1)
  clear hb1 K1 K2 HB0 c1 Q1 x0 x1 x2 x3 x4
  obtain ⟨x0, x1, x2, x3, x4⟩ := L1.out.cells
  go_wp2_with fail
  refine (c3 _ HB1.out).mono ?_
  rintro e w3 ⟨rfl, hb3⟩
  have hbn := bnew w3 (.cells #[.int .i64 n, .int .u64 (x : Int), .int .u64 (z : Int), .int .i64 ph] 27)
  have HST : Hid (St w (w3.alloc (.cells #[.int .i64 n, .int .u64 (x : Int), .int .u64 (z : Int), .int .i64 ph] 27)) w3.heap.size gi m2 sv n x z ph n x z ph) := hide ⟨bkp (bkp HB1.out hb3) hbn, (L1.out.below hb3).below hbn, (L2.out.below hb3).below hbn, At4.new w3 _ _ _ _, (Q2.out.below hb3).below hbn, (L2.out.below hb3).lt, Nat.ne_of_lt (World.block_lt_of_cell? _ _ ((Q2.out.below hb3) 0 (by omega)))⟩
  clear x0 x1 x2 x3 x4
  obtain ⟨x0, x1, x2, x3, x4⟩ := (L1.out.below hb3).cells
  clear hb3 L1 L2 HB1 c3 hbn Q2
  go_wp2_with fail
  generalize w3.alloc (.cells #[.int .i64 n, .int .u64 (x : Int), .int .u64 (z : Int), .int .i64 ph] 27) = w4 at *
  generalize w3.heap.size = g at *
  clear x0 x1 x2 x3 x4
  go_loopw [10] (fun vi wr => ∃ k1 : Nat, vi = .int .i64 (k1 : Int) /\ k1 <= m /\ Hid (St w wr g gi m2 sv n x z ph n (fx k1) (fz k1) ph)) (fun vi _ => m - (Go.RowKit.intOf vi).toNat)
  case atStart => exact ⟨0, rfl, Nat.zero_le _, hide (by rw [HX0.out, HZ0.out]; exact HST.out)⟩
  case round =>
    obtain ⟨k1, rfl, hk1, HI⟩ := hrel
    by_cases h : k1 < m
    . have hd : decide ((k1 : Int) < (m : Int)) = true := decide_eq_true (by omega)
      obtain ⟨gq, off, rfl, hall⟩ := hgl.resolve_left (by omega)
      have HCQ := hide (HC0.out k1 h gq off hall.out)
      have hq64 := HQ.out k1 h
      obtain ⟨a1, a2, a3⟩ := pow_run (nq k1) hq64
      have u1 : IntKind.u64.wrap (nq k1 : Int) = (nq k1 : Int) := by rw [wrapU]; omega
      have o1 : bits .andNot .u64 (fx k1 : Int) ((2 ^ nq k1 : Nat) : Int) = (fx (k1 + 1) : Int) := by rw [u64_andNot_nat _ _ (HXL.out k1) a3, HXS.out k1]
      have o2 : bits .andNot .u64 (fz k1 : Int) ((2 ^ nq k1 : Nat) : Int) = (fz (k1 + 1) : Int) := by rw [u64_andNot_nat _ _ (HZL.out k1) a3, HZS.out k1]
      have hst := store_i
      have hq64' : (nq k1 : Int) < 64 := by omega
      clear HXL HZL HXS HZS HX0 HZ0 hall a3 HLE HMU HMW HWF HS HF0 HBX HBZ HSV HC0 HST
      generalize hpw : 2 ^ nq k1 = pw at *
      generalize hX1 : fx (k1 + 1) = X1 at *
      generalize hZ1 : fz (k1 + 1) = Z1 at *
      have HX1 := hide hX1
      have HZ1 := hide hZ1
      generalize fx k1 = X at *
      generalize fz k1 = Z at *
      generalize nq k1 = q at *
      clear hpw hX1 hZ1
      have HC1 : Hid (∀ W, Below wr.heap.size wr W -> (W.cell? ⟨w.heap.size, 0, none⟩ = some (.int .i64 n) /\ W.cell? ⟨w.heap.size, 1, none⟩ = some (.int .u64 (x : Int)) /\ W.cell? ⟨w.heap.size, 2, none⟩ = some (.int .u64 (z : Int)) /\ W.cell? ⟨w.heap.size, 3, none⟩ = some (.int .i64 ph) /\ w.heap.size < W.heap.size) /\ (W.cell? ⟨g, 0, none⟩ = some (.int .i64 n) /\ W.cell? ⟨g, 1, none⟩ = some (.int .u64 (X : Int)) /\ W.cell? ⟨g, 2, none⟩ = some (.int .u64 (Z : Int)) /\ W.cell? ⟨g, 3, none⟩ = some (.int .i64 ph) /\ g < W.heap.size) /\ W.frozen? ⟨g, 1, none⟩ = false /\ W.frozen? ⟨g, 2, none⟩ = false /\ W.frozen? ⟨g, 3, none⟩ = false /\ W.cell? ⟨gq, off + k1, none⟩ = some (.int .i64 (q : Int)) /\ gq < W.heap.size) := hide (fun W hW => ⟨(HI.out.up' hW).one.cells, (HI.out.up' hW).row.cells, (HI.out.up' hW).row.fz 1, (HI.out.up' hW).row.fz 2, (HI.out.up' hW).row.fz 3, cell_below HCQ.out (HI.out.up' hW).below, World.block_lt_of_cell? _ _ (cell_below HCQ.out (HI.out.up' hW).below)⟩)
      go_wp2_with fail
      refine wp_region_quiet_last (C := fun W => Below wr.heap.size wr W) (by kernel_rfl) 10 rfl (by kernel_rfl) (by kernel_rfl) (bdrew (Below.refl _ _) 1) ?_
      simp only [List.take_succ_cons, List.take_zero]
      repeat
        refine wpQuiet_step (fun K hK => ?_)
        go_simp
        first
          | (refine hK _ ?_; clear hK K)
          | (apply Exists.intro
             refine ⟨fun W hW => ?_, hK _ ?_⟩
             first
               | (obtain ⟨⟨a0, a1, a2, a3, a4⟩, ⟨d0, d1, d2, d3, d4⟩, d5, d6, d7, e0, e1⟩ := HC1.out W hW; go_simp; rfl)
             clear hK K)
      refine wpQuiet_nil ?_
      intro W1 hW
      obtain ⟨-, ⟨d0, d1, d2, d3, d4⟩, d5, d6, d7, -, -⟩ := HC1.out W1 hW
      have HM := hide ((HI.out.up' hW).set1 X1)
      clear hW HC1 HI
      go_wp2_with fail
      generalize W1.setCell ⟨g, 1, none⟩ (.int .u64 (X1 : Int)) = wm at *
      clear d0 d1 d2 d3 d4 d5 d6 d7
      have HC2 : Hid (∀ W, Below wm.heap.size wm W -> (W.cell? ⟨w.heap.size, 0, none⟩ = some (.int .i64 n) /\ W.cell? ⟨w.heap.size, 1, none⟩ = some (.int .u64 (x : Int)) /\ W.cell? ⟨w.heap.size, 2, none⟩ = some (.int .u64 (z : Int)) /\ W.cell? ⟨w.heap.size, 3, none⟩ = some (.int .i64 ph) /\ w.heap.size < W.heap.size) /\ (W.cell? ⟨g, 0, none⟩ = some (.int .i64 n) /\ W.cell? ⟨g, 1, none⟩ = some (.int .u64 (X1 : Int)) /\ W.cell? ⟨g, 2, none⟩ = some (.int .u64 (Z : Int)) /\ W.cell? ⟨g, 3, none⟩ = some (.int .i64 ph) /\ g < W.heap.size) /\ W.frozen? ⟨g, 1, none⟩ = false /\ W.frozen? ⟨g, 2, none⟩ = false /\ W.frozen? ⟨g, 3, none⟩ = false /\ W.cell? ⟨gq, off + k1, none⟩ = some (.int .i64 (q : Int)) /\ gq < W.heap.size) := hide (fun W hW => ⟨(HM.out.up' hW).one.cells, (HM.out.up' hW).row.cells, (HM.out.up' hW).row.fz 1, (HM.out.up' hW).row.fz 2, (HM.out.up' hW).row.fz 3, cell_below HCQ.out (HM.out.up' hW).below, World.block_lt_of_cell? _ _ (cell_below HCQ.out (HM.out.up' hW).below)⟩)
      refine wp_region_quiet_last (C := fun W => Below wm.heap.size wm W) (by kernel_rfl) 10 rfl (by kernel_rfl) (by kernel_rfl) (bdrew (Below.refl _ _) 1) ?_
      simp only [List.take_succ_cons, List.take_zero]
      repeat
        refine wpQuiet_step (fun K hK => ?_)
        go_simp
        first
          | (refine hK _ ?_; clear hK K)
          | (apply Exists.intro
             refine ⟨fun W hW => ?_, hK _ ?_⟩
             first
               | (obtain ⟨⟨a0, a1, a2, a3, a4⟩, ⟨d0, d1, d2, d3, d4⟩, d5, d6, d7, e0, e1⟩ := HC2.out W hW; go_simp; rfl)
             clear hK K)
      refine wpQuiet_nil ?_
      intro W2 hW
      obtain ⟨-, ⟨d0, d1, d2, d3, d4⟩, d5, d6, d7, -, -⟩ := HC2.out W2 hW
      have HM2 := hide ((HM.out.up' hW).set2 Z1)
      clear hW HC2 HM
      go_wp2_with fail
      go_roundw
      case rel => exact ⟨k1 + 1, by go_num, by omega, hide (by rw [HX1.out, HZ1.out]; exact HM2.out)⟩
      case measure => simp [Go.RowKit.intOf]; omega
    . obtain rfl : k1 = m := by omega
      have hd : decide ((k1 : Int) < (k1 : Int)) = false := decide_eq_false (by omega)
      go_wp2_with fail
      have HI0 := hide (show St w wr g gi m2 sv n x z ph (F 0).n (F 0).x (F 0).z (F 0).ph by rw [HF0.out]; exact HI.out)
      clear HXL HZL HXS HZS HX0 HZ0 HF0 HST HI
      go_loopw [11] (fun vi wr => ∃ t : Nat, vi = .int .i64 (t : Int) /\ t <= k1 /\ Hid (St w wr g gi m2 sv n x z ph (F t).n (F t).x (F t).z (F t).ph)) (fun vi _ => k1 - (Go.RowKit.intOf vi).toNat)
      case atStart => exact ⟨0, rfl, Nat.zero_le _, HI0⟩
      case round =>
        obtain ⟨t, rfl, ht, HI⟩ := hrel
        clear HI0
        by_cases h2 : t < k1
        . have hd2 : decide ((t : Int) < (k1 : Int)) = true := decide_eq_true (by omega)
          obtain ⟨gq, off, rfl, hall⟩ := hgl.resolve_left (by omega)
          have HCQ := hide (HC0.out t h2 gq off hall.out)
          have hq64 := HQ.out t h2
          have hst := store_i
          have hs := HS.out t _ _ rfl rfl
          have bx := HBX.out (nq t) hq64
          have bz := HBZ.out (nq t) hq64
          have l0 := fun W h => HLE.out t 0 h2 (by decide) (by decide) W h
          have l2 := fun W h => HLE.out t 2 h2 (by decide) (by decide) W h
          have hw := HWF.out t (by omega)
          have m0 := fun W => HMU.out (F t) hw t 0 W
          have m2' := fun W => HMU.out (F t) hw t 2 W
          have m3 := fun W => HMU.out (mulR (F t) (ldP (ip k t 0) ns n)).1 (HMW.out _ hw t 0) t 2 W
          have hph := mulR_ph (mulR (F t) (ldP (ip k t 0) ns n)).1 (ldP (ip k t 2) ns n)
          have hv0 := (HSV.out t).1
          have hv1 := (HSV.out t).2
          obtain ⟨j0, hj0⟩ : ∃ j0, j0 = 2 * t := ⟨_, rfl⟩
          obtain ⟨j1, hj1⟩ : ∃ j1, j1 = 2 * t + 1 := ⟨_, rfl⟩
          have e0 : IntKind.i64.wrap (2 * (t : Int)) = (j0 : Int) := by rw [wrapI]; omega
          have e1 : IntKind.i64.wrap ((j0 : Int) + 1) = (j1 : Int) := by rw [wrapI]; omega
          have f0 : j0 < m2 := by omega
          have f1 : j1 < m2 := by omega
          have f0' : (j0 : Int) < (m2 : Int) := by omega
          have f1' : (j1 : Int) < (m2 : Int) := by omega
          rw [← hj0] at hv0
          rw [← hj1] at hv1
          have HV0 : Hid (∀ W, Sq W gi m2 sv -> W.cell? ⟨gi, j0, none⟩ = some (str (im k t 0))) := hide (fun W h => by have := h j0 f0; rw [hv0] at this; exact this)
          have HV1 : Hid (∀ W, Sq W gi m2 sv -> W.cell? ⟨gi, j1, none⟩ = some (str (im k t 2))) := hide (fun W h => by have := h j1 f1; rw [hv1] at this; exact this)
          have hu2 := bt_lt x (nq t)
          have hz2 := bt_lt z (nq t)
          clear HBX HBZ HLE HWF HMU HMW HS HSV hv0 hv1 hj0 hj1 hall HC0 HQ hw
          generalize hR3 : mulR (mulR (F t) (ldP (ip k t 0) ns n)).1 (ldP (ip k t 2) ns n) = R3 at *
          generalize hR0 : mulR (F t) (ldP (ip k t 0) ns n) = R0 at *
          generalize hR2 : mulR (F t) (ldP (ip k t 2) ns n) = R2 at *
          generalize ldP (ip k t 0) ns n = L0 at *
          generalize ldP (ip k t 2) ns n = L2 at *
          clear hR3 hR0 hR2
          generalize hFt1 : F (t + 1) = Ft1 at *
          have HFt1 := hide hFt1
          clear hFt1
          generalize F t = b at *
          generalize bt x (nq t) = u at *
          generalize bt z (nq t) = v at *
          generalize nq t = q at *
          unfold str at l0 l2 HV0 HV1
          generalize (⟨(im k t 0).toArray⟩ : ByteArray) = s0 at *
          generalize (⟨(im k t 2).toArray⟩ : ByteArray) = s2 at *
          obtain ⟨bn, bxx, bzz, bp⟩ := b
          obtain ⟨⟨r0n, r0x, r0z, r0p⟩, r0e⟩ := R0
          obtain ⟨⟨r2n, r2x, r2z, r2p⟩, r2e⟩ := R2
          obtain ⟨⟨r3n, r3x, r3z, r3p⟩, r3e⟩ := R3
          obtain ⟨l0n, l0x, l0z, l0p⟩ := L0
          obtain ⟨l2n, l2x, l2z, l2p⟩ := L2
          unfold up at hs
          unfold pV at l0 l2 m0 m2' m3
          simp only at *
          have hu : u = 0 ∨ u = 1 := by omega
          have hv : v = 0 ∨ v = 1 := by omega
          clear hu2 hz2
          rcases hu with rfl | rfl <;> rcases hv with rfl | rfl
          . have HS := hide (hs.1 rfl rfl)
            clear hs
            simp only [Int.cast_ofNat_Int] at bx bz
            have HC1 : Hid (∀ W, Below wr.heap.size wr W -> (W.cell? ⟨w.heap.size, 0, none⟩ = some (.int .i64 n) /\ W.cell? ⟨w.heap.size, 1, none⟩ = some (.int .u64 (x : Int)) /\ W.cell? ⟨w.heap.size, 2, none⟩ = some (.int .u64 (z : Int)) /\ W.cell? ⟨w.heap.size, 3, none⟩ = some (.int .i64 ph) /\ w.heap.size < W.heap.size) /\ (W.cell? ⟨g, 0, none⟩ = some (.int .i64 bn) /\ W.cell? ⟨g, 1, none⟩ = some (.int .u64 (bxx : Int)) /\ W.cell? ⟨g, 2, none⟩ = some (.int .u64 (bzz : Int)) /\ W.cell? ⟨g, 3, none⟩ = some (.int .i64 bp) /\ g < W.heap.size) /\ W.frozen? ⟨g, 1, none⟩ = false /\ W.frozen? ⟨g, 2, none⟩ = false /\ W.frozen? ⟨g, 3, none⟩ = false /\ W.cell? ⟨gq, off + t, none⟩ = some (.int .i64 (q : Int)) /\ gq < W.heap.size /\ W.cell? ⟨gi, j0, none⟩ = some (.string s0) /\ W.cell? ⟨gi, j1, none⟩ = some (.string s2) /\ gi < W.heap.size) := hide (fun W hW => ⟨(HI.out.up' hW).one.cells, (HI.out.up' hW).row.cells, (HI.out.up' hW).row.fz 1, (HI.out.up' hW).row.fz 2, (HI.out.up' hW).row.fz 3, cell_below HCQ.out (HI.out.up' hW).below, World.block_lt_of_cell? _ _ (cell_below HCQ.out (HI.out.up' hW).below), HV0.out W (HI.out.up' hW).sq, HV1.out W (HI.out.up' hW).sq, World.block_lt_of_cell? _ _ (HV0.out W (HI.out.up' hW).sq)⟩)
            go_wp2_with fail
            refine wp_region_quiet (C := fun W => Below wr.heap.size wr W) (by kernel_rfl) (by kernel_rfl) (bdrew (Below.refl _ _) 1) ?_
            repeat
              refine wpQuiet_step (fun K hK => ?_)
              go_simp
              first
                | (refine hK _ ?_; clear hK K)
                | (apply Exists.intro
                   refine ⟨fun W hW => ?_, hK _ ?_⟩
                   first
                     | ((with_reducible refine Calls.mono (bx _) ?_); rintro e x ⟨rfl, rfl⟩; exact ⟨rfl, hW⟩)
                     | ((with_reducible refine Calls.mono (bz _) ?_); rintro e x ⟨rfl, rfl⟩; exact ⟨rfl, hW⟩)
                     | (obtain ⟨⟨a0, a1, a2, a3, a4⟩, ⟨d0, d1, d2, d3, d4⟩, d5, d6, d7, e0, e1, v0, v1, v2⟩ := HC1.out W hW; go_simp; rfl)
                   clear hK K)
            refine wpQuiet_nil ?_
            intro W1 hW
            have H1 := hide (HI.out.up' hW)
            clear hW HC1 HI
            go_wp2_with fail
            have HC2 : Hid (∀ W, Below W1.heap.size W1 W -> (W.cell? ⟨w.heap.size, 0, none⟩ = some (.int .i64 n) /\ W.cell? ⟨w.heap.size, 1, none⟩ = some (.int .u64 (x : Int)) /\ W.cell? ⟨w.heap.size, 2, none⟩ = some (.int .u64 (z : Int)) /\ W.cell? ⟨w.heap.size, 3, none⟩ = some (.int .i64 ph) /\ w.heap.size < W.heap.size) /\ (W.cell? ⟨g, 0, none⟩ = some (.int .i64 bn) /\ W.cell? ⟨g, 1, none⟩ = some (.int .u64 (bxx : Int)) /\ W.cell? ⟨g, 2, none⟩ = some (.int .u64 (bzz : Int)) /\ W.cell? ⟨g, 3, none⟩ = some (.int .i64 bp) /\ g < W.heap.size) /\ W.frozen? ⟨g, 1, none⟩ = false /\ W.frozen? ⟨g, 2, none⟩ = false /\ W.frozen? ⟨g, 3, none⟩ = false /\ W.cell? ⟨gq, off + t, none⟩ = some (.int .i64 (q : Int)) /\ gq < W.heap.size /\ W.cell? ⟨gi, j0, none⟩ = some (.string s0) /\ W.cell? ⟨gi, j1, none⟩ = some (.string s2) /\ gi < W.heap.size) := hide (fun W hW => ⟨(H1.out.up' hW).one.cells, (H1.out.up' hW).row.cells, (H1.out.up' hW).row.fz 1, (H1.out.up' hW).row.fz 2, (H1.out.up' hW).row.fz 3, cell_below HCQ.out (H1.out.up' hW).below, World.block_lt_of_cell? _ _ (cell_below HCQ.out (H1.out.up' hW).below), HV0.out W (H1.out.up' hW).sq, HV1.out W (H1.out.up' hW).sq, World.block_lt_of_cell? _ _ (HV0.out W (H1.out.up' hW).sq)⟩)
            refine wp_region_quiet (C := fun W => Below W1.heap.size W1 W) (by kernel_rfl) (by kernel_rfl) (bdrew (Below.refl _ _) 1) ?_
            repeat
              refine wpQuiet_step (fun K hK => ?_)
              go_simp
              first
                | (refine hK _ ?_; clear hK K)
                | (apply Exists.intro
                   refine ⟨fun W hW => ?_, hK _ ?_⟩
                   first
                     | ((with_reducible refine Calls.mono (bx _) ?_); rintro e x ⟨rfl, rfl⟩; exact ⟨rfl, hW⟩)
                     | ((with_reducible refine Calls.mono (bz _) ?_); rintro e x ⟨rfl, rfl⟩; exact ⟨rfl, hW⟩)
                     | (obtain ⟨⟨a0, a1, a2, a3, a4⟩, ⟨d0, d1, d2, d3, d4⟩, d5, d6, d7, e0, e1, v0, v1, v2⟩ := HC2.out W hW; go_simp; rfl)
                   clear hK K)
            refine wpQuiet_nil ?_
            intro W2 hW
            have H2 := hide (H1.out.up' hW)
            clear hW HC2 H1
            go_wp2_with fail
            go_roundw
            case rel => exact ⟨t + 1, by go_num, by omega, hide (by rw [HFt1.out, HS.out]; exact H2.out)⟩
            case measure => simp [Go.RowKit.intOf]; omega
          . have HS := hide (hs.2.2.1 rfl rfl)
            clear hs
            simp only [Int.cast_ofNat_Int] at bx bz
            have HC1 : Hid (∀ W, Below wr.heap.size wr W -> (W.cell? ⟨w.heap.size, 0, none⟩ = some (.int .i64 n) /\ W.cell? ⟨w.heap.size, 1, none⟩ = some (.int .u64 (x : Int)) /\ W.cell? ⟨w.heap.size, 2, none⟩ = some (.int .u64 (z : Int)) /\ W.cell? ⟨w.heap.size, 3, none⟩ = some (.int .i64 ph) /\ w.heap.size < W.heap.size) /\ (W.cell? ⟨g, 0, none⟩ = some (.int .i64 bn) /\ W.cell? ⟨g, 1, none⟩ = some (.int .u64 (bxx : Int)) /\ W.cell? ⟨g, 2, none⟩ = some (.int .u64 (bzz : Int)) /\ W.cell? ⟨g, 3, none⟩ = some (.int .i64 bp) /\ g < W.heap.size) /\ W.frozen? ⟨g, 1, none⟩ = false /\ W.frozen? ⟨g, 2, none⟩ = false /\ W.frozen? ⟨g, 3, none⟩ = false /\ W.cell? ⟨gq, off + t, none⟩ = some (.int .i64 (q : Int)) /\ gq < W.heap.size /\ W.cell? ⟨gi, j0, none⟩ = some (.string s0) /\ W.cell? ⟨gi, j1, none⟩ = some (.string s2) /\ gi < W.heap.size) := hide (fun W hW => ⟨(HI.out.up' hW).one.cells, (HI.out.up' hW).row.cells, (HI.out.up' hW).row.fz 1, (HI.out.up' hW).row.fz 2, (HI.out.up' hW).row.fz 3, cell_below HCQ.out (HI.out.up' hW).below, World.block_lt_of_cell? _ _ (cell_below HCQ.out (HI.out.up' hW).below), HV0.out W (HI.out.up' hW).sq, HV1.out W (HI.out.up' hW).sq, World.block_lt_of_cell? _ _ (HV0.out W (HI.out.up' hW).sq)⟩)
            go_wp2_with fail
            refine wp_region_quiet (C := fun W => Below wr.heap.size wr W) (by kernel_rfl) (by kernel_rfl) (bdrew (Below.refl _ _) 1) ?_
            repeat
              refine wpQuiet_step (fun K hK => ?_)
              go_simp
              first
                | (refine hK _ ?_; clear hK K)
                | (apply Exists.intro
                   refine ⟨fun W hW => ?_, hK _ ?_⟩
                   first
                     | ((with_reducible refine Calls.mono (bx _) ?_); rintro e x ⟨rfl, rfl⟩; exact ⟨rfl, hW⟩)
                     | ((with_reducible refine Calls.mono (bz _) ?_); rintro e x ⟨rfl, rfl⟩; exact ⟨rfl, hW⟩)
                     | (obtain ⟨⟨a0, a1, a2, a3, a4⟩, ⟨d0, d1, d2, d3, d4⟩, d5, d6, d7, e0, e1, v0, v1, v2⟩ := HC1.out W hW; go_simp; rfl)
                   clear hK K)
            refine wpQuiet_nil ?_
            intro W1 hW
            have H1 := hide (HI.out.up' hW)
            clear hW HC1 HI
            go_wp2_with fail
            have HC2 : Hid (∀ W, Below W1.heap.size W1 W -> (W.cell? ⟨w.heap.size, 0, none⟩ = some (.int .i64 n) /\ W.cell? ⟨w.heap.size, 1, none⟩ = some (.int .u64 (x : Int)) /\ W.cell? ⟨w.heap.size, 2, none⟩ = some (.int .u64 (z : Int)) /\ W.cell? ⟨w.heap.size, 3, none⟩ = some (.int .i64 ph) /\ w.heap.size < W.heap.size) /\ (W.cell? ⟨g, 0, none⟩ = some (.int .i64 bn) /\ W.cell? ⟨g, 1, none⟩ = some (.int .u64 (bxx : Int)) /\ W.cell? ⟨g, 2, none⟩ = some (.int .u64 (bzz : Int)) /\ W.cell? ⟨g, 3, none⟩ = some (.int .i64 bp) /\ g < W.heap.size) /\ W.frozen? ⟨g, 1, none⟩ = false /\ W.frozen? ⟨g, 2, none⟩ = false /\ W.frozen? ⟨g, 3, none⟩ = false /\ W.cell? ⟨gq, off + t, none⟩ = some (.int .i64 (q : Int)) /\ gq < W.heap.size /\ W.cell? ⟨gi, j0, none⟩ = some (.string s0) /\ W.cell? ⟨gi, j1, none⟩ = some (.string s2) /\ gi < W.heap.size) := hide (fun W hW => ⟨(H1.out.up' hW).one.cells, (H1.out.up' hW).row.cells, (H1.out.up' hW).row.fz 1, (H1.out.up' hW).row.fz 2, (H1.out.up' hW).row.fz 3, cell_below HCQ.out (H1.out.up' hW).below, World.block_lt_of_cell? _ _ (cell_below HCQ.out (H1.out.up' hW).below), HV0.out W (H1.out.up' hW).sq, HV1.out W (H1.out.up' hW).sq, World.block_lt_of_cell? _ _ (HV0.out W (H1.out.up' hW).sq)⟩)
            refine wp_region_quiet (C := fun W => Below W1.heap.size W1 W) (by kernel_rfl) (by kernel_rfl) (bdrew (Below.refl _ _) 1) ?_
            repeat
              refine wpQuiet_step (fun K hK => ?_)
              go_simp
              first
                | (refine hK _ ?_; clear hK K)
                | (apply Exists.intro
                   refine ⟨fun W hW => ?_, hK _ ?_⟩
                   first
                     | ((with_reducible refine Calls.mono (bx _) ?_); rintro e x ⟨rfl, rfl⟩; exact ⟨rfl, hW⟩)
                     | ((with_reducible refine Calls.mono (bz _) ?_); rintro e x ⟨rfl, rfl⟩; exact ⟨rfl, hW⟩)
                     | (obtain ⟨⟨a0, a1, a2, a3, a4⟩, ⟨d0, d1, d2, d3, d4⟩, d5, d6, d7, e0, e1, v0, v1, v2⟩ := HC2.out W hW; go_simp; rfl)
                   clear hK K)
            refine wpQuiet_nil ?_
            intro W2 hW
            have H2 := hide (H1.out.up' hW)
            clear hW HC2 H1
            go_wp2_with fail
            have HC4 : Hid (∀ W, Below W2.heap.size W2 W -> (W.cell? ⟨w.heap.size, 0, none⟩ = some (.int .i64 n) /\ W.cell? ⟨w.heap.size, 1, none⟩ = some (.int .u64 (x : Int)) /\ W.cell? ⟨w.heap.size, 2, none⟩ = some (.int .u64 (z : Int)) /\ W.cell? ⟨w.heap.size, 3, none⟩ = some (.int .i64 ph) /\ w.heap.size < W.heap.size) /\ (W.cell? ⟨g, 0, none⟩ = some (.int .i64 bn) /\ W.cell? ⟨g, 1, none⟩ = some (.int .u64 (bxx : Int)) /\ W.cell? ⟨g, 2, none⟩ = some (.int .u64 (bzz : Int)) /\ W.cell? ⟨g, 3, none⟩ = some (.int .i64 bp) /\ g < W.heap.size) /\ W.frozen? ⟨g, 1, none⟩ = false /\ W.frozen? ⟨g, 2, none⟩ = false /\ W.frozen? ⟨g, 3, none⟩ = false /\ W.cell? ⟨gq, off + t, none⟩ = some (.int .i64 (q : Int)) /\ gq < W.heap.size /\ W.cell? ⟨gi, j0, none⟩ = some (.string s0) /\ W.cell? ⟨gi, j1, none⟩ = some (.string s2) /\ gi < W.heap.size) := hide (fun W hW => ⟨(H2.out.up' hW).one.cells, (H2.out.up' hW).row.cells, (H2.out.up' hW).row.fz 1, (H2.out.up' hW).row.fz 2, (H2.out.up' hW).row.fz 3, cell_below HCQ.out (H2.out.up' hW).below, World.block_lt_of_cell? _ _ (cell_below HCQ.out (H2.out.up' hW).below), HV0.out W (H2.out.up' hW).sq, HV1.out W (H2.out.up' hW).sq, World.block_lt_of_cell? _ _ (HV0.out W (H2.out.up' hW).sq)⟩)
            have HBW : Hid (∀ V, Below W2.heap.size W2 V -> Below w.heap.size w V) := hide (fun V hV => bkp H2.out.below hV)
            refine wp_region_quiet_S (C := fun W => Below W2.heap.size W2 W) (by kernel_rfl) 14 rfl rfl rfl (by kernel_rfl) (by kernel_rfl) (bdrew (Below.refl _ _) 1) (fun a v w => store_swap rfl (by decide) (by decide) a v w) ?_
            simp only [List.take_succ_cons, List.take_zero]
            repeat
              refine wpQuiet_step (fun K hK => ?_)
              go_simp
              first
                | (refine hK _ ?_; clear hK K)
                | (apply Exists.intro
                   refine ⟨fun W hW => ?_, hK _ ?_⟩
                   first
                     | ((with_reducible refine Calls.mono (l2 _ (HBW.out W hW)) ?_); rintro e x ⟨rfl, hb⟩; exact ⟨rfl, bkp hW hb⟩)
                     | ((with_reducible refine Calls.mono (m2' _) ?_); rintro e x ⟨rfl, hb⟩; exact ⟨rfl, bkp hW hb⟩)
                     | (obtain ⟨⟨a0, a1, a2, a3, a4⟩, ⟨d0, d1, d2, d3, d4⟩, d5, d6, d7, e0, e1, v0, v1, v2⟩ := HC4.out W hW; go_simp; rfl)
                   clear hK K)
            refine wpQuiet_nil ?_
            intro W4 hW
            have hR := (H2.out.up' hW).row
            have H4 := hide ((H2.out.up' hW).setR r2n r2x r2z r2p)
            unfold At4 at hR
            clear hW HC4 H2 HBW
            refine ⟨_, store_run rfl rfl rfl hR (by exact infoP) (by rfl) (allP _ _ _ _), ?_⟩
            clear hR
            generalize W4.setRow g #[.int .i64 r2n, .int .u64 (r2x : Int), .int .u64 (r2z : Int), .int .i64 r2p] = V4 at *
            go_wp2_with fail
            go_roundw
            case rel => exact ⟨t + 1, by go_num, by omega, hide (by rw [HFt1.out, HS.out]; exact H4.out)⟩
            case measure => simp [Go.RowKit.intOf]; omega
          . have HS := hide (hs.2.1 rfl rfl)
            clear hs
            simp only [Int.cast_ofNat_Int] at bx bz
            have HC1 : Hid (∀ W, Below wr.heap.size wr W -> (W.cell? ⟨w.heap.size, 0, none⟩ = some (.int .i64 n) /\ W.cell? ⟨w.heap.size, 1, none⟩ = some (.int .u64 (x : Int)) /\ W.cell? ⟨w.heap.size, 2, none⟩ = some (.int .u64 (z : Int)) /\ W.cell? ⟨w.heap.size, 3, none⟩ = some (.int .i64 ph) /\ w.heap.size < W.heap.size) /\ (W.cell? ⟨g, 0, none⟩ = some (.int .i64 bn) /\ W.cell? ⟨g, 1, none⟩ = some (.int .u64 (bxx : Int)) /\ W.cell? ⟨g, 2, none⟩ = some (.int .u64 (bzz : Int)) /\ W.cell? ⟨g, 3, none⟩ = some (.int .i64 bp) /\ g < W.heap.size) /\ W.frozen? ⟨g, 1, none⟩ = false /\ W.frozen? ⟨g, 2, none⟩ = false /\ W.frozen? ⟨g, 3, none⟩ = false /\ W.cell? ⟨gq, off + t, none⟩ = some (.int .i64 (q : Int)) /\ gq < W.heap.size /\ W.cell? ⟨gi, j0, none⟩ = some (.string s0) /\ W.cell? ⟨gi, j1, none⟩ = some (.string s2) /\ gi < W.heap.size) := hide (fun W hW => ⟨(HI.out.up' hW).one.cells, (HI.out.up' hW).row.cells, (HI.out.up' hW).row.fz 1, (HI.out.up' hW).row.fz 2, (HI.out.up' hW).row.fz 3, cell_below HCQ.out (HI.out.up' hW).below, World.block_lt_of_cell? _ _ (cell_below HCQ.out (HI.out.up' hW).below), HV0.out W (HI.out.up' hW).sq, HV1.out W (HI.out.up' hW).sq, World.block_lt_of_cell? _ _ (HV0.out W (HI.out.up' hW).sq)⟩)
            go_wp2_with fail
            refine wp_region_quiet (C := fun W => Below wr.heap.size wr W) (by kernel_rfl) (by kernel_rfl) (bdrew (Below.refl _ _) 1) ?_
            repeat
              refine wpQuiet_step (fun K hK => ?_)
              go_simp
              first
                | (refine hK _ ?_; clear hK K)
                | (apply Exists.intro
                   refine ⟨fun W hW => ?_, hK _ ?_⟩
                   first
                     | ((with_reducible refine Calls.mono (bx _) ?_); rintro e x ⟨rfl, rfl⟩; exact ⟨rfl, hW⟩)
                     | ((with_reducible refine Calls.mono (bz _) ?_); rintro e x ⟨rfl, rfl⟩; exact ⟨rfl, hW⟩)
                     | (obtain ⟨⟨a0, a1, a2, a3, a4⟩, ⟨d0, d1, d2, d3, d4⟩, d5, d6, d7, e0, e1, v0, v1, v2⟩ := HC1.out W hW; go_simp; rfl)
                   clear hK K)
            refine wpQuiet_nil ?_
            intro W1 hW
            have H1 := hide (HI.out.up' hW)
            clear hW HC1 HI
            go_wp2_with fail
            have HC2 : Hid (∀ W, Below W1.heap.size W1 W -> (W.cell? ⟨w.heap.size, 0, none⟩ = some (.int .i64 n) /\ W.cell? ⟨w.heap.size, 1, none⟩ = some (.int .u64 (x : Int)) /\ W.cell? ⟨w.heap.size, 2, none⟩ = some (.int .u64 (z : Int)) /\ W.cell? ⟨w.heap.size, 3, none⟩ = some (.int .i64 ph) /\ w.heap.size < W.heap.size) /\ (W.cell? ⟨g, 0, none⟩ = some (.int .i64 bn) /\ W.cell? ⟨g, 1, none⟩ = some (.int .u64 (bxx : Int)) /\ W.cell? ⟨g, 2, none⟩ = some (.int .u64 (bzz : Int)) /\ W.cell? ⟨g, 3, none⟩ = some (.int .i64 bp) /\ g < W.heap.size) /\ W.frozen? ⟨g, 1, none⟩ = false /\ W.frozen? ⟨g, 2, none⟩ = false /\ W.frozen? ⟨g, 3, none⟩ = false /\ W.cell? ⟨gq, off + t, none⟩ = some (.int .i64 (q : Int)) /\ gq < W.heap.size /\ W.cell? ⟨gi, j0, none⟩ = some (.string s0) /\ W.cell? ⟨gi, j1, none⟩ = some (.string s2) /\ gi < W.heap.size) := hide (fun W hW => ⟨(H1.out.up' hW).one.cells, (H1.out.up' hW).row.cells, (H1.out.up' hW).row.fz 1, (H1.out.up' hW).row.fz 2, (H1.out.up' hW).row.fz 3, cell_below HCQ.out (H1.out.up' hW).below, World.block_lt_of_cell? _ _ (cell_below HCQ.out (H1.out.up' hW).below), HV0.out W (H1.out.up' hW).sq, HV1.out W (H1.out.up' hW).sq, World.block_lt_of_cell? _ _ (HV0.out W (H1.out.up' hW).sq)⟩)
            refine wp_region_quiet (C := fun W => Below W1.heap.size W1 W) (by kernel_rfl) (by kernel_rfl) (bdrew (Below.refl _ _) 1) ?_
            repeat
              refine wpQuiet_step (fun K hK => ?_)
              go_simp
              first
                | (refine hK _ ?_; clear hK K)
                | (apply Exists.intro
                   refine ⟨fun W hW => ?_, hK _ ?_⟩
                   first
                     | ((with_reducible refine Calls.mono (bx _) ?_); rintro e x ⟨rfl, rfl⟩; exact ⟨rfl, hW⟩)
                     | ((with_reducible refine Calls.mono (bz _) ?_); rintro e x ⟨rfl, rfl⟩; exact ⟨rfl, hW⟩)
                     | (obtain ⟨⟨a0, a1, a2, a3, a4⟩, ⟨d0, d1, d2, d3, d4⟩, d5, d6, d7, e0, e1, v0, v1, v2⟩ := HC2.out W hW; go_simp; rfl)
                   clear hK K)
            refine wpQuiet_nil ?_
            intro W2 hW
            have H2 := hide (H1.out.up' hW)
            clear hW HC2 H1
            go_wp2_with fail
            have HC3 : Hid (∀ W, Below W2.heap.size W2 W -> (W.cell? ⟨w.heap.size, 0, none⟩ = some (.int .i64 n) /\ W.cell? ⟨w.heap.size, 1, none⟩ = some (.int .u64 (x : Int)) /\ W.cell? ⟨w.heap.size, 2, none⟩ = some (.int .u64 (z : Int)) /\ W.cell? ⟨w.heap.size, 3, none⟩ = some (.int .i64 ph) /\ w.heap.size < W.heap.size) /\ (W.cell? ⟨g, 0, none⟩ = some (.int .i64 bn) /\ W.cell? ⟨g, 1, none⟩ = some (.int .u64 (bxx : Int)) /\ W.cell? ⟨g, 2, none⟩ = some (.int .u64 (bzz : Int)) /\ W.cell? ⟨g, 3, none⟩ = some (.int .i64 bp) /\ g < W.heap.size) /\ W.frozen? ⟨g, 1, none⟩ = false /\ W.frozen? ⟨g, 2, none⟩ = false /\ W.frozen? ⟨g, 3, none⟩ = false /\ W.cell? ⟨gq, off + t, none⟩ = some (.int .i64 (q : Int)) /\ gq < W.heap.size /\ W.cell? ⟨gi, j0, none⟩ = some (.string s0) /\ W.cell? ⟨gi, j1, none⟩ = some (.string s2) /\ gi < W.heap.size) := hide (fun W hW => ⟨(H2.out.up' hW).one.cells, (H2.out.up' hW).row.cells, (H2.out.up' hW).row.fz 1, (H2.out.up' hW).row.fz 2, (H2.out.up' hW).row.fz 3, cell_below HCQ.out (H2.out.up' hW).below, World.block_lt_of_cell? _ _ (cell_below HCQ.out (H2.out.up' hW).below), HV0.out W (H2.out.up' hW).sq, HV1.out W (H2.out.up' hW).sq, World.block_lt_of_cell? _ _ (HV0.out W (H2.out.up' hW).sq)⟩)
            have HBW : Hid (∀ V, Below W2.heap.size W2 V -> Below w.heap.size w V) := hide (fun V hV => bkp H2.out.below hV)
            refine wp_region_quiet_S (C := fun W => Below W2.heap.size W2 W) (by kernel_rfl) 13 rfl rfl rfl (by kernel_rfl) (by kernel_rfl) (bdrew (Below.refl _ _) 1) (fun a v w => store_swap rfl (by decide) (by decide) a v w) ?_
            simp only [List.take_succ_cons, List.take_zero]
            repeat
              refine wpQuiet_step (fun K hK => ?_)
              go_simp
              first
                | (refine hK _ ?_; clear hK K)
                | (apply Exists.intro
                   refine ⟨fun W hW => ?_, hK _ ?_⟩
                   first
                     | ((with_reducible refine Calls.mono (l0 _ (HBW.out W hW)) ?_); rintro e x ⟨rfl, hb⟩; exact ⟨rfl, bkp hW hb⟩)
                     | ((with_reducible refine Calls.mono (m0 _) ?_); rintro e x ⟨rfl, hb⟩; exact ⟨rfl, bkp hW hb⟩)
                     | (obtain ⟨⟨a0, a1, a2, a3, a4⟩, ⟨d0, d1, d2, d3, d4⟩, d5, d6, d7, e0, e1, v0, v1, v2⟩ := HC3.out W hW; go_simp; rfl)
                   clear hK K)
            refine wpQuiet_nil ?_
            intro W3 hW
            have hR := (H2.out.up' hW).row
            have H3 := hide ((H2.out.up' hW).setR r0n r0x r0z r0p)
            unfold At4 at hR
            clear hW HC3 H2 HBW
            refine ⟨_, store_run rfl rfl rfl hR (by exact infoP) (by rfl) (allP _ _ _ _), ?_⟩
            clear hR
            generalize W3.setRow g #[.int .i64 r0n, .int .u64 (r0x : Int), .int .u64 (r0z : Int), .int .i64 r0p] = V3 at *
            go_wp2_with fail
            go_roundw
            case rel => exact ⟨t + 1, by go_num, by omega, hide (by rw [HFt1.out, HS.out]; exact H3.out)⟩
            case measure => simp [Go.RowKit.intOf]; omega
          . have HS := hide (hs.2.2.2 rfl rfl)
            clear hs
            simp only [Int.cast_ofNat_Int] at bx bz
            have HC1 : Hid (∀ W, Below wr.heap.size wr W -> (W.cell? ⟨w.heap.size, 0, none⟩ = some (.int .i64 n) /\ W.cell? ⟨w.heap.size, 1, none⟩ = some (.int .u64 (x : Int)) /\ W.cell? ⟨w.heap.size, 2, none⟩ = some (.int .u64 (z : Int)) /\ W.cell? ⟨w.heap.size, 3, none⟩ = some (.int .i64 ph) /\ w.heap.size < W.heap.size) /\ (W.cell? ⟨g, 0, none⟩ = some (.int .i64 bn) /\ W.cell? ⟨g, 1, none⟩ = some (.int .u64 (bxx : Int)) /\ W.cell? ⟨g, 2, none⟩ = some (.int .u64 (bzz : Int)) /\ W.cell? ⟨g, 3, none⟩ = some (.int .i64 bp) /\ g < W.heap.size) /\ W.frozen? ⟨g, 1, none⟩ = false /\ W.frozen? ⟨g, 2, none⟩ = false /\ W.frozen? ⟨g, 3, none⟩ = false /\ W.cell? ⟨gq, off + t, none⟩ = some (.int .i64 (q : Int)) /\ gq < W.heap.size /\ W.cell? ⟨gi, j0, none⟩ = some (.string s0) /\ W.cell? ⟨gi, j1, none⟩ = some (.string s2) /\ gi < W.heap.size) := hide (fun W hW => ⟨(HI.out.up' hW).one.cells, (HI.out.up' hW).row.cells, (HI.out.up' hW).row.fz 1, (HI.out.up' hW).row.fz 2, (HI.out.up' hW).row.fz 3, cell_below HCQ.out (HI.out.up' hW).below, World.block_lt_of_cell? _ _ (cell_below HCQ.out (HI.out.up' hW).below), HV0.out W (HI.out.up' hW).sq, HV1.out W (HI.out.up' hW).sq, World.block_lt_of_cell? _ _ (HV0.out W (HI.out.up' hW).sq)⟩)
            go_wp2_with fail
            refine wp_region_quiet (C := fun W => Below wr.heap.size wr W) (by kernel_rfl) (by kernel_rfl) (bdrew (Below.refl _ _) 1) ?_
            repeat
              refine wpQuiet_step (fun K hK => ?_)
              go_simp
              first
                | (refine hK _ ?_; clear hK K)
                | (apply Exists.intro
                   refine ⟨fun W hW => ?_, hK _ ?_⟩
                   first
                     | ((with_reducible refine Calls.mono (bx _) ?_); rintro e x ⟨rfl, rfl⟩; exact ⟨rfl, hW⟩)
                     | ((with_reducible refine Calls.mono (bz _) ?_); rintro e x ⟨rfl, rfl⟩; exact ⟨rfl, hW⟩)
                     | (obtain ⟨⟨a0, a1, a2, a3, a4⟩, ⟨d0, d1, d2, d3, d4⟩, d5, d6, d7, e0, e1, v0, v1, v2⟩ := HC1.out W hW; go_simp; rfl)
                   clear hK K)
            refine wpQuiet_nil ?_
            intro W1 hW
            have H1 := hide (HI.out.up' hW)
            clear hW HC1 HI
            go_wp2_with fail
            have HC2 : Hid (∀ W, Below W1.heap.size W1 W -> (W.cell? ⟨w.heap.size, 0, none⟩ = some (.int .i64 n) /\ W.cell? ⟨w.heap.size, 1, none⟩ = some (.int .u64 (x : Int)) /\ W.cell? ⟨w.heap.size, 2, none⟩ = some (.int .u64 (z : Int)) /\ W.cell? ⟨w.heap.size, 3, none⟩ = some (.int .i64 ph) /\ w.heap.size < W.heap.size) /\ (W.cell? ⟨g, 0, none⟩ = some (.int .i64 bn) /\ W.cell? ⟨g, 1, none⟩ = some (.int .u64 (bxx : Int)) /\ W.cell? ⟨g, 2, none⟩ = some (.int .u64 (bzz : Int)) /\ W.cell? ⟨g, 3, none⟩ = some (.int .i64 bp) /\ g < W.heap.size) /\ W.frozen? ⟨g, 1, none⟩ = false /\ W.frozen? ⟨g, 2, none⟩ = false /\ W.frozen? ⟨g, 3, none⟩ = false /\ W.cell? ⟨gq, off + t, none⟩ = some (.int .i64 (q : Int)) /\ gq < W.heap.size /\ W.cell? ⟨gi, j0, none⟩ = some (.string s0) /\ W.cell? ⟨gi, j1, none⟩ = some (.string s2) /\ gi < W.heap.size) := hide (fun W hW => ⟨(H1.out.up' hW).one.cells, (H1.out.up' hW).row.cells, (H1.out.up' hW).row.fz 1, (H1.out.up' hW).row.fz 2, (H1.out.up' hW).row.fz 3, cell_below HCQ.out (H1.out.up' hW).below, World.block_lt_of_cell? _ _ (cell_below HCQ.out (H1.out.up' hW).below), HV0.out W (H1.out.up' hW).sq, HV1.out W (H1.out.up' hW).sq, World.block_lt_of_cell? _ _ (HV0.out W (H1.out.up' hW).sq)⟩)
            refine wp_region_quiet (C := fun W => Below W1.heap.size W1 W) (by kernel_rfl) (by kernel_rfl) (bdrew (Below.refl _ _) 1) ?_
            repeat
              refine wpQuiet_step (fun K hK => ?_)
              go_simp
              first
                | (refine hK _ ?_; clear hK K)
                | (apply Exists.intro
                   refine ⟨fun W hW => ?_, hK _ ?_⟩
                   first
                     | ((with_reducible refine Calls.mono (bx _) ?_); rintro e x ⟨rfl, rfl⟩; exact ⟨rfl, hW⟩)
                     | ((with_reducible refine Calls.mono (bz _) ?_); rintro e x ⟨rfl, rfl⟩; exact ⟨rfl, hW⟩)
                     | (obtain ⟨⟨a0, a1, a2, a3, a4⟩, ⟨d0, d1, d2, d3, d4⟩, d5, d6, d7, e0, e1, v0, v1, v2⟩ := HC2.out W hW; go_simp; rfl)
                   clear hK K)
            refine wpQuiet_nil ?_
            intro W2 hW
            have H2 := hide (H1.out.up' hW)
            clear hW HC2 H1
            go_wp2_with fail
            have HC3 : Hid (∀ W, Below W2.heap.size W2 W -> (W.cell? ⟨w.heap.size, 0, none⟩ = some (.int .i64 n) /\ W.cell? ⟨w.heap.size, 1, none⟩ = some (.int .u64 (x : Int)) /\ W.cell? ⟨w.heap.size, 2, none⟩ = some (.int .u64 (z : Int)) /\ W.cell? ⟨w.heap.size, 3, none⟩ = some (.int .i64 ph) /\ w.heap.size < W.heap.size) /\ (W.cell? ⟨g, 0, none⟩ = some (.int .i64 bn) /\ W.cell? ⟨g, 1, none⟩ = some (.int .u64 (bxx : Int)) /\ W.cell? ⟨g, 2, none⟩ = some (.int .u64 (bzz : Int)) /\ W.cell? ⟨g, 3, none⟩ = some (.int .i64 bp) /\ g < W.heap.size) /\ W.frozen? ⟨g, 1, none⟩ = false /\ W.frozen? ⟨g, 2, none⟩ = false /\ W.frozen? ⟨g, 3, none⟩ = false /\ W.cell? ⟨gq, off + t, none⟩ = some (.int .i64 (q : Int)) /\ gq < W.heap.size /\ W.cell? ⟨gi, j0, none⟩ = some (.string s0) /\ W.cell? ⟨gi, j1, none⟩ = some (.string s2) /\ gi < W.heap.size) := hide (fun W hW => ⟨(H2.out.up' hW).one.cells, (H2.out.up' hW).row.cells, (H2.out.up' hW).row.fz 1, (H2.out.up' hW).row.fz 2, (H2.out.up' hW).row.fz 3, cell_below HCQ.out (H2.out.up' hW).below, World.block_lt_of_cell? _ _ (cell_below HCQ.out (H2.out.up' hW).below), HV0.out W (H2.out.up' hW).sq, HV1.out W (H2.out.up' hW).sq, World.block_lt_of_cell? _ _ (HV0.out W (H2.out.up' hW).sq)⟩)
            have HBW : Hid (∀ V, Below W2.heap.size W2 V -> Below w.heap.size w V) := hide (fun V hV => bkp H2.out.below hV)
            refine wp_region_quiet_S (C := fun W => Below W2.heap.size W2 W) (by kernel_rfl) 13 rfl rfl rfl (by kernel_rfl) (by kernel_rfl) (bdrew (Below.refl _ _) 1) (fun a v w => store_swap rfl (by decide) (by decide) a v w) ?_
            simp only [List.take_succ_cons, List.take_zero]
            repeat
              refine wpQuiet_step (fun K hK => ?_)
              go_simp
              first
                | (refine hK _ ?_; clear hK K)
                | (apply Exists.intro
                   refine ⟨fun W hW => ?_, hK _ ?_⟩
                   first
                     | ((with_reducible refine Calls.mono (l0 _ (HBW.out W hW)) ?_); rintro e x ⟨rfl, hb⟩; exact ⟨rfl, bkp hW hb⟩)
                     | ((with_reducible refine Calls.mono (m0 _) ?_); rintro e x ⟨rfl, hb⟩; exact ⟨rfl, bkp hW hb⟩)
                     | (obtain ⟨⟨a0, a1, a2, a3, a4⟩, ⟨d0, d1, d2, d3, d4⟩, d5, d6, d7, e0, e1, v0, v1, v2⟩ := HC3.out W hW; go_simp; rfl)
                   clear hK K)
            refine wpQuiet_nil ?_
            intro W3 hW
            have hR := (H2.out.up' hW).row
            have H3 := hide ((H2.out.up' hW).setR r0n r0x r0z r0p)
            unfold At4 at hR
            clear hW HC3 H2 HBW
            refine ⟨_, store_run rfl rfl rfl hR (by exact infoP) (by rfl) (allP _ _ _ _), ?_⟩
            clear hR
            generalize W3.setRow g #[.int .i64 r0n, .int .u64 (r0x : Int), .int .u64 (r0z : Int), .int .i64 r0p] = V3 at *
            go_wp2_with fail
            have HC4 : Hid (∀ W, Below V3.heap.size V3 W -> (W.cell? ⟨w.heap.size, 0, none⟩ = some (.int .i64 n) /\ W.cell? ⟨w.heap.size, 1, none⟩ = some (.int .u64 (x : Int)) /\ W.cell? ⟨w.heap.size, 2, none⟩ = some (.int .u64 (z : Int)) /\ W.cell? ⟨w.heap.size, 3, none⟩ = some (.int .i64 ph) /\ w.heap.size < W.heap.size) /\ (W.cell? ⟨g, 0, none⟩ = some (.int .i64 r0n) /\ W.cell? ⟨g, 1, none⟩ = some (.int .u64 (r0x : Int)) /\ W.cell? ⟨g, 2, none⟩ = some (.int .u64 (r0z : Int)) /\ W.cell? ⟨g, 3, none⟩ = some (.int .i64 r0p) /\ g < W.heap.size) /\ W.frozen? ⟨g, 1, none⟩ = false /\ W.frozen? ⟨g, 2, none⟩ = false /\ W.frozen? ⟨g, 3, none⟩ = false /\ W.cell? ⟨gq, off + t, none⟩ = some (.int .i64 (q : Int)) /\ gq < W.heap.size /\ W.cell? ⟨gi, j0, none⟩ = some (.string s0) /\ W.cell? ⟨gi, j1, none⟩ = some (.string s2) /\ gi < W.heap.size) := hide (fun W hW => ⟨(H3.out.up' hW).one.cells, (H3.out.up' hW).row.cells, (H3.out.up' hW).row.fz 1, (H3.out.up' hW).row.fz 2, (H3.out.up' hW).row.fz 3, cell_below HCQ.out (H3.out.up' hW).below, World.block_lt_of_cell? _ _ (cell_below HCQ.out (H3.out.up' hW).below), HV0.out W (H3.out.up' hW).sq, HV1.out W (H3.out.up' hW).sq, World.block_lt_of_cell? _ _ (HV0.out W (H3.out.up' hW).sq)⟩)
            have HBW : Hid (∀ V, Below V3.heap.size V3 V -> Below w.heap.size w V) := hide (fun V hV => bkp H3.out.below hV)
            refine wp_region_quiet_S (C := fun W => Below V3.heap.size V3 W) (by kernel_rfl) 14 rfl rfl rfl (by kernel_rfl) (by kernel_rfl) (bdrew (Below.refl _ _) 1) (fun a v w => store_swap rfl (by decide) (by decide) a v w) ?_
            simp only [List.take_succ_cons, List.take_zero]
            repeat
              refine wpQuiet_step (fun K hK => ?_)
              go_simp
              first
                | (refine hK _ ?_; clear hK K)
                | (apply Exists.intro
                   refine ⟨fun W hW => ?_, hK _ ?_⟩
                   first
                     | ((with_reducible refine Calls.mono (l2 _ (HBW.out W hW)) ?_); rintro e x ⟨rfl, hb⟩; exact ⟨rfl, bkp hW hb⟩)
                     | ((with_reducible refine Calls.mono (m3 _) ?_); rintro e x ⟨rfl, hb⟩; exact ⟨rfl, bkp hW hb⟩)
                     | (obtain ⟨⟨a0, a1, a2, a3, a4⟩, ⟨d0, d1, d2, d3, d4⟩, d5, d6, d7, e0, e1, v0, v1, v2⟩ := HC4.out W hW; go_simp; rfl)
                   clear hK K)
            refine wpQuiet_nil ?_
            intro W4 hW
            have hR := (H3.out.up' hW).row
            have H4 := hide ((H3.out.up' hW).setR r3n r3x r3z r3p)
            unfold At4 at hR
            clear hW HC4 H3 HBW
            refine ⟨_, store_run rfl rfl rfl hR (by exact infoP) (by rfl) (allP _ _ _ _), ?_⟩
            clear hR
            generalize W4.setRow g #[.int .i64 r3n, .int .u64 (r3x : Int), .int .u64 (r3z : Int), .int .i64 r3p] = V4 at *
            have p1 : wrap64 (r3p + 1) = r3p + 1 := by unfold wrap64; omega
            have p3 : IntKind.i64.wrap (r3p + 1) = r3p + 1 := by rw [wrapI]; omega
            have p2 : Int.tmod (r3p + 1) 4 = (r3p + 1) % 4 := Int.tmod_eq_emod_of_nonneg (by omega)
            have H5 := hide (H4.out.set3 ((r3p + 1) % 4))
            obtain ⟨d0, d1, d2, d3, d4⟩ := H4.out.row.cells
            have d7 := H4.out.row.fz 3
            clear H4
            go_wp2_with fail
            go_roundw
            case rel => exact ⟨t + 1, by go_num, by omega, hide (by rw [HFt1.out, HS.out]; exact H5.out)⟩
            case measure => simp [Go.RowKit.intOf]; omega
        . obtain rfl : t = k1 := by omega
          have hd2 : decide ((t : Int) < (t : Int)) = false := decide_eq_false (by omega)
          obtain ⟨d0, d1, d2, d3, d4⟩ := HI.out.row.cells
          have hR := HI.out.out
          have HBi := hide HI.out.below
          unfold At4 at hR
          clear HI HLE HMU HMW HWF HS HSV HBX HBZ
          go_wp2_with (first
            | (refine wpList_store_row rfl _ _ _ rfl (w.heap.size + 1) _ rfl rfl _ _ hR (by exact infoP) (by rfl) (allP _ _ _ _) ?_))
          refine bodyPost_ret (results_ct rfl _ _ (w.heap.size + 1) _ _ _ _ rfl (setRow_heap _ _ _ _ _ _ hR) Tryz.underlying27 rfl (by exact infoP)) rfl ?_
          exact ⟨rfl, below_setRow HBi.out (by omega) _⟩
end Go.Proofs.YtoickolhekhgmaaGreatDoor.Pau
