/- The law PauliGroup, as it is walked (gen_gq13.py). -/
import Derived.Test.YteknpejkooemjabDoorGp13
namespace Go.Proofs.YteknpejkooemjabDoor.Pau
open Go.RowKit Go.Shelf Go.Proofs.YteknpejkooemjabDoor.Oct Go.Proofs.YteknpejkooemjabDoor.Gt
set_option maxRecDepth 100000 in
set_option maxHeartbeats 4000000 in
theorem xGroup_yes (a b c : P) (ha : Wd a) (hb : Wd b) (hc : Wd c) (hf : fitP a b = true) (hg : fitP b c = true) (hy : comB a b = true) (w : World) (hT : Tp w) : Calls Tryd.prog 3 #[pV a, pV b, pV c] w fun e w' => e = .returned (.bool true) ∧ Below w.heap.size w w' := by
  obtain ⟨hra, -, -⟩ := fit_iff.1 hf
  have c1 := fun W => pMul_ok a b ha hb hf W
  have c2 := fun W => pMul_ok b c hb hc hg W
  have c3 := fun W => pMul_ok (mulP a b) c (mulP_wd ha hb) hc (fit_ass hf hg).1 W
  have c4 := fun W => pMul_ok a (mulP b c) ha (mulP_wd hb hc) (fit_ass hf hg).2 W
  rw [← mul_ass a b c] at c4
  have c5 := fun W => pInverse a ha W
  rw [hra, show ck a = 0 by unfold ck; rw [hra]; rfl] at c5
  simp only [if_true] at c5
  have c6 := fun W => pMul_ok a (invP a) ha (inv_wd ha) (fit_inv hra) W
  rw [mul_inv] at c6
  have c7 := fun W => pMul_ok b a hb ha (fit_comm hf) W
  have c8 := fun W => pCommute a b ha hb W
  rw [hf, hy] at c8
  have c9 := fun W (h : Below w.heap.size w W) => pPrint_ok a ha hra W (hT.ts.below h)
  have c10 := fun W (h : Below w.heap.size w W) => pParse (prt a) W (hT.ts.below h)
  rw [par_prt hra] at c10
  have c11 := fun W (h : Below w.heap.size w W) => pHeads W (hT.below h)
  rw [← (mul_back hf).1 hy] at c7
  generalize mulP (mulP a b) c = R at *
  generalize mulP b c = Q at *
  generalize invP a = I at *
  generalize mulP a b = M at *
  clear ha hb hc hT hf hg hy hra
  obtain ⟨na, xa, za, ha⟩ := a
  obtain ⟨nb, xb, zb, hb⟩ := b
  obtain ⟨nc, xc, zc, hc⟩ := c
  obtain ⟨nr, xr, zr, hr⟩ := R
  obtain ⟨nq, xq, zq, hq⟩ := Q
  obtain ⟨ni, xi, zi, hi⟩ := I
  obtain ⟨nm, xm, zm, hm⟩ := M
  unfold str pV at *
  simp only [Bool.true_and, if_true, Int.natCast_zero] at *
  generalize (⟨(prt ⟨na, xa, za, ha⟩).toArray⟩ : ByteArray) = sp at *
  have e1 := fun W => eql_same nr (xr : Int) (zr : Int) hr W
  have e2 := fun W => eql_same na 0 0 0 W
  have e3 := fun W => eql_same nm (xm : Int) (zm : Int) hm W
  have e4 := fun W => eql_same na (xa : Int) (za : Int) ha W
  obtain ⟨HA, HA1, HA2⟩ := At4.three w (.int .i64 na) (.int .u64 (xa : Int)) (.int .u64 (za : Int)) (.int .i64 ha) (.int .i64 nb) (.int .u64 (xb : Int)) (.int .u64 (zb : Int)) (.int .i64 hb) (.int .i64 nc) (.int .u64 (xc : Int)) (.int .u64 (zc : Int)) (.int .i64 hc)
  have K0a := hide HA
  have K0b := hide HA1
  have K0c := hide HA2
  have HB0 := hide (bkp (bkp (bnew w (.cells #[.int .i64 na, .int .u64 (xa : Int), .int .u64 (za : Int), .int .i64 ha] 24)) (bnew _ (.cells #[.int .i64 nb, .int .u64 (xb : Int), .int .u64 (zb : Int), .int .i64 hb] 24))) (bnew _ (.cells #[.int .i64 nc, .int .u64 (xc : Int), .int .u64 (zc : Int), .int .i64 hc] 24)))
  clear HA HA1 HA2
  go_enter Tryd.func3, Tryd.ntmps3
  obtain ⟨ca0, ca1, ca2, ca3, ca4⟩ := K0a.out.cells
  obtain ⟨cb0, cb1, cb2, cb3, cb4⟩ := K0b.out.cells
  go_wp2_with fail
  refine (c1 _).mono ?_
  rintro e w1 ⟨rfl, hb1⟩
  have hn1 := bnew w1 (.cells #[.int .i64 nm, .int .u64 (xm : Int), .int .u64 (zm : Int), .int .i64 hm] 24)
  have HB1 := hide (bkp (bkp HB0.out hb1) hn1)
  have K1a := hide ((K0a.out.below hb1).below hn1)
  have K1b := hide ((K0b.out.below hb1).below hn1)
  have K1c := hide ((K0c.out.below hb1).below hn1)
  have K1p := hide (At4.new w1 (.int .i64 nm) (.int .u64 (xm : Int)) (.int .u64 (zm : Int)) (.int .i64 hm))
  clear hb1 HB0 K0a K0b K0c ca0 ca1 ca2 ca3 ca4 cb0 cb1 cb2 cb3 cb4 hn1
  obtain ⟨cb0, cb1, cb2, cb3, cb4⟩ := K1b.out.cells
  obtain ⟨cc0, cc1, cc2, cc3, cc4⟩ := K1c.out.cells
  go_wp2_with fail
  generalize w1.heap.size = gp at *
  refine (c2 _).mono ?_
  rintro e w2 ⟨rfl, hb2⟩
  have hn2 := bnew w2 (.cells #[.int .i64 nq, .int .u64 (xq : Int), .int .u64 (zq : Int), .int .i64 hq] 24)
  have HB2 := hide (bkp (bkp HB1.out hb2) hn2)
  have K2a := hide ((K1a.out.below hb2).below hn2)
  have K2b := hide ((K1b.out.below hb2).below hn2)
  have K2c := hide ((K1c.out.below hb2).below hn2)
  have K2p := hide ((K1p.out.below hb2).below hn2)
  have K2q := hide (At4.new w2 (.int .i64 nq) (.int .u64 (xq : Int)) (.int .u64 (zq : Int)) (.int .i64 hq))
  clear hb2 HB1 K1a K1b K1c K1p cb0 cb1 cb2 cb3 cb4 cc0 cc1 cc2 cc3 cc4 hn2
  obtain ⟨cp0, cp1, cp2, cp3, cp4⟩ := K2p.out.cells
  obtain ⟨cc0, cc1, cc2, cc3, cc4⟩ := K2c.out.cells
  go_wp2_with fail
  generalize w2.heap.size = gq at *
  refine (c3 _).mono ?_
  rintro e w3 ⟨rfl, hb3⟩
  have hn3 := bnew w3 (.cells #[.int .i64 nr, .int .u64 (xr : Int), .int .u64 (zr : Int), .int .i64 hr] 24)
  have HB3 := hide (bkp (bkp HB2.out hb3) hn3)
  have K3a := hide ((K2a.out.below hb3).below hn3)
  have K3b := hide ((K2b.out.below hb3).below hn3)
  have K3c := hide ((K2c.out.below hb3).below hn3)
  have K3p := hide ((K2p.out.below hb3).below hn3)
  have K3q := hide ((K2q.out.below hb3).below hn3)
  have K3r := hide (At4.new w3 (.int .i64 nr) (.int .u64 (xr : Int)) (.int .u64 (zr : Int)) (.int .i64 hr))
  clear hb3 HB2 K2a K2b K2c K2p K2q cp0 cp1 cp2 cp3 cp4 cc0 cc1 cc2 cc3 cc4 hn3
  obtain ⟨ca0, ca1, ca2, ca3, ca4⟩ := K3a.out.cells
  obtain ⟨cq0, cq1, cq2, cq3, cq4⟩ := K3q.out.cells
  go_wp2_with fail
  generalize w3.heap.size = gr at *
  refine (c4 _).mono ?_
  rintro e w4 ⟨rfl, hb4⟩
  have hn4 := bnew w4 (.cells #[.int .i64 nr, .int .u64 (xr : Int), .int .u64 (zr : Int), .int .i64 hr] 24)
  have HB4 := hide (bkp (bkp HB3.out hb4) hn4)
  have K4a := hide ((K3a.out.below hb4).below hn4)
  have K4b := hide ((K3b.out.below hb4).below hn4)
  have K4c := hide ((K3c.out.below hb4).below hn4)
  have K4p := hide ((K3p.out.below hb4).below hn4)
  have K4q := hide ((K3q.out.below hb4).below hn4)
  have K4r := hide ((K3r.out.below hb4).below hn4)
  have K4s := hide (At4.new w4 (.int .i64 nr) (.int .u64 (xr : Int)) (.int .u64 (zr : Int)) (.int .i64 hr))
  clear hb4 HB3 K3a K3b K3c K3p K3q K3r ca0 ca1 ca2 ca3 ca4 cq0 cq1 cq2 cq3 cq4 hn4
  obtain ⟨ca0, ca1, ca2, ca3, ca4⟩ := K4a.out.cells
  go_wp2_with fail
  generalize w4.heap.size = gs at *
  refine (c5 _).mono ?_
  rintro e w5 ⟨rfl, hb5⟩
  have hn5 := bnew w5 (.cells #[.int .i64 ni, .int .u64 (xi : Int), .int .u64 (zi : Int), .int .i64 hi] 24)
  have HB5 := hide (bkp (bkp HB4.out hb5) hn5)
  have K5a := hide ((K4a.out.below hb5).below hn5)
  have K5b := hide ((K4b.out.below hb5).below hn5)
  have K5p := hide ((K4p.out.below hb5).below hn5)
  have K5r := hide ((K4r.out.below hb5).below hn5)
  have K5s := hide ((K4s.out.below hb5).below hn5)
  have K5i := hide (At4.new w5 (.int .i64 ni) (.int .u64 (xi : Int)) (.int .u64 (zi : Int)) (.int .i64 hi))
  clear hb5 HB4 K4a K4b K4c K4p K4q K4r K4s ca0 ca1 ca2 ca3 ca4 hn5
  obtain ⟨ca0, ca1, ca2, ca3, ca4⟩ := K5a.out.cells
  obtain ⟨ci0, ci1, ci2, ci3, ci4⟩ := K5i.out.cells
  go_wp2_with fail
  generalize w5.heap.size = gi at *
  refine (c6 _).mono ?_
  rintro e w6 ⟨rfl, hb6⟩
  have hn6 := bnew w6 (.cells #[.int .i64 na, .int .u64 0, .int .u64 0, .int .i64 0] 24)
  have HB6 := hide (bkp (bkp HB5.out hb6) hn6)
  have K6a := hide ((K5a.out.below hb6).below hn6)
  have K6b := hide ((K5b.out.below hb6).below hn6)
  have K6p := hide ((K5p.out.below hb6).below hn6)
  have K6r := hide ((K5r.out.below hb6).below hn6)
  have K6s := hide ((K5s.out.below hb6).below hn6)
  have K6i := hide ((K5i.out.below hb6).below hn6)
  have K6o := hide (At4.new w6 (.int .i64 na) (.int .u64 0) (.int .u64 0) (.int .i64 0))
  clear hb6 HB5 K5a K5b K5p K5r K5s K5i ca0 ca1 ca2 ca3 ca4 ci0 ci1 ci2 ci3 ci4 hn6
  obtain ⟨cb0, cb1, cb2, cb3, cb4⟩ := K6b.out.cells
  obtain ⟨ca0, ca1, ca2, ca3, ca4⟩ := K6a.out.cells
  go_wp2_with fail
  generalize w6.heap.size = go at *
  refine (c7 _).mono ?_
  rintro e w7 ⟨rfl, hb7⟩
  have NEa : Hid (w7.heap.size ≠ w.heap.size) := hide (Nat.ne_of_gt (K6a.out.below hb7).cells.2.2.2.2)
  have NEb : Hid (w7.heap.size ≠ w.heap.size + 1) := hide (Nat.ne_of_gt (K6b.out.below hb7).cells.2.2.2.2)
  have NEp : Hid (w7.heap.size ≠ gp) := hide (Nat.ne_of_gt (K6p.out.below hb7).cells.2.2.2.2)
  have NEr : Hid (w7.heap.size ≠ gr) := hide (Nat.ne_of_gt (K6r.out.below hb7).cells.2.2.2.2)
  have NEs : Hid (w7.heap.size ≠ gs) := hide (Nat.ne_of_gt (K6s.out.below hb7).cells.2.2.2.2)
  have NEo : Hid (w7.heap.size ≠ go) := hide (Nat.ne_of_gt (K6o.out.below hb7).cells.2.2.2.2)
  have HLk : Hid (w.heap.size ≤ w7.heap.size) := hide (bkp HB6.out hb7).size
  have hn7 := bnew w7 (.cells #[.int .i64 nm, .int .u64 (xm : Int), .int .u64 (zm : Int), .int .i64 hm] 24)
  have HB7 := hide (bkp (bkp HB6.out hb7) hn7)
  have K7a := hide ((K6a.out.below hb7).below hn7)
  have K7b := hide ((K6b.out.below hb7).below hn7)
  have K7p := hide ((K6p.out.below hb7).below hn7)
  have K7r := hide ((K6r.out.below hb7).below hn7)
  have K7s := hide ((K6s.out.below hb7).below hn7)
  have K7o := hide ((K6o.out.below hb7).below hn7)
  have K7k := hide (At4.new w7 (.int .i64 nm) (.int .u64 (xm : Int)) (.int .u64 (zm : Int)) (.int .i64 hm))
  clear hb7 HB6 K6a K6b K6p K6r K6s K6i K6o cb0 cb1 cb2 cb3 cb4 ca0 ca1 ca2 ca3 ca4 hn7
  obtain ⟨ca0, ca1, ca2, ca3, ca4⟩ := K7a.out.cells
  obtain ⟨cb0, cb1, cb2, cb3, cb4⟩ := K7b.out.cells
  go_wp2_with fail
  generalize w7.heap.size = gk at *
  refine (c8 _).mono ?_
  rintro e w8 ⟨rfl, hb8⟩
  have HB8 := hide (bkp HB7.out hb8)
  have K8a := hide ((K7a.out.below hb8))
  have K8p := hide ((K7p.out.below hb8))
  have K8r := hide ((K7r.out.below hb8))
  have K8s := hide ((K7s.out.below hb8))
  have K8o := hide ((K7o.out.below hb8))
  have K8k := hide ((K7k.out.below hb8))
  clear hb8 HB7 K7a K7b K7p K7r K7s K7o K7k ca0 ca1 ca2 ca3 ca4 cb0 cb1 cb2 cb3 cb4
  obtain ⟨ca0, ca1, ca2, ca3, ca4⟩ := K8a.out.cells
  go_wp2_with fail
  refine (c9 _ HB8.out).mono ?_
  rintro e w9 ⟨rfl, hb9⟩
  have HB9 := hide (bkp HB8.out hb9)
  have K9a := hide ((K8a.out.below hb9))
  have K9p := hide ((K8p.out.below hb9))
  have K9r := hide ((K8r.out.below hb9))
  have K9s := hide ((K8s.out.below hb9))
  have K9o := hide ((K8o.out.below hb9))
  have K9k := hide ((K8k.out.below hb9))
  clear hb9 HB8 K8a K8p K8r K8s K8o K8k ca0 ca1 ca2 ca3 ca4
  go_wp2_with fail
  refine (c10 _ HB9.out).mono ?_
  rintro e w10 ⟨rfl, hb10⟩
  have NEg : Hid (gk ≠ w10.heap.size) := hide (Nat.ne_of_lt (K9k.out.below hb10).cells.2.2.2.2)
  have hn10 := bnew w10 (.cells #[.int .i64 na, .int .u64 (xa : Int), .int .u64 (za : Int), .int .i64 ha] 24)
  have HB10 := hide (bkp (bkp HB9.out hb10) hn10)
  have K10a := hide ((K9a.out.below hb10).below hn10)
  have K10p := hide ((K9p.out.below hb10).below hn10)
  have K10r := hide ((K9r.out.below hb10).below hn10)
  have K10s := hide ((K9s.out.below hb10).below hn10)
  have K10o := hide ((K9o.out.below hb10).below hn10)
  have K10k := hide ((K9k.out.below hb10).below hn10)
  have K10g := hide (At4.new w10 (.int .i64 na) (.int .u64 (xa : Int)) (.int .u64 (za : Int)) (.int .i64 ha))
  clear hb10 HB9 K9a K9p K9r K9s K9o K9k  hn10
  obtain ⟨cr0, cr1, cr2, cr3, cr4⟩ := K10r.out.cells
  obtain ⟨cs0, cs1, cs2, cs3, cs4⟩ := K10s.out.cells
  obtain ⟨co0, co1, co2, co3, co4⟩ := K10o.out.cells
  obtain ⟨ca0, ca1, ca2, ca3, ca4⟩ := K10a.out.cells
  obtain ⟨cp0, cp1, cp2, cp3, cp4⟩ := K10p.out.cells
  obtain ⟨ck0, ck1, ck2, ck3, ck4⟩ := K10k.out.cells
  obtain ⟨cg0, cg1, cg2, cg3, cg4⟩ := K10g.out.cells
  go_wp2_with fail
  generalize w10.heap.size = gg at *
  refine (c11 _ HB10.out).mono ?_
  rintro e w11 ⟨rfl, hb11⟩
  have HB11 := hide (bkp HB10.out hb11)
  have K11a := hide ((K10a.out.below hb11))
  have K11p := hide ((K10p.out.below hb11))
  have K11r := hide ((K10r.out.below hb11))
  have K11s := hide ((K10s.out.below hb11))
  have K11o := hide ((K10o.out.below hb11))
  have K11k := hide ((K10k.out.below hb11))
  have K11g := hide ((K10g.out.below hb11))
  clear hb11 HB10 K10a K10p K10r K10s K10o K10k K10g cr0 cr1 cr2 cr3 cr4 cs0 cs1 cs2 cs3 cs4 co0 co1 co2 co3 co4 ca0 ca1 ca2 ca3 ca4 cp0 cp1 cp2 cp3 cp4 ck0 ck1 ck2 ck3 ck4 cg0 cg1 cg2 cg3 cg4
  go_wp2_with fail
  go_ret
  exact ⟨rfl, HB11.out⟩
end Go.Proofs.YteknpejkooemjabDoor.Pau
