/- The law PauliGroup, as it is walked (gen_gq13.py). -/
import Derived.Test.YteknpejkooemjabDoorGp13
namespace Go.Proofs.YteknpejkooemjabDoor.Pau
open Go.RowKit Go.Shelf Go.Proofs.YteknpejkooemjabDoor.Oct Go.Proofs.YteknpejkooemjabDoor.Gt
set_option maxRecDepth 100000 in
set_option maxHeartbeats 4000000 in
theorem xGroup_r3 (a b c : P) (ha : Wd a) (hb : Wd b) (hc : Wd c) (hf : fitP a b = false) (hra : rt a = true) (hrb : rt b = true) (hrc : rt c = false) (w : World) (hT : Tp w) : Calls Tryd.prog 3 #[pV a, pV b, pV c] w fun e w' => e = .returned (.bool true) ∧ Below w.heap.size w w' := by
  have c1 := fun W => pMul a b ha hb W
  have c2 := fun W => pMul b c hb hc W
  have r1 := fun W => dRight a ha W
  have r2 := fun W => dRight b hb W
  have r3 := fun W => dRight c hc W
  have r4 := fun W (h : Below w.heap.size w W) => pHeads W (hT.below h)
  rw [show mulR a b = (oP, 130) by unfold mulR; rw [hf]; rfl] at c1
  rw [hra] at r1
  rw [hrb] at r2
  rw [hrc] at r3
  generalize mulR b c = M2 at *
  unfold oP at c1
  clear ha hb hc hT hf hra hrb hrc
  obtain ⟨na, xa, za, ha⟩ := a
  obtain ⟨nb, xb, zb, hb⟩ := b
  obtain ⟨nc, xc, zc, hc⟩ := c
  obtain ⟨⟨nm, xm, zm, hm2⟩, em⟩ := M2
  unfold pV at *
  simp only [Int.natCast_zero] at *
  obtain ⟨HA, HA1, HA2⟩ := At4.three w (.int .i64 na) (.int .u64 (xa : Int)) (.int .u64 (za : Int)) (.int .i64 ha) (.int .i64 nb) (.int .u64 (xb : Int)) (.int .u64 (zb : Int)) (.int .i64 hb) (.int .i64 nc) (.int .u64 (xc : Int)) (.int .u64 (zc : Int)) (.int .i64 hc)
  have K0a := hide HA
  have K0b := hide HA1
  have K0c := hide HA2
  have HB0 := hide (bkp (bkp (bnew w (.cells #[.int .i64 na, .int .u64 (xa : Int), .int .u64 (za : Int), .int .i64 ha] 24)) (bnew _ (.cells #[.int .i64 nb, .int .u64 (xb : Int), .int .u64 (zb : Int), .int .i64 hb] 24))) (bnew _ (.cells #[.int .i64 nc, .int .u64 (xc : Int), .int .u64 (zc : Int), .int .i64 hc] 24)))
  clear HA HA1 HA2
  go_enter Tryd.func3, Tryd.ntmps3
  obtain ⟨ca0, ca1, ca2, ca3, ca4⟩ := K0a.out.cells
  obtain ⟨cb0, cb1, cb2, cb3, cb4⟩ := K0b.out.cells
  go_wp2_with fail
  refine (c1 _).mono ?_
  rintro e w1 ⟨rfl, hb1⟩
  have hn1 := bnew w1 (.cells #[.int .i64 0, .int .u64 0, .int .u64 0, .int .i64 0] 24)
  have HB1 := hide (bkp (bkp HB0.out hb1) hn1)
  have K1a := hide ((K0a.out.below hb1).below hn1)
  have K1b := hide ((K0b.out.below hb1).below hn1)
  have K1c := hide ((K0c.out.below hb1).below hn1)
  have K1p := hide (At4.new w1 (.int .i64 0) (.int .u64 0) (.int .u64 0) (.int .i64 0))
  clear hb1 HB0 K0a K0b K0c ca0 ca1 ca2 ca3 ca4 cb0 cb1 cb2 cb3 cb4 hn1
  obtain ⟨cb0, cb1, cb2, cb3, cb4⟩ := K1b.out.cells
  obtain ⟨cc0, cc1, cc2, cc3, cc4⟩ := K1c.out.cells
  go_wp2_with fail
  generalize w1.heap.size = gp at *
  refine (c2 _).mono ?_
  rintro e w2 ⟨rfl, hb2⟩
  have hn2 := bnew w2 (.cells #[.int .i64 nm, .int .u64 (xm : Int), .int .u64 (zm : Int), .int .i64 hm2] 24)
  have HB2 := hide (bkp (bkp HB1.out hb2) hn2)
  have K2a := hide ((K1a.out.below hb2).below hn2)
  have K2b := hide ((K1b.out.below hb2).below hn2)
  have K2c := hide ((K1c.out.below hb2).below hn2)
  have K2p := hide ((K1p.out.below hb2).below hn2)
  have K2q := hide (At4.new w2 (.int .i64 nm) (.int .u64 (xm : Int)) (.int .u64 (zm : Int)) (.int .i64 hm2))
  clear hb2 HB1 K1a K1b K1c K1p cb0 cb1 cb2 cb3 cb4 cc0 cc1 cc2 cc3 cc4 hn2
  obtain ⟨ca0, ca1, ca2, ca3, ca4⟩ := K2a.out.cells
  go_wp2_with fail
  generalize w2.heap.size = gq at *
  refine (r1 _).mono ?_
  rintro e w3 ⟨rfl, hb3⟩
  have HB3 := hide (bkp HB2.out hb3)
  have K3a := hide ((K2a.out.below hb3))
  have K3b := hide ((K2b.out.below hb3))
  have K3c := hide ((K2c.out.below hb3))
  have K3p := hide ((K2p.out.below hb3))
  have K3q := hide ((K2q.out.below hb3))
  clear hb3 HB2 K2a K2b K2c K2p K2q ca0 ca1 ca2 ca3 ca4
  obtain ⟨cb0, cb1, cb2, cb3, cb4⟩ := K3b.out.cells
  go_wp2_with fail
  refine (r2 _).mono ?_
  rintro e w4 ⟨rfl, hb4⟩
  have HB4 := hide (bkp HB3.out hb4)
  have K4a := hide ((K3a.out.below hb4))
  have K4b := hide ((K3b.out.below hb4))
  have K4c := hide ((K3c.out.below hb4))
  have K4p := hide ((K3p.out.below hb4))
  have K4q := hide ((K3q.out.below hb4))
  clear hb4 HB3 K3a K3b K3c K3p K3q cb0 cb1 cb2 cb3 cb4
  obtain ⟨cc0, cc1, cc2, cc3, cc4⟩ := K4c.out.cells
  go_wp2_with fail
  refine (r3 _).mono ?_
  rintro e w5 ⟨rfl, hb5⟩
  have HB5 := hide (bkp HB4.out hb5)
  have K5a := hide ((K4a.out.below hb5))
  have K5b := hide ((K4b.out.below hb5))
  have K5c := hide ((K4c.out.below hb5))
  have K5p := hide ((K4p.out.below hb5))
  have K5q := hide ((K4q.out.below hb5))
  clear hb5 HB4 K4a K4b K4c K4p K4q cc0 cc1 cc2 cc3 cc4
  go_wp2_with fail
  refine (r4 _ HB5.out).mono ?_
  rintro e w6 ⟨rfl, hb6⟩
  have HB6 := hide (bkp HB5.out hb6)
  have K6a := hide ((K5a.out.below hb6))
  have K6b := hide ((K5b.out.below hb6))
  have K6c := hide ((K5c.out.below hb6))
  have K6p := hide ((K5p.out.below hb6))
  have K6q := hide ((K5q.out.below hb6))
  clear hb6 HB5 K5a K5b K5c K5p K5q 
  go_wp2_with fail
  go_ret
  exact ⟨rfl, HB6.out⟩
end Go.Proofs.YteknpejkooemjabDoor.Pau
