/- The law PauliCarries, as it is walked (gen_cf13.py). -/
import Derived.Test.YteknpejkooemjabDoorCe13
import Derived.Test.YteknpejkooemjabDoorV13
namespace Go.Proofs.YteknpejkooemjabDoor.Pau
open Go.RowKit Go.Shelf Go.Proofs.YteknpejkooemjabDoor.Oct Go.Proofs.YteknpejkooemjabDoor.Gt

set_option maxRecDepth 100000 in
set_option maxHeartbeats 4000000 in
theorem xCarries_r1 (a b : P) (ha : Wd a) (hb : Wd b) (k : Int) (l : List Int) (hl : l.length ≤ 17592186044415) (hf : thrOk k l a = false) (ao : Option Addr) (c : Nat) (hc : l.length ≤ c) (w : World) (hT : Tp w) (hN : Ns w ao l) : Calls Tryd.prog 4 #[pV a, pV b, .int .i64 k, .slice ao l.length c] w fun e w' => e = .returned (.bool true) ∧ Below w.heap.size w w' := by
  have c1 := fun W (h : Below w.heap.size w W) => pThrough a ha k l (by omega) ao c hc W (hT.tb.below h) (hT.ts.below h) (hT.ti.below h) (hN.below h)
  have c2 := fun W (h : Below w.heap.size w W) => pThrough b hb k l (by omega) ao c hc W (hT.tb.below h) (hT.ts.below h) (hT.ti.below h) (hN.below h)
  have r4 := fun W (h : Below w.heap.size w W) => pHeads W (hT.below h)
  have t1 : (thrR k l a).2 = 130 := by unfold thrR; rw [if_neg (by rw [hf]; decide)]
  rw [t1] at c1
  clear t1
  generalize (thrR k l a).1 = X at *
  generalize (thrR k l b).1 = Y at *
  generalize (thrR k l b).2 = ey at *
  clear ha hb hT hN hf
  generalize l.length = m at *
  obtain ⟨na, xa, za, ha⟩ := a
  obtain ⟨nb, xb, zb, hb⟩ := b
  obtain ⟨nx, xx, zx, hx⟩ := X
  obtain ⟨ny, xy, zy, hy⟩ := Y
  unfold pV at *
  simp only at *
  obtain ⟨HA, HA1⟩ := At4.two w (.int .i64 na) (.int .u64 (xa : Int)) (.int .u64 (za : Int)) (.int .i64 ha) (.int .i64 nb) (.int .u64 (xb : Int)) (.int .u64 (zb : Int)) (.int .i64 hb)
  have K0a := hide HA
  have K0b := hide HA1
  have HB0 := hide (bkp (bnew w (.cells #[.int .i64 na, .int .u64 (xa : Int), .int .u64 (za : Int), .int .i64 ha] 24)) (bnew _ (.cells #[.int .i64 nb, .int .u64 (xb : Int), .int .u64 (zb : Int), .int .i64 hb] 24)))
  clear HA HA1
  go_enter Tryd.func4, Tryd.ntmps4
  obtain ⟨ca0, ca1, ca2, ca3, ca4⟩ := K0a.out.cells
  go_wp2_with fail
  refine (c1 _ HB0.out).mono ?_
  rintro e w1 ⟨rfl, hb1⟩
  have hn1 := bnew w1 (.cells #[.int .i64 nx, .int .u64 (xx : Int), .int .u64 (zx : Int), .int .i64 hx] 24)
  have HB1 := hide (bkp (bkp HB0.out hb1) hn1)
  have K1a := hide ((K0a.out.below hb1).below hn1)
  have K1b := hide ((K0b.out.below hb1).below hn1)
  have K1x := hide (At4.new w1 (.int .i64 nx) (.int .u64 (xx : Int)) (.int .u64 (zx : Int)) (.int .i64 hx))
  clear hb1 HB0 K0a K0b ca0 ca1 ca2 ca3 ca4 hn1
  obtain ⟨cb0, cb1, cb2, cb3, cb4⟩ := K1b.out.cells
  go_wp2_with fail
  generalize w1.heap.size = gx at *
  refine (c2 _ HB1.out).mono ?_
  rintro e w2 ⟨rfl, hb2⟩
  have hn2 := bnew w2 (.cells #[.int .i64 ny, .int .u64 (xy : Int), .int .u64 (zy : Int), .int .i64 hy] 24)
  have HB2 := hide (bkp (bkp HB1.out hb2) hn2)
  have K2a := hide ((K1a.out.below hb2).below hn2)
  have K2b := hide ((K1b.out.below hb2).below hn2)
  have K2x := hide ((K1x.out.below hb2).below hn2)
  have K2y := hide (At4.new w2 (.int .i64 ny) (.int .u64 (xy : Int)) (.int .u64 (zy : Int)) (.int .i64 hy))
  clear hb2 HB1 K1a K1b K1x cb0 cb1 cb2 cb3 cb4 hn2
  go_wp2_with fail
  generalize w2.heap.size = gy at *
  refine (r4 _ HB2.out).mono ?_
  rintro e w3 ⟨rfl, hb3⟩
  have HB3 := hide (bkp HB2.out hb3)
  have K3a := hide ((K2a.out.below hb3))
  have K3b := hide ((K2b.out.below hb3))
  have K3x := hide ((K2x.out.below hb3))
  have K3y := hide ((K2y.out.below hb3))
  clear hb3 HB2 K2a K2b K2x K2y 
  go_wp2_with fail
  go_ret
  exact ⟨rfl, HB3.out⟩
set_option maxRecDepth 100000 in
set_option maxHeartbeats 4000000 in
theorem xCarries_r2 (a b : P) (ha : Wd a) (hb : Wd b) (k : Int) (l : List Int) (hl : l.length ≤ 17592186044415) (hf : thrOk k l a = true) (hg : thrOk k l b = false) (ao : Option Addr) (c : Nat) (hc : l.length ≤ c) (w : World) (hT : Tp w) (hN : Ns w ao l) : Calls Tryd.prog 4 #[pV a, pV b, .int .i64 k, .slice ao l.length c] w fun e w' => e = .returned (.bool true) ∧ Below w.heap.size w w' := by
  have c1 := fun W (h : Below w.heap.size w W) => pThrough a ha k l (by omega) ao c hc W (hT.tb.below h) (hT.ts.below h) (hT.ti.below h) (hN.below h)
  have c2 := fun W (h : Below w.heap.size w W) => pThrough b hb k l (by omega) ao c hc W (hT.tb.below h) (hT.ts.below h) (hT.ti.below h) (hN.below h)
  have r4 := fun W (h : Below w.heap.size w W) => pHeads W (hT.below h)
  have t1 : (thrR k l a).2 = 0 := by unfold thrR; rw [if_pos hf]
  have t2 : (thrR k l b).2 = 130 := by unfold thrR; rw [if_neg (by rw [hg]; decide)]
  rw [t1] at c1
  rw [t2] at c2
  clear t1 t2
  generalize (thrR k l a).1 = X at *
  generalize (thrR k l b).1 = Y at *
  clear ha hb hT hN hf hg
  generalize l.length = m at *
  obtain ⟨na, xa, za, ha⟩ := a
  obtain ⟨nb, xb, zb, hb⟩ := b
  obtain ⟨nx, xx, zx, hx⟩ := X
  obtain ⟨ny, xy, zy, hy⟩ := Y
  unfold pV at *
  simp only at *
  obtain ⟨HA, HA1⟩ := At4.two w (.int .i64 na) (.int .u64 (xa : Int)) (.int .u64 (za : Int)) (.int .i64 ha) (.int .i64 nb) (.int .u64 (xb : Int)) (.int .u64 (zb : Int)) (.int .i64 hb)
  have K0a := hide HA
  have K0b := hide HA1
  have HB0 := hide (bkp (bnew w (.cells #[.int .i64 na, .int .u64 (xa : Int), .int .u64 (za : Int), .int .i64 ha] 24)) (bnew _ (.cells #[.int .i64 nb, .int .u64 (xb : Int), .int .u64 (zb : Int), .int .i64 hb] 24)))
  clear HA HA1
  go_enter Tryd.func4, Tryd.ntmps4
  obtain ⟨ca0, ca1, ca2, ca3, ca4⟩ := K0a.out.cells
  go_wp2_with fail
  refine (c1 _ HB0.out).mono ?_
  rintro e w1 ⟨rfl, hb1⟩
  have hn1 := bnew w1 (.cells #[.int .i64 nx, .int .u64 (xx : Int), .int .u64 (zx : Int), .int .i64 hx] 24)
  have HB1 := hide (bkp (bkp HB0.out hb1) hn1)
  have K1a := hide ((K0a.out.below hb1).below hn1)
  have K1b := hide ((K0b.out.below hb1).below hn1)
  have K1x := hide (At4.new w1 (.int .i64 nx) (.int .u64 (xx : Int)) (.int .u64 (zx : Int)) (.int .i64 hx))
  clear hb1 HB0 K0a K0b ca0 ca1 ca2 ca3 ca4 hn1
  obtain ⟨cb0, cb1, cb2, cb3, cb4⟩ := K1b.out.cells
  go_wp2_with fail
  generalize w1.heap.size = gx at *
  refine (c2 _ HB1.out).mono ?_
  rintro e w2 ⟨rfl, hb2⟩
  have hn2 := bnew w2 (.cells #[.int .i64 ny, .int .u64 (xy : Int), .int .u64 (zy : Int), .int .i64 hy] 24)
  have HB2 := hide (bkp (bkp HB1.out hb2) hn2)
  have K2a := hide ((K1a.out.below hb2).below hn2)
  have K2b := hide ((K1b.out.below hb2).below hn2)
  have K2x := hide ((K1x.out.below hb2).below hn2)
  have K2y := hide (At4.new w2 (.int .i64 ny) (.int .u64 (xy : Int)) (.int .u64 (zy : Int)) (.int .i64 hy))
  clear hb2 HB1 K1a K1b K1x cb0 cb1 cb2 cb3 cb4 hn2
  go_wp2_with fail
  generalize w2.heap.size = gy at *
  refine (r4 _ HB2.out).mono ?_
  rintro e w3 ⟨rfl, hb3⟩
  have HB3 := hide (bkp HB2.out hb3)
  have K3a := hide ((K2a.out.below hb3))
  have K3b := hide ((K2b.out.below hb3))
  have K3x := hide ((K2x.out.below hb3))
  have K3y := hide ((K2y.out.below hb3))
  clear hb3 HB2 K2a K2b K2x K2y 
  go_wp2_with fail
  go_ret
  exact ⟨rfl, HB3.out⟩
set_option maxRecDepth 100000 in
set_option maxHeartbeats 4000000 in
theorem xCarries_r3 (a b : P) (ha : Wd a) (hb : Wd b) (k : Int) (l : List Int) (hl : l.length ≤ 17592186044415) (hf : thrOk k l a = true) (hg : thrOk k l b = true) (hn : a.n ≠ b.n) (ao : Option Addr) (c : Nat) (hc : l.length ≤ c) (w : World) (hT : Tp w) (hN : Ns w ao l) : Calls Tryd.prog 4 #[pV a, pV b, .int .i64 k, .slice ao l.length c] w fun e w' => e = .returned (.bool true) ∧ Below w.heap.size w w' := by
  have c1 := fun W (h : Below w.heap.size w W) => pThrough a ha k l (by omega) ao c hc W (hT.tb.below h) (hT.ts.below h) (hT.ti.below h) (hN.below h)
  have c2 := fun W (h : Below w.heap.size w W) => pThrough b hb k l (by omega) ao c hc W (hT.tb.below h) (hT.ts.below h) (hT.ti.below h) (hN.below h)
  have r4 := fun W (h : Below w.heap.size w W) => pHeads W (hT.below h)
  have t1 : (thrR k l a).2 = 0 := by unfold thrR; rw [if_pos hf]
  have t2 : (thrR k l b).2 = 0 := by unfold thrR; rw [if_pos hg]
  rw [t1] at c1
  rw [t2] at c2
  have q1 : (a.n != b.n) = true := bne_iff_ne.2 hn
  clear t1 t2
  generalize (thrR k l a).1 = X at *
  generalize (thrR k l b).1 = Y at *
  clear ha hb hT hN hf hg hn
  generalize l.length = m at *
  obtain ⟨na, xa, za, ha⟩ := a
  obtain ⟨nb, xb, zb, hb⟩ := b
  obtain ⟨nx, xx, zx, hx⟩ := X
  obtain ⟨ny, xy, zy, hy⟩ := Y
  unfold pV at *
  simp only at *
  obtain ⟨HA, HA1⟩ := At4.two w (.int .i64 na) (.int .u64 (xa : Int)) (.int .u64 (za : Int)) (.int .i64 ha) (.int .i64 nb) (.int .u64 (xb : Int)) (.int .u64 (zb : Int)) (.int .i64 hb)
  have K0a := hide HA
  have K0b := hide HA1
  have HB0 := hide (bkp (bnew w (.cells #[.int .i64 na, .int .u64 (xa : Int), .int .u64 (za : Int), .int .i64 ha] 24)) (bnew _ (.cells #[.int .i64 nb, .int .u64 (xb : Int), .int .u64 (zb : Int), .int .i64 hb] 24)))
  clear HA HA1
  go_enter Tryd.func4, Tryd.ntmps4
  obtain ⟨ca0, ca1, ca2, ca3, ca4⟩ := K0a.out.cells
  go_wp2_with fail
  refine (c1 _ HB0.out).mono ?_
  rintro e w1 ⟨rfl, hb1⟩
  have hn1 := bnew w1 (.cells #[.int .i64 nx, .int .u64 (xx : Int), .int .u64 (zx : Int), .int .i64 hx] 24)
  have HB1 := hide (bkp (bkp HB0.out hb1) hn1)
  have K1a := hide ((K0a.out.below hb1).below hn1)
  have K1b := hide ((K0b.out.below hb1).below hn1)
  have K1x := hide (At4.new w1 (.int .i64 nx) (.int .u64 (xx : Int)) (.int .u64 (zx : Int)) (.int .i64 hx))
  clear hb1 HB0 K0a K0b ca0 ca1 ca2 ca3 ca4 hn1
  obtain ⟨cb0, cb1, cb2, cb3, cb4⟩ := K1b.out.cells
  go_wp2_with fail
  generalize w1.heap.size = gx at *
  refine (c2 _ HB1.out).mono ?_
  rintro e w2 ⟨rfl, hb2⟩
  have hn2 := bnew w2 (.cells #[.int .i64 ny, .int .u64 (xy : Int), .int .u64 (zy : Int), .int .i64 hy] 24)
  have HB2 := hide (bkp (bkp HB1.out hb2) hn2)
  have K2a := hide ((K1a.out.below hb2).below hn2)
  have K2b := hide ((K1b.out.below hb2).below hn2)
  have K2x := hide ((K1x.out.below hb2).below hn2)
  have K2y := hide (At4.new w2 (.int .i64 ny) (.int .u64 (xy : Int)) (.int .u64 (zy : Int)) (.int .i64 hy))
  clear hb2 HB1 K1a K1b K1x cb0 cb1 cb2 cb3 cb4 hn2
  obtain ⟨ca0, ca1, ca2, ca3, ca4⟩ := K2a.out.cells
  obtain ⟨cb0, cb1, cb2, cb3, cb4⟩ := K2b.out.cells
  go_wp2_with fail
  generalize w2.heap.size = gy at *
  refine (r4 _ HB2.out).mono ?_
  rintro e w3 ⟨rfl, hb3⟩
  have HB3 := hide (bkp HB2.out hb3)
  have K3a := hide ((K2a.out.below hb3))
  have K3b := hide ((K2b.out.below hb3))
  have K3x := hide ((K2x.out.below hb3))
  have K3y := hide ((K2y.out.below hb3))
  clear hb3 HB2 K2a K2b K2x K2y ca0 ca1 ca2 ca3 ca4 cb0 cb1 cb2 cb3 cb4
  go_wp2_with fail
  go_ret
  exact ⟨rfl, HB3.out⟩
end Go.Proofs.YteknpejkooemjabDoor.Pau
