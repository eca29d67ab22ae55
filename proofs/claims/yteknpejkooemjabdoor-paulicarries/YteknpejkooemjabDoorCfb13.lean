/- The law PauliCarries, as it is walked (gen_cf13.py). -/
import Derived.Test.YteknpejkooemjabDoorCg13
import Derived.Test.YteknpejkooemjabDoorV13
import Derived.Test.YteknpejkooemjabDoorZh13
import Derived.Deep.RegionHeld3
namespace Go.Proofs.YteknpejkooemjabDoor.Pau
open Go.RowKit Go.Shelf Go.Proofs.YteknpejkooemjabDoor.Oct Go.Proofs.YteknpejkooemjabDoor.Gt

set_option maxRecDepth 100000 in
set_option maxHeartbeats 4000000 in
theorem xCarries_m (a b : P) (ha : Wd a) (hb : Wd b) (k : Int) (l : List Int) (hl : l.length ≤ 17592186044415) (hf : thrOk k l a = true) (hg : thrOk k l b = true) (hn : a.n = b.n) (ao : Option Addr) (c : Nat) (hc : l.length ≤ c) (w : World) (hT : Tp w) (hN : Ns w ao l) : Calls Tryd.prog 4 #[pV a, pV b, .int .i64 k, .slice ao l.length c] w fun e w' => e = .returned (.bool true) ∧ Below w.heap.size w w' := by
  obtain ⟨x, y, t1, t2, wx, wy, hab, hxy, t3, hcm, t4⟩ := carry hf hg hn
  have c1 := fun W (h : Below w.heap.size w W) => pThrough a ha k l (by omega) ao c hc W (hT.tb.below h) (hT.ts.below h) (hT.ti.below h) (hN.below h)
  have c2 := fun W (h : Below w.heap.size w W) => pThrough b hb k l (by omega) ao c hc W (hT.tb.below h) (hT.ts.below h) (hT.ti.below h) (hN.below h)
  have c4 := fun W (h : Below w.heap.size w W) => pThrough (mulP a b) (mulP_wd ha hb) k l (by omega) ao c hc W (hT.tb.below h) (hT.ts.below h) (hT.ti.below h) (hN.below h)
  have cB := fun W (h : Below w.heap.size w W) => pThrough x wx (rw' k).v l (by omega) ao c hc W (hT.tb.below h) (hT.ts.below h) (hT.ti.below h) (hN.below h)
  rw [t1] at c1
  rw [t2] at c2
  rw [t3] at c4
  rw [t4] at cB
  have c3 := fun W => pMul_ok a b ha hb hab W
  have c5 := fun W => pMul_ok x y wx wy hxy W
  have c6 := fun W => pCommute a b ha hb W
  have c7 := fun W => pCommute x y wx wy W
  rw [hab] at c6
  rw [hxy, hcm] at c7
  have cI := fun W (h : Below w.heap.size w W) => gInverse k W (hT.tb.below h)
  have c11 := fun W (h : Below w.heap.size w W) => pHeads W (hT.below h)
  generalize comB a b = cm at *
  generalize (rw' k).v = kv at *
  generalize mulP x y = Z at *
  generalize mulP a b = M at *
  clear ha hb hT hN hf hg t1 t2 t3 t4 hcm wx wy hab hxy
  generalize l.length = m at *
  obtain ⟨na, xa, za, ha⟩ := a
  obtain ⟨nb, xb, zb, hb⟩ := b
  obtain ⟨nx, xx, zx, hx⟩ := x
  obtain ⟨ny, xy, zy, hy⟩ := y
  obtain ⟨nz, xz, zz, hz⟩ := Z
  obtain ⟨nm, xm, zm, hm⟩ := M
  unfold pV at *
  simp only [Bool.true_and, if_true] at *
  subst hn
  have e1 := fun W => eql_same nz (xz : Int) (zz : Int) hz W
  have e4 := fun W => eql_same na (xa : Int) (za : Int) ha W
  have HcI := hide cI
  have HcB := hide cB
  clear cI cB
  obtain ⟨HA, HA1⟩ := At4.two w (.int .i64 na) (.int .u64 (xa : Int)) (.int .u64 (za : Int)) (.int .i64 ha) (.int .i64 na) (.int .u64 (xb : Int)) (.int .u64 (zb : Int)) (.int .i64 hb)
  have K0a := hide HA
  have K0b := hide HA1
  have HB0 := hide (bkp (bnew w (.cells #[.int .i64 na, .int .u64 (xa : Int), .int .u64 (za : Int), .int .i64 ha] 24)) (bnew _ (.cells #[.int .i64 na, .int .u64 (xb : Int), .int .u64 (zb : Int), .int .i64 hb] 24)))
  clear HA HA1
  go_enter Tryd.func4, Tryd.ntmps4
  obtain ⟨ca0, ca1, ca2, ca3, ca4⟩ := K0a.out.cells
  go_wp2_with fail
  refine (c1 _ HB0.out).mono ?_
  rintro e w1 ⟨rfl, hb1⟩
  have hn1 := bnew w1 (.cells #[.int .i64 nx, .int .u64 (xx : Int), .int .u64 (zx : Int), .int .i64 hx] 24)
  have HB1 := hide (bkp (bkp HB0.out hb1) hn1)
  have K1a := hide ((K0a.out.below hb1).below hn1)
  have K1b := hide ((K0b.out.below hb1).below hn1)
  have K1x := hide (At4.new w1 (.int .i64 nx) (.int .u64 (xx : Int)) (.int .u64 (zx : Int)) (.int .i64 hx))
  clear hb1 HB0 K0a K0b ca0 ca1 ca2 ca3 ca4 hn1
  obtain ⟨cb0, cb1, cb2, cb3, cb4⟩ := K1b.out.cells
  go_wp2_with fail
  generalize w1.heap.size = gx at *
  refine (c2 _ HB1.out).mono ?_
  rintro e w2 ⟨rfl, hb2⟩
  have hn2 := bnew w2 (.cells #[.int .i64 ny, .int .u64 (xy : Int), .int .u64 (zy : Int), .int .i64 hy] 24)
  have HB2 := hide (bkp (bkp HB1.out hb2) hn2)
  have K2a := hide ((K1a.out.below hb2).below hn2)
  have K2b := hide ((K1b.out.below hb2).below hn2)
  have K2x := hide ((K1x.out.below hb2).below hn2)
  have K2y := hide (At4.new w2 (.int .i64 ny) (.int .u64 (xy : Int)) (.int .u64 (zy : Int)) (.int .i64 hy))
  clear hb2 HB1 K1a K1b K1x cb0 cb1 cb2 cb3 cb4 hn2
  obtain ⟨ca0, ca1, ca2, ca3, ca4⟩ := K2a.out.cells
  obtain ⟨cb0, cb1, cb2, cb3, cb4⟩ := K2b.out.cells
  go_wp2_with fail
  generalize w2.heap.size = gy at *
  refine (c3 _).mono ?_
  rintro e w3 ⟨rfl, hb3⟩
  have hn3 := bnew w3 (.cells #[.int .i64 nm, .int .u64 (xm : Int), .int .u64 (zm : Int), .int .i64 hm] 24)
  have HB3 := hide (bkp (bkp HB2.out hb3) hn3)
  have K3a := hide ((K2a.out.below hb3).below hn3)
  have K3b := hide ((K2b.out.below hb3).below hn3)
  have K3x := hide ((K2x.out.below hb3).below hn3)
  have K3y := hide ((K2y.out.below hb3).below hn3)
  have K3m := hide (At4.new w3 (.int .i64 nm) (.int .u64 (xm : Int)) (.int .u64 (zm : Int)) (.int .i64 hm))
  clear hb3 HB2 K2a K2b K2x K2y ca0 ca1 ca2 ca3 ca4 cb0 cb1 cb2 cb3 cb4 hn3
  obtain ⟨cm0, cm1, cm2, cm3, cm4⟩ := K3m.out.cells
  go_wp2_with fail
  generalize w3.heap.size = gm at *
  refine (c4 _ HB3.out).mono ?_
  rintro e w4 ⟨rfl, hb4⟩
  have hn4 := bnew w4 (.cells #[.int .i64 nz, .int .u64 (xz : Int), .int .u64 (zz : Int), .int .i64 hz] 24)
  have HB4 := hide (bkp (bkp HB3.out hb4) hn4)
  have K4a := hide ((K3a.out.below hb4).below hn4)
  have K4b := hide ((K3b.out.below hb4).below hn4)
  have K4x := hide ((K3x.out.below hb4).below hn4)
  have K4y := hide ((K3y.out.below hb4).below hn4)
  have K4m := hide ((K3m.out.below hb4).below hn4)
  have K4z := hide (At4.new w4 (.int .i64 nz) (.int .u64 (xz : Int)) (.int .u64 (zz : Int)) (.int .i64 hz))
  clear hb4 HB3 K3a K3b K3x K3y K3m cm0 cm1 cm2 cm3 cm4 hn4
  obtain ⟨cx0, cx1, cx2, cx3, cx4⟩ := K4x.out.cells
  obtain ⟨cy0, cy1, cy2, cy3, cy4⟩ := K4y.out.cells
  go_wp2_with fail
  generalize w4.heap.size = gz at *
  refine (c5 _).mono ?_
  rintro e w5 ⟨rfl, hb5⟩
  have hn5 := bnew w5 (.cells #[.int .i64 nz, .int .u64 (xz : Int), .int .u64 (zz : Int), .int .i64 hz] 24)
  have HB5 := hide (bkp (bkp HB4.out hb5) hn5)
  have K5a := hide ((K4a.out.below hb5).below hn5)
  have K5b := hide ((K4b.out.below hb5).below hn5)
  have K5x := hide ((K4x.out.below hb5).below hn5)
  have K5y := hide ((K4y.out.below hb5).below hn5)
  have K5z := hide ((K4z.out.below hb5).below hn5)
  have K5q := hide (At4.new w5 (.int .i64 nz) (.int .u64 (xz : Int)) (.int .u64 (zz : Int)) (.int .i64 hz))
  clear hb5 HB4 K4a K4b K4x K4y K4m K4z cx0 cx1 cx2 cx3 cx4 cy0 cy1 cy2 cy3 cy4 hn5
  obtain ⟨ca0, ca1, ca2, ca3, ca4⟩ := K5a.out.cells
  obtain ⟨cb0, cb1, cb2, cb3, cb4⟩ := K5b.out.cells
  go_wp2_with fail
  generalize w5.heap.size = gq at *
  refine (c6 _).mono ?_
  rintro e w6 ⟨rfl, hb6⟩
  have HB6 := hide (bkp HB5.out hb6)
  have K6a := hide ((K5a.out.below hb6))
  have K6b := hide ((K5b.out.below hb6))
  have K6x := hide ((K5x.out.below hb6))
  have K6y := hide ((K5y.out.below hb6))
  have K6z := hide ((K5z.out.below hb6))
  have K6q := hide ((K5q.out.below hb6))
  clear hb6 HB5 K5a K5b K5x K5y K5z K5q ca0 ca1 ca2 ca3 ca4 cb0 cb1 cb2 cb3 cb4
  obtain ⟨cx0, cx1, cx2, cx3, cx4⟩ := K6x.out.cells
  obtain ⟨cy0, cy1, cy2, cy3, cy4⟩ := K6y.out.cells
  go_wp2_with fail
  refine (c7 _).mono ?_
  rintro e w7 ⟨rfl, hb7⟩
  have HB7 := hide (bkp HB6.out hb7)
  have K7a := hide ((K6a.out.below hb7))
  have K7x := hide ((K6x.out.below hb7))
  have K7z := hide ((K6z.out.below hb7))
  have K7q := hide ((K6q.out.below hb7))
  clear hb7 HB6 K6a K6b K6x K6y K6z K6q cx0 cx1 cx2 cx3 cx4 cy0 cy1 cy2 cy3 cy4
  clear c1 c2 c3 c4 c5 c6 c7
  go_wp2_with fail
  have HSV : Hid (∀ V, Below w7.heap.size w7 V → Below w7.heap.size w7 V ∧ V.cell? ⟨gx, 0, none⟩ = some (.int .i64 nx) ∧ V.cell? ⟨gx, 1, none⟩ = some (.int .u64 (xx : Int)) ∧ V.cell? ⟨gx, 2, none⟩ = some (.int .u64 (zx : Int)) ∧ V.cell? ⟨gx, 3, none⟩ = some (.int .i64 hx)) := hide (fun V hV => ⟨hV, (K7x.out.below hV).cells.1, (K7x.out.below hV).cells.2.1, (K7x.out.below hV).cells.2.2.1, (K7x.out.below hV).cells.2.2.2.1⟩)
  have HD0 : Hid (Below w7.heap.size w7 w7.drew) := hide (Below.refl _ _).drew
  have HD1 : Hid (∀ o, Below w7.heap.size w7 (w7.alloc o).drew) := hide (fun o => (bnew w7 o).drew)
  have HW := hide (fun V (hV : Below w7.heap.size w7 V) => bkp HB7.out hV)
  have hst := store_i
  go_region_held3 (fun V => Below w7.heap.size w7 V ∧ V.cell? ⟨gx, 0, none⟩ = some (.int .i64 nx) ∧ V.cell? ⟨gx, 1, none⟩ = some (.int .u64 (xx : Int)) ∧ V.cell? ⟨gx, 2, none⟩ = some (.int .u64 (zx : Int)) ∧ V.cell? ⟨gx, 3, none⟩ = some (.int .i64 hx))
    (first | exact HSV.out _ HD0.out | exact HSV.out _ (HD1.out _) | exact HSV.out _ (by assumption) | exact HSV.out _ (bkp hb9 (bnew _ _)) | exact HSV.out _ (bkp ‹Below w7.heap.size w7 _ ∧ _›.1 (bnew _ _)) | exact HSV.out _ ((((hb9.setCell (p := ⟨_, 0, none⟩) (Nat.le_refl _) _).setCell (p := ⟨_, 1, none⟩) (Nat.le_refl _) _).setCell (p := ⟨_, 2, none⟩) (Nat.le_refl _) _).setCell (p := ⟨_, 3, none⟩) (Nat.le_refl _) _) | exact HSV.out _ ((((hb9.setCell (p := ⟨_, 0, none⟩) hb8.size _).setCell (p := ⟨_, 1, none⟩) hb8.size _).setCell (p := ⟨_, 2, none⟩) hb8.size _).setCell (p := ⟨_, 3, none⟩) hb8.size _))
    (first
      | (go_at_call 13; (with_reducible refine Calls.mono (HcI.out _ (HW.out _ (‹Below w7.heap.size w7 _ ∧ _›.1))) ?_); rintro e w8 ⟨rfl, q8⟩; have hb8 := bkp (‹Below w7.heap.size w7 _ ∧ _›.1) q8; first | (have zz8 : At4 w8 w7.heap.size (.int .i64 0) (.int .u64 0) (.int .u64 0) (.int .i64 0) := (q8.block w7.heap.size (by simp)).trans (heap_alloc_new w7 _)) | skip)
      | (go_at_call 12; (with_reducible refine Calls.mono (HcB.out _ (HW.out _ (‹Below w7.heap.size w7 _ ∧ _›.1))) ?_); rintro e w9 ⟨rfl, q9⟩; have hb9 := bkp (‹Below w7.heap.size w7 _ ∧ _›.1) q9; first | (have zz9 := At4.below zz8 q9; obtain ⟨z0, z1, z2, z3, z4⟩ := zz9.cells; have zf := fun j => zz9.fz j) | (have zz9 : At4 w9 w8.heap.size (.int .i64 0) (.int .u64 0) (.int .u64 0) (.int .i64 0) := (q9.block w8.heap.size (by simp)).trans (heap_alloc_new w8 _); obtain ⟨z0, z1, z2, z3, z4⟩ := zz9.cells; have zf := fun j => zz9.fz j) | skip))
  · have HV := hide (bkp (HW.out _ hb9) (bnew w9 (.cells #[.int .i64 na, .int .u64 (xa : Int), .int .u64 (za : Int), .int .i64 ha] 24)))
    have Ls := hide (At4.new w9 (.int .i64 na) (.int .u64 (xa : Int)) (.int .u64 (za : Int)) (.int .i64 ha))
    have Lz := hide ((K7z.out.below hb9).below (bnew w9 (.cells #[.int .i64 na, .int .u64 (xa : Int), .int .u64 (za : Int), .int .i64 ha] 24)))
    have Lq := hide ((K7q.out.below hb9).below (bnew w9 (.cells #[.int .i64 na, .int .u64 (xa : Int), .int .u64 (za : Int), .int .i64 ha] 24)))
    have La := hide ((K7a.out.below hb9).below (bnew w9 (.cells #[.int .i64 na, .int .u64 (xa : Int), .int .u64 (za : Int), .int .i64 ha] 24)))
    generalize w9.alloc (.cells #[.int .i64 na, .int .u64 (xa : Int), .int .u64 (za : Int), .int .i64 ha] 24) = V at *
    obtain ⟨ds0, ds1, ds2, ds3, ds4⟩ := Ls.out.cells
    obtain ⟨dz0, dz1, dz2, dz3, dz4⟩ := Lz.out.cells
    obtain ⟨dq0, dq1, dq2, dq3, dq4⟩ := Lq.out.cells
    obtain ⟨da0, da1, da2, da3, da4⟩ := La.out.cells
    clear hb8 hb9 q8 q9 K7a K7x K7z K7q HSV HD0 HD1 HW HB7 HcI HcB Ls Lz Lq La hst
    go_wp2_with fail
    refine (c11 _ HV.out).mono ?_
    rintro e wy ⟨rfl, hby⟩
    have HBy := hide (bkp HV.out hby)
    clear hby HV c11
    go_wp2_with fail
    go_ret
    exact ⟨rfl, HBy.out⟩
  · have hle : w.heap.size ≤ w8.heap.size := (Nat.le_trans HB7.out.size hb8.size)
    have HV := hide (((((HW.out _ hb9).setCell (p := ⟨w8.heap.size, 0, none⟩) hle (.int .i64 na)).setCell (p := ⟨w8.heap.size, 1, none⟩) hle (.int .u64 (xa : Int))).setCell (p := ⟨w8.heap.size, 2, none⟩) hle (.int .u64 (za : Int))).setCell (p := ⟨w8.heap.size, 3, none⟩) hle (.int .i64 ha))
    have Ls := hide ((((zz9.set0 (.int .i64 na)).set1 (.int .u64 (xa : Int))).set2 (.int .u64 (za : Int))).set3 (.int .i64 ha))
    have nz9 : w8.heap.size ≠ gz := Nat.ne_of_gt (Nat.lt_of_lt_of_le K7z.out.cells.2.2.2.2 hb8.size)
    have Lz := hide (((((K7z.out.below hb9).off (j := 0) (v := (.int .i64 na)) nz9).off (j := 1) (v := (.int .u64 (xa : Int))) nz9).off (j := 2) (v := (.int .u64 (za : Int))) nz9).off (j := 3) (v := (.int .i64 ha)) nz9)
    have nq9 : w8.heap.size ≠ gq := Nat.ne_of_gt (Nat.lt_of_lt_of_le K7q.out.cells.2.2.2.2 hb8.size)
    have Lq := hide (((((K7q.out.below hb9).off (j := 0) (v := (.int .i64 na)) nq9).off (j := 1) (v := (.int .u64 (xa : Int))) nq9).off (j := 2) (v := (.int .u64 (za : Int))) nq9).off (j := 3) (v := (.int .i64 ha)) nq9)
    have na9 : w8.heap.size ≠ w.heap.size := Nat.ne_of_gt (Nat.lt_of_lt_of_le K7a.out.cells.2.2.2.2 hb8.size)
    have La := hide (((((K7a.out.below hb9).off (j := 0) (v := (.int .i64 na)) na9).off (j := 1) (v := (.int .u64 (xa : Int))) na9).off (j := 2) (v := (.int .u64 (za : Int))) na9).off (j := 3) (v := (.int .i64 ha)) na9)
    clear z0 z1 z2 z3 z4 zf zz9 hle nz9 nq9 na9
    generalize (((w9.setCell ⟨w8.heap.size, 0, none⟩ (.int .i64 na)).setCell ⟨w8.heap.size, 1, none⟩ (.int .u64 (xa : Int))).setCell ⟨w8.heap.size, 2, none⟩ (.int .u64 (za : Int))).setCell ⟨w8.heap.size, 3, none⟩ (.int .i64 ha) = V at *
    obtain ⟨ds0, ds1, ds2, ds3, ds4⟩ := Ls.out.cells
    obtain ⟨dz0, dz1, dz2, dz3, dz4⟩ := Lz.out.cells
    obtain ⟨dq0, dq1, dq2, dq3, dq4⟩ := Lq.out.cells
    obtain ⟨da0, da1, da2, da3, da4⟩ := La.out.cells
    clear hb8 hb9 q8 q9 K7a K7x K7z K7q HSV HD0 HD1 HW HB7 HcI HcB Ls Lz Lq La hst
    go_wp2_with fail
    refine (c11 _ HV.out).mono ?_
    rintro e wy ⟨rfl, hby⟩
    have HBy := hide (bkp HV.out hby)
    clear hby HV c11
    go_wp2_with fail
    go_ret
    exact ⟨rfl, HBy.out⟩
  · have hle : w.heap.size ≤ w7.heap.size := HB7.out.size
    have HV := hide (((((HW.out _ hb9).setCell (p := ⟨w7.heap.size, 0, none⟩) hle (.int .i64 na)).setCell (p := ⟨w7.heap.size, 1, none⟩) hle (.int .u64 (xa : Int))).setCell (p := ⟨w7.heap.size, 2, none⟩) hle (.int .u64 (za : Int))).setCell (p := ⟨w7.heap.size, 3, none⟩) hle (.int .i64 ha))
    have Ls := hide ((((zz9.set0 (.int .i64 na)).set1 (.int .u64 (xa : Int))).set2 (.int .u64 (za : Int))).set3 (.int .i64 ha))
    have nz9 : w7.heap.size ≠ gz := Nat.ne_of_gt (Nat.lt_of_lt_of_le K7z.out.cells.2.2.2.2 (Nat.le_refl _))
    have Lz := hide (((((K7z.out.below hb9).off (j := 0) (v := (.int .i64 na)) nz9).off (j := 1) (v := (.int .u64 (xa : Int))) nz9).off (j := 2) (v := (.int .u64 (za : Int))) nz9).off (j := 3) (v := (.int .i64 ha)) nz9)
    have nq9 : w7.heap.size ≠ gq := Nat.ne_of_gt (Nat.lt_of_lt_of_le K7q.out.cells.2.2.2.2 (Nat.le_refl _))
    have Lq := hide (((((K7q.out.below hb9).off (j := 0) (v := (.int .i64 na)) nq9).off (j := 1) (v := (.int .u64 (xa : Int))) nq9).off (j := 2) (v := (.int .u64 (za : Int))) nq9).off (j := 3) (v := (.int .i64 ha)) nq9)
    have na9 : w7.heap.size ≠ w.heap.size := Nat.ne_of_gt (Nat.lt_of_lt_of_le K7a.out.cells.2.2.2.2 (Nat.le_refl _))
    have La := hide (((((K7a.out.below hb9).off (j := 0) (v := (.int .i64 na)) na9).off (j := 1) (v := (.int .u64 (xa : Int))) na9).off (j := 2) (v := (.int .u64 (za : Int))) na9).off (j := 3) (v := (.int .i64 ha)) na9)
    clear z0 z1 z2 z3 z4 zf zz9 zz8 hle nz9 nq9 na9
    generalize (((w9.setCell ⟨w7.heap.size, 0, none⟩ (.int .i64 na)).setCell ⟨w7.heap.size, 1, none⟩ (.int .u64 (xa : Int))).setCell ⟨w7.heap.size, 2, none⟩ (.int .u64 (za : Int))).setCell ⟨w7.heap.size, 3, none⟩ (.int .i64 ha) = V at *
    obtain ⟨ds0, ds1, ds2, ds3, ds4⟩ := Ls.out.cells
    obtain ⟨dz0, dz1, dz2, dz3, dz4⟩ := Lz.out.cells
    obtain ⟨dq0, dq1, dq2, dq3, dq4⟩ := Lq.out.cells
    obtain ⟨da0, da1, da2, da3, da4⟩ := La.out.cells
    clear hb8 hb9 q8 q9 K7a K7x K7z K7q HSV HD0 HD1 HW HB7 HcI HcB Ls Lz Lq La hst
    go_wp2_with fail
    refine (c11 _ HV.out).mono ?_
    rintro e wy ⟨rfl, hby⟩
    have HBy := hide (bkp HV.out hby)
    clear hby HV c11
    go_wp2_with fail
    go_ret
    exact ⟨rfl, HBy.out⟩
end Go.Proofs.YteknpejkooemjabDoor.Pau
