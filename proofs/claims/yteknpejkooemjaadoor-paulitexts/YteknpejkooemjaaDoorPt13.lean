/- The law PauliTexts, as it is walked. -/
import Derived.Test.YteknpejkooemjaaDoorZ13
namespace Go.Proofs.YteknpejkooemjaaDoor.Pau
open Go.RowKit Go.Shelf Go.Proofs.YteknpejkooemjaaDoor.Oct Go.Proofs.YteknpejkooemjaaDoor.Gt

/-- What Print answers. -/
def prtR (p : P) : List UInt8 × Int := if rt p = true then (prt p, 0) else ([], 130)
theorem pPrint (p : P) (hp : Wd p) (w : World) (hT : Ts w) : Calls Tryd.prog 22 #[pV p] w fun e w' => e = .returned (.tuple #[.string ⟨(prtR p).1.toArray⟩, .int .i64 (prtR p).2]) ∧ Below w.heap.size w w' := by
  unfold prtR
  cases hr : rt p with
  | true => rw [if_pos rfl]; exact pPrint_ok p hp hr w hT
  | false => rw [if_neg (by decide)]; exact pPrint_no p hp hr w
theorem dPrint (p : P) (hp : Wd p) (w : World) : Calls Tryd.prog 23 #[pV p] w fun e w' => e = .returned (.tuple #[.string ⟨(prtR p).1.toArray⟩, .int .i64 (prtR p).2]) ∧ Below w.heap.size w w' := by
  unfold prtR
  cases hr : rt p with
  | true => rw [if_pos rfl]; exact dPrint_ok p hp hr w
  | false => rw [if_neg (by decide)]; exact dPrint_no p hp hr w
set_option maxRecDepth 100000 in
set_option maxHeartbeats 4000000 in
theorem xPauliTexts (p : P) (hp : Wd p) (l : List UInt8) (w : World) (hT : Tp w) : Calls Tryd.prog 5 #[pV p, str l] w fun e w' => e = .returned (.bool true) ∧ Below w.heap.size w w' := by
  have c1 := fun W (h : Below w.heap.size w W) => pPrint p hp W (hT.ts.below h)
  have c2 := fun W => dPrint p hp W
  have c3 := fun W (h : Below w.heap.size w W) => pParse l W (hT.ts.below h)
  have c4 := fun W => dParse l W
  have c5 := fun W (h : Below w.heap.size w W) => pHeads W (hT.below h)
  generalize prtR p = A at *
  generalize parR l = B at *
  obtain ⟨A1, A2⟩ := A
  obtain ⟨⟨n', x', z', ph'⟩, B2⟩ := B
  have heq := fun W => eql_same n' (x' : Int) (z' : Int) ph' W
  have hs : ((⟨A1.toArray⟩ : ByteArray).toList == (⟨A1.toArray⟩ : ByteArray).toList) = true := by simp
  obtain ⟨n, x, z, ph⟩ := p
  unfold str pV at *
  simp only at *
  generalize (⟨A1.toArray⟩ : ByteArray) = s1 at *
  generalize (⟨l.toArray⟩ : ByteArray) = s at *
  have HG := hide (At4.new w (.int .i64 n) (.int .u64 (x : Int)) (.int .u64 (z : Int)) (.int .i64 ph))
  have HB := hide (bnew w (.cells #[.int .i64 n, .int .u64 (x : Int), .int .u64 (z : Int), .int .i64 ph] 24))
  clear hp hT
  go_enter Tryd.func5, Tryd.ntmps5
  go_wp2_with fail
  refine (c1 _ HB.out).mono ?_
  rintro e w1 ⟨rfl, hb1⟩
  have HB1 := hide (bkp HB.out hb1)
  obtain ⟨x0, x1, x2, x3, x4⟩ := (HG.out.below hb1).cells
  clear hb1 HB HG c1
  go_wp2_with fail
  refine (c2 _).mono ?_
  rintro e w2 ⟨rfl, hb2⟩
  have HB2 := hide (bkp HB1.out hb2)
  clear hb2 HB1 c2 x0 x1 x2 x3 x4
  go_wp2_with fail
  refine (c3 _ HB2.out).mono ?_
  rintro e w3 ⟨rfl, hb3⟩
  have hn3 := bnew w3 (.cells #[.int .i64 n', .int .u64 (x' : Int), .int .u64 (z' : Int), .int .i64 ph'] 24)
  have HB3 := hide (bkp (bkp HB2.out hb3) hn3)
  have K1 := hide (At4.new w3 (.int .i64 n') (.int .u64 (x' : Int)) (.int .u64 (z' : Int)) (.int .i64 ph'))
  clear hb3 HB2 c3 hn3
  go_wp2_with fail
  refine (c4 _).mono ?_
  rintro e w4 ⟨rfl, hb4⟩
  have hn4 := bnew w4 (.cells #[.int .i64 n', .int .u64 (x' : Int), .int .u64 (z' : Int), .int .i64 ph'] 24)
  have HB4 := hide (bkp (bkp HB3.out hb4) hn4)
  have L1 := hide ((K1.out.below hb4).below hn4)
  have L2 := hide (At4.new w4 (.int .i64 n') (.int .u64 (x' : Int)) (.int .u64 (z' : Int)) (.int .i64 ph'))
  clear hb4 HB3 K1 c4 hn4
  obtain ⟨a0, a1, a2, a3, a4⟩ := L1.out.cells
  obtain ⟨b0, b1, b2, b3, b4⟩ := L2.out.cells
  go_wp2_with fail
  refine (c5 _ HB4.out).mono ?_
  rintro e w5 ⟨rfl, hb5⟩
  have HB5 := hide (bkp HB4.out hb5)
  clear hb5 HB4 c5 a0 a1 a2 a3 a4 b0 b1 b2 b3 b4
  go_wp2_with fail
  go_ret
  exact ⟨rfl, HB5.out⟩
end Go.Proofs.YteknpejkooemjaaDoor.Pau
