import Derived.Test.YtllfplkefbhnfaaDoorK55e4c45f
import Derived.Test.YtllfplkefbhnfaaDoorK31e23f41
set_option maxRecDepth 100000
set_option maxHeartbeats 4000000
namespace Go.Proofs.YtllfplkefbhnfaaDoor.Tbl
open Go.RowKit Go.Shelf Go.Proofs.YtllfplkefbhnfaaDoor.Pau Go.Proofs.YtllfplkefbhnfaaDoor.Gt
def nwR (n : Int) : TT × Int := if 0 <= n /\ n <= 64 then (newT n.toNat, 0) else (zrT, 2)
theorem new_len (N : Nat) : (newT N).s.length = N /\ (newT N).d.length = N := by simp [newT]
theorem wl_new {N : Nat} (h : N <= 64) : Wl (newT N).s /\ Wl (newT N).d := by
  constructor
  . intro p hp
    obtain ⟨i, hi, rfl⟩ := List.mem_map.1 hp
    exact ⟨(by decide : (0 : Nat) < 18446744073709551616), pow_lt64 (by have := List.mem_range.1 hi; omega)⟩
  . intro p hp
    obtain ⟨i, hi, rfl⟩ := List.mem_map.1 hp
    exact ⟨pow_lt64 (by have := List.mem_range.1 hi; omega), (by decide : (0 : Nat) < 18446744073709551616)⟩
theorem tNewR (n : Int) (w : World) : Calls Tryd.prog 7 #[.int .i64 n] w fun e w' => ∃ a b ca cb, e = .returned (.tuple #[tV (nwR n).1 a b ca cb, .int .i64 (nwR n).2]) /\ Th w' (nwR n).1 a b ca cb /\ Below w.heap.size w w' := by
  unfold nwR
  by_cases h : 0 <= n /\ n <= 64
  . rw [if_pos h]
    obtain ⟨N, rfl⟩ : ∃ N : Nat, n = (N : Int) := ⟨n.toNat, by omega⟩
    refine (tNew_ok N (by omega) w).mono ?_
    rintro e w' ⟨g1, g2, rfl, hT, hb⟩
    rw [Int.toNat_natCast]
    obtain ⟨e1, e2⟩ := new_len N
    obtain ⟨w1, w2⟩ := wl_new (N := N) (by omega)
    refine ⟨_, _, N, N, ?_, hT.th w1 w2 e1 e2 (by omega), hb⟩
    unfold tV
    rw [e1, e2]
    rfl
  . rw [if_neg h]
    refine (tNew_no n (by omega) w).mono ?_
    rintro e w' ⟨rfl, hb⟩
    exact ⟨none, none, 0, 0, rfl, th_zero _, hb⟩
theorem dNewR (n : Int) (w : World) : Calls Tryd.prog 8 #[.int .i64 n] w fun e w' => ∃ a b ca cb, e = .returned (.tuple #[tV (nwR n).1 a b ca cb, .int .i64 (nwR n).2]) /\ Th w' (nwR n).1 a b ca cb /\ Below w.heap.size w w' := by
  unfold nwR
  by_cases h : 0 <= n /\ n <= 64
  . rw [if_pos h]
    obtain ⟨N, rfl⟩ : ∃ N : Nat, n = (N : Int) := ⟨n.toNat, by omega⟩
    exact dNew_ok N (by omega) w
  . rw [if_neg h]
    refine (dNew_no n (by omega) w).mono ?_
    rintro e w' ⟨rfl, hb⟩
    exact ⟨none, none, 0, 0, rfl, th_zero _, hb⟩
theorem xTableauChecks (t : TT) (a b : Option Addr) (ca cb : Nat) (n : Int) (w : World) (hT : Tg w) (h : Th w t a b ca cb) :
    Calls Tryd.prog 3 #[tV t a b ca cb, .int .i64 n] w fun e w' => e = .returned (.bool true) /\ Below w.heap.size w w' := by
  have HC1 := hide (fun W (hb : Below w.heap.size w W) => dRightT t a b ca cb W (h.below hb))
  have HC2 := hide (fun W => tNewR n W)
  have HC3 := hide (fun W => dNewR n W)
  have HC4 := hide (fun W (hb : Below w.heap.size w W) => tCheck t a b ca cb W (h.below hb))
  have HC5 := hide (fun W a b ca cb a2 b2 ca2 cb2 (h1 : Th W (nwR n).1 a b ca cb) (h2 : Th W (nwR n).1 a2 b2 ca2 cb2) => dAlike (nwR n).1 (nwR n).1 a b a2 b2 ca cb ca2 cb2 W h1 h2)
  have HC6 := hide (fun W (hb : Below w.heap.size w W) => tAlive W (hT.below hb))
  have hnum := tNum
  unfold chI at HC4
  simp only [decide_true] at HC5
  unfold tV at HC1 HC2 HC3 HC4 HC5 ⊢
  generalize nwR n = R at *
  obtain ⟨R, re⟩ := R
  simp only at HC2 HC3 HC5
  generalize chB t = r at *
  generalize t.s.length = ns at *
  generalize t.d.length = nd at *
  generalize t.n = tn at *
  have HB0 := hide (bnew w (.cells #[.int .i64 tn, .slice a ns ca, .slice b nd cb] 24))
  have HA0 := hide (At3.new w (.int .i64 tn) (.slice a ns ca) (.slice b nd cb))
  clear h hT
  go_enter Tryd.func3, Tryd.ntmps3
  go_wp2_with fail
  refine (HC1.out _ HB0.out).mono ?_
  rintro e w1 ⟨rfl, hb1⟩
  have HB1 := hide (bkp HB0.out hb1)
  have HA1 := hide (HA0.out.below hb1)
  clear hb1 HB0 HA0 HC1
  go_wp2_with fail
  refine (HC2.out _).mono ?_
  rintro e w2 ⟨a1, b1, ca1, cb1, rfl, th2, hb2⟩
  have hbn := bnew w2 (.cells #[.int .i64 R.n, .slice a1 R.s.length ca1, .slice b1 R.d.length cb1] 24)
  have HB2 := hide (bkp (bkp HB1.out hb2) hbn)
  have HA2 := hide ((HA1.out.below hb2).below hbn)
  have HU2 := hide (th2.below hbn)
  have H62 := hide (At3.new w2 (.int .i64 R.n) (.slice a1 R.s.length ca1) (.slice b1 R.d.length cb1))
  clear hb2 hbn th2 HB1 HA1 HC2
  go_wp2_with fail
  generalize w2.alloc (.cells #[.int .i64 R.n, .slice a1 R.s.length ca1, .slice b1 R.d.length cb1] 24) = W2 at *
  generalize w2.heap.size = g6 at *
  refine (HC3.out _).mono ?_
  rintro e w3 ⟨a2, b2, ca2, cb2, rfl, th3, hb3⟩
  have hbn := bnew w3 (.cells #[.int .i64 R.n, .slice a2 R.s.length ca2, .slice b2 R.d.length cb2] 24)
  have HB3 := hide (bkp (bkp HB2.out hb3) hbn)
  have HA3 := hide ((HA2.out.below hb3).below hbn)
  have HU3 := hide ((HU2.out.below hb3).below hbn)
  have H63 := hide ((H62.out.below hb3).below hbn)
  have HV3 := hide (th3.below hbn)
  have H83 := hide (At3.new w3 (.int .i64 R.n) (.slice a2 R.s.length ca2) (.slice b2 R.d.length cb2))
  clear hb3 hbn th3 HB2 HA2 HU2 H62 HC3
  obtain ⟨x0, x1, x2, x3⟩ := HA3.out.cells
  go_wp2_with fail
  clear x0 x1 x2 x3
  generalize w3.alloc (.cells #[.int .i64 R.n, .slice a2 R.s.length ca2, .slice b2 R.d.length cb2] 24) = W3 at *
  generalize w3.heap.size = g8 at *
  refine (HC4.out _ HB3.out).mono ?_
  rintro e w4 ⟨rfl, hb4⟩
  have HB4 := hide (bkp HB3.out hb4)
  have HA4 := hide (HA3.out.below hb4)
  have HU4 := hide (HU3.out.below hb4)
  have H64 := hide (H63.out.below hb4)
  have HV4 := hide (HV3.out.below hb4)
  have H84 := hide (H83.out.below hb4)
  clear hb4 HB3 HA3 HU3 H63 HV3 H83
  cases r with
  | true =>
    simp only [if_true]
    clear HC4
    obtain ⟨y0, y1, y2, y3⟩ := H64.out.cells
    obtain ⟨z0, z1, z2, z3⟩ := H84.out.cells
    go_wp2_with (first | (go_at_call 9; refine (hnum _ _).mono ?_; rintro e wn ⟨rfl, hw⟩; obtain rfl := hw.symm))
    refine (HC5.out _ _ _ _ _ _ _ _ _ HU4.out HV4.out).mono ?_
    rintro e w5 ⟨rfl, hb5⟩
    have HB5 := hide (bkp HB4.out hb5)
    clear hb5 y0 y1 y2 y3 z0 z1 z2 z3 HB4 HA4 HU4 H64 HV4 H84
    go_wp2_with fail
    refine (HC6.out _ HB5.out).mono ?_
    rintro e w6 ⟨rfl, hb6⟩
    have HB6 := hide (bkp HB5.out hb6)
    clear hb6 HB5
    go_wp2_with fail
    go_ret
    exact ⟨rfl, HB6.out⟩
  | false =>
    simp only [Bool.false_eq_true, if_false] at HC4 ⊢
    obtain ⟨x0, x1, x2, x3⟩ := HA4.out.cells
    go_wp2_with (first | (go_at_call 9; refine (hnum _ _).mono ?_; rintro e wn ⟨rfl, hw⟩; obtain rfl := hw.symm))
    refine (HC4.out _ HB4.out).mono ?_
    rintro e w7 ⟨rfl, hb7⟩
    have HB7 := hide (bkp HB4.out hb7)
    have HU7 := hide (HU4.out.below hb7)
    have HV7 := hide (HV4.out.below hb7)
    obtain ⟨y0, y1, y2, y3⟩ := (H64.out.below hb7).cells
    obtain ⟨z0, z1, z2, z3⟩ := (H84.out.below hb7).cells
    clear hb7 x0 x1 x2 x3 HC4 HB4 HA4 HU4 H64 HV4 H84
    go_wp2_with (first | (go_at_call 9; refine (hnum _ _).mono ?_; rintro e wn ⟨rfl, hw⟩; obtain rfl := hw.symm))
    refine (HC5.out _ _ _ _ _ _ _ _ _ HU7.out HV7.out).mono ?_
    rintro e w5 ⟨rfl, hb5⟩
    have HB5 := hide (bkp HB7.out hb5)
    clear hb5 y0 y1 y2 y3 z0 z1 z2 z3
    go_wp2_with fail
    refine (HC6.out _ HB5.out).mono ?_
    rintro e w6 ⟨rfl, hb6⟩
    have HB6 := hide (bkp HB5.out hb6)
    clear hb6 HB5
    go_wp2_with fail
    go_ret
    exact ⟨rfl, HB6.out⟩
end Go.Proofs.YtllfplkefbhnfaaDoor.Tbl
