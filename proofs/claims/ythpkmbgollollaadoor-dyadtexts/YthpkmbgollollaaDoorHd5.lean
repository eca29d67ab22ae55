/- The document's Print. -/
import Derived.Test.YthpkmbgollollaaDoorHc
import Derived.Test.YthpkmbgollollaaDoorEa
namespace Go.Proofs.YthpkmbgollollaaDoor.Dy
open Go.RowKit Go.Shelf Go.Proofs.YthpkmbgollollaaDoor.Sca

theorem zDec (n : Nat) (h : n < 9223372036854775808) (w : World) : Calls Tryd.prog 46 #[.int .i64 (n : Int)] w fun e w' => e = .returned (.string ⟨(Lib.decDigits n).toArray⟩) ∧ ∃ q, w' = w.drewN q :=
  zDecimal 18 n (Nat.lt_of_lt_of_le h (by decide)) h w
set_option maxRecDepth 100000 in
set_option maxHeartbeats 1000000 in
theorem zPrint_no (d : DD) (h : ¬ Rt d) (w : World) : Calls Tryd.prog 26 #[dV d] w fun e w' => e = .returned (.tuple #[.string ⟨#[]⟩, .int .i64 2]) ∧ Below w.heap.size w w' := by
  have cC := fun w => zRight d w
  rw [decide_eq_false h] at cC
  clear h
  obtain ⟨re, im, ex⟩ := d
  unfold dV at *
  go_enter Tryd.func26, Tryd.ntmps26
  go_wp2_with fail
  refine (cC _).mono ?_
  rintro e w2 ⟨rfl, hb2⟩
  have hbw2 : Below w.heap.size w w2 := (below_new _ _).trans (hb2.mono (by simp))
  clear hb2 cC
  go_wp2_with fail
  go_ret2
  exact ⟨rfl, hbw2⟩
set_option maxRecDepth 100000 in
set_option maxHeartbeats 1000000 in
theorem zPrint_ok (d : DD) (h : Rt d) (w : World) : Calls Tryd.prog 26 #[dV d] w fun e w' => e = .returned (.tuple #[.string ⟨(prD d).toArray⟩, .int .i64 0]) ∧ Below w.heap.size w w' := by
  have cC := fun w => zRight d w
  rw [decide_eq_true h] at cC
  have hb := h.1
  have h2 := hb.2.2
  have c1 := fun w => zSize d.re (by omega) (by omega) w
  have c2 := fun w => zDec d.re.natAbs (by omega) w
  have c3 := fun w => zSize d.im (by omega) (by omega) w
  have c4 := fun w => zDec d.im.natAbs (by omega) w
  have hlt : 2 ^ d.ex.toNat < 9223372036854775808 := Nat.lt_of_le_of_lt (Nat.pow_le_pow_right (by decide) (show d.ex.toNat ≤ 60 by omega)) (by decide)
  have c5 := fun w => zDec (2 ^ d.ex.toNat) hlt w
  have l1 := dig_len d.re.natAbs (by omega)
  have l2 := dig_len d.im.natAbs (by omega)
  have l3 := dig_len (2 ^ d.ex.toNat) (by omega)
  clear h hb hlt
  obtain ⟨re, im, ex⟩ := d
  unfold dV at *
  dsimp only at *
  obtain ⟨n, rfl⟩ : ∃ n : Nat, ex = n := ⟨ex.toNat, by omega⟩
  rw [Int.toNat_natCast] at c5 l3
  have hw60 : IntKind.i64.wrap (2 ^ n) = ((2 ^ n : Nat) : Int) := by
    have h60 := two60 (show n ≤ 60 by omega)
    rw [wrapI]
    have e : ((2 ^ n : Nat) : Int) = 2 ^ n := by simp
    rw [e]
    omega
  have hwu : IntKind.u64.wrap (n : Int) = (n : Int) := by rw [wrapU]; omega
  unfold prD low
  dsimp only
  rw [Int.toNat_natCast]
  have lI : (Lib.itoa re).length ≤ 21 := by unfold Lib.itoa; split; rw [List.length_cons]; omega; rw [show re.toNat = re.natAbs by omega]; omega
  have h1n : re < 0 → ∀ w, (Op.stringOp .add ⟨#[45]⟩ ⟨(Lib.decDigits re.natAbs).toArray⟩).run Tryd.prog w = .ok (.string ⟨(Lib.itoa re).toArray⟩) w := fun hre w => by
    unfold Lib.itoa
    rw [if_pos hre]
    exact add_list [45] (Lib.decDigits re.natAbs) (by rw [List.length_singleton]; omega) w
  have h1p : ¬ re < 0 → Lib.decDigits re.natAbs = Lib.itoa re := fun hre => by
    unfold Lib.itoa
    rw [if_neg hre, show re.toNat = re.natAbs by omega]
  generalize Lib.itoa re = I at *
  generalize Lib.decDigits im.natAbs = D at *
  generalize Lib.decDigits (2 ^ n) = E at *
  obtain ⟨J, hJ⟩ : ∃ J, J = I ++ [sgn im] := ⟨_, rfl⟩
  have h2 := fun w => add_list I [sgn im] (by rw [List.length_singleton]; omega) w
  rw [← hJ] at h2
  have lJ : J.length ≤ 22 := by rw [hJ, List.length_append, List.length_singleton]; omega
  obtain ⟨K, hK⟩ : ∃ K, K = J ++ D := ⟨_, rfl⟩
  have h3 := fun w => add_list J D (by omega) w
  rw [← hK] at h3
  have lK : K.length ≤ 42 := by rw [hK, List.length_append]; omega
  obtain ⟨L, hL⟩ : ∃ L, L = K ++ [105] := ⟨_, rfl⟩
  have h4 := fun w => add_list K [105] (by rw [List.length_singleton]; omega) w
  rw [← hL] at h4
  have lL : L.length ≤ 43 := by rw [hL, List.length_append, List.length_singleton]; omega
  have h4' : ∀ w, (Op.stringOp .add ⟨K.toArray⟩ ⟨#[105]⟩).run Tryd.prog w = .ok (.string ⟨L.toArray⟩) w := h4
  obtain ⟨M, hM⟩ : ∃ M, M = L ++ [47] := ⟨_, rfl⟩
  have h5 := fun w => add_list L [47] (by rw [List.length_singleton]; omega) w
  rw [← hM] at h5
  have lM : M.length ≤ 44 := by rw [hM, List.length_append, List.length_singleton]; omega
  have h5' : ∀ w, (Op.stringOp .add ⟨L.toArray⟩ ⟨#[47]⟩).run Tryd.prog w = .ok (.string ⟨M.toArray⟩) w := h5
  obtain ⟨N, hN⟩ : ∃ N, N = M ++ E := ⟨_, rfl⟩
  have h6 := fun w => add_list M E (by omega) w
  rw [← hN] at h6
  have hres : I ++ sgn im :: (D ++ 105 :: (if 0 < (n : Int) then 47 :: E else [])) = if 0 < (n : Int) then N else L := by
    rw [hN, hM, hL, hK, hJ]
    split <;> simp
  rw [hres]
  clear hres hN hM hL hK h4 h5 lI lJ lK lL lM l1 l2 l3
  by_cases hn : 0 < (n : Int)
  · rw [if_pos hn]
    by_cases hre : re < 0
    · have h1 := h1n hre
      clear h1n h1p
      generalize Lib.decDigits re.natAbs = A at *
      by_cases him : im < 0
      · have hc : sgn im = 45 := by unfold sgn; rw [if_pos him]
        rw [hc] at hJ h2
        have h2' : ∀ w, (Op.stringOp .add ⟨I.toArray⟩ ⟨#[45]⟩).run Tryd.prog w = .ok (.string ⟨J.toArray⟩) w := h2
        clear h2 hJ hc
        go_enter Tryd.func26, Tryd.ntmps26
        go_wp2_with fail
        refine (cC _).mono ?_
        rintro e w2 ⟨rfl, hb2⟩
        have hbw2 : Below w.heap.size w w2 := (below_new _ _).trans (hb2.mono (by simp))
        have hA := (At.new w re im n).below hb2
        obtain ⟨g0, g1, g2⟩ := hA.cells
        clear hb2 cC
        go_wp2_with fail
        refine (c1 _).mono ?_
        rintro e w3 ⟨rfl, hw⟩
        obtain rfl := hw.symm
        go_wp2_with fail
        refine (c2 _).mono ?_
        rintro e w3 ⟨rfl, q1, hw⟩
        have hbw3 : Below w.heap.size w w3 := by rw [hw]; exact below_drewN hbw2 q1
        have hA3 : At w3 w.heap.size re im n := by rw [hw]; exact hA.drewN q1
        clear hw g0 g1 g2 hA hbw2
        obtain ⟨g0, g1, g2⟩ := hA3.cells
        go_wp2_with fail
        refine (c3 _).mono ?_
        rintro e w4 ⟨rfl, hw⟩
        obtain rfl := hw.symm
        go_wp2_with fail
        refine (c4 _).mono ?_
        rintro e w4 ⟨rfl, q2, hw⟩
        have hbw4 : Below w.heap.size w w4 := by rw [hw]; exact below_drewN hbw3 q2
        have hA4 : At w4 w.heap.size re im n := by rw [hw]; exact hA3.drewN q2
        clear hw g0 g1 g2 hA3 hbw3
        obtain ⟨g0, g1, g2⟩ := hA4.cells
        go_wp2_with fail
        refine (c5 _).mono ?_
        rintro e w5 ⟨rfl, q3, hw⟩
        have hbw5 : Below w.heap.size w w5 := by rw [hw]; exact below_drewN hbw4 q3
        clear hw g0 g1 g2 hA4 hbw4
        go_wp2_with fail
        go_ret2
        exact ⟨rfl, hbw5⟩
      · have hc : sgn im = 43 := by unfold sgn; rw [if_neg him]
        rw [hc] at hJ h2
        have h2' : ∀ w, (Op.stringOp .add ⟨I.toArray⟩ ⟨#[43]⟩).run Tryd.prog w = .ok (.string ⟨J.toArray⟩) w := h2
        clear h2 hJ hc
        have him' : decide (im < 0) = false := decide_eq_false him
        go_enter Tryd.func26, Tryd.ntmps26
        go_wp2_with fail
        refine (cC _).mono ?_
        rintro e w2 ⟨rfl, hb2⟩
        have hbw2 : Below w.heap.size w w2 := (below_new _ _).trans (hb2.mono (by simp))
        have hA := (At.new w re im n).below hb2
        obtain ⟨g0, g1, g2⟩ := hA.cells
        clear hb2 cC
        go_wp2_with fail
        refine (c1 _).mono ?_
        rintro e w3 ⟨rfl, hw⟩
        obtain rfl := hw.symm
        go_wp2_with fail
        refine (c2 _).mono ?_
        rintro e w3 ⟨rfl, q1, hw⟩
        have hbw3 : Below w.heap.size w w3 := by rw [hw]; exact below_drewN hbw2 q1
        have hA3 : At w3 w.heap.size re im n := by rw [hw]; exact hA.drewN q1
        clear hw g0 g1 g2 hA hbw2
        obtain ⟨g0, g1, g2⟩ := hA3.cells
        go_wp2_with fail
        refine (c3 _).mono ?_
        rintro e w4 ⟨rfl, hw⟩
        obtain rfl := hw.symm
        go_wp2_with fail
        refine (c4 _).mono ?_
        rintro e w4 ⟨rfl, q2, hw⟩
        have hbw4 : Below w.heap.size w w4 := by rw [hw]; exact below_drewN hbw3 q2
        have hA4 : At w4 w.heap.size re im n := by rw [hw]; exact hA3.drewN q2
        clear hw g0 g1 g2 hA3 hbw3
        obtain ⟨g0, g1, g2⟩ := hA4.cells
        go_wp2_with fail
        refine (c5 _).mono ?_
        rintro e w5 ⟨rfl, q3, hw⟩
        have hbw5 : Below w.heap.size w w5 := by rw [hw]; exact below_drewN hbw4 q3
        clear hw g0 g1 g2 hA4 hbw4
        go_wp2_with fail
        go_ret2
        exact ⟨rfl, hbw5⟩
    · rw [h1p hre] at c2
      have hre' : decide (re < 0) = false := decide_eq_false hre
      clear h1n h1p
      by_cases him : im < 0
      · have hc : sgn im = 45 := by unfold sgn; rw [if_pos him]
        rw [hc] at hJ h2
        have h2' : ∀ w, (Op.stringOp .add ⟨I.toArray⟩ ⟨#[45]⟩).run Tryd.prog w = .ok (.string ⟨J.toArray⟩) w := h2
        clear h2 hJ hc
        go_enter Tryd.func26, Tryd.ntmps26
        go_wp2_with fail
        refine (cC _).mono ?_
        rintro e w2 ⟨rfl, hb2⟩
        have hbw2 : Below w.heap.size w w2 := (below_new _ _).trans (hb2.mono (by simp))
        have hA := (At.new w re im n).below hb2
        obtain ⟨g0, g1, g2⟩ := hA.cells
        clear hb2 cC
        go_wp2_with fail
        refine (c1 _).mono ?_
        rintro e w3 ⟨rfl, hw⟩
        obtain rfl := hw.symm
        go_wp2_with fail
        refine (c2 _).mono ?_
        rintro e w3 ⟨rfl, q1, hw⟩
        have hbw3 : Below w.heap.size w w3 := by rw [hw]; exact below_drewN hbw2 q1
        have hA3 : At w3 w.heap.size re im n := by rw [hw]; exact hA.drewN q1
        clear hw g0 g1 g2 hA hbw2
        obtain ⟨g0, g1, g2⟩ := hA3.cells
        go_wp2_with fail
        refine (c3 _).mono ?_
        rintro e w4 ⟨rfl, hw⟩
        obtain rfl := hw.symm
        go_wp2_with fail
        refine (c4 _).mono ?_
        rintro e w4 ⟨rfl, q2, hw⟩
        have hbw4 : Below w.heap.size w w4 := by rw [hw]; exact below_drewN hbw3 q2
        have hA4 : At w4 w.heap.size re im n := by rw [hw]; exact hA3.drewN q2
        clear hw g0 g1 g2 hA3 hbw3
        obtain ⟨g0, g1, g2⟩ := hA4.cells
        go_wp2_with fail
        refine (c5 _).mono ?_
        rintro e w5 ⟨rfl, q3, hw⟩
        have hbw5 : Below w.heap.size w w5 := by rw [hw]; exact below_drewN hbw4 q3
        clear hw g0 g1 g2 hA4 hbw4
        go_wp2_with fail
        go_ret2
        exact ⟨rfl, hbw5⟩
      · have hc : sgn im = 43 := by unfold sgn; rw [if_neg him]
        rw [hc] at hJ h2
        have h2' : ∀ w, (Op.stringOp .add ⟨I.toArray⟩ ⟨#[43]⟩).run Tryd.prog w = .ok (.string ⟨J.toArray⟩) w := h2
        clear h2 hJ hc
        have him' : decide (im < 0) = false := decide_eq_false him
        go_enter Tryd.func26, Tryd.ntmps26
        go_wp2_with fail
        refine (cC _).mono ?_
        rintro e w2 ⟨rfl, hb2⟩
        have hbw2 : Below w.heap.size w w2 := (below_new _ _).trans (hb2.mono (by simp))
        have hA := (At.new w re im n).below hb2
        obtain ⟨g0, g1, g2⟩ := hA.cells
        clear hb2 cC
        go_wp2_with fail
        refine (c1 _).mono ?_
        rintro e w3 ⟨rfl, hw⟩
        obtain rfl := hw.symm
        go_wp2_with fail
        refine (c2 _).mono ?_
        rintro e w3 ⟨rfl, q1, hw⟩
        have hbw3 : Below w.heap.size w w3 := by rw [hw]; exact below_drewN hbw2 q1
        have hA3 : At w3 w.heap.size re im n := by rw [hw]; exact hA.drewN q1
        clear hw g0 g1 g2 hA hbw2
        obtain ⟨g0, g1, g2⟩ := hA3.cells
        go_wp2_with fail
        refine (c3 _).mono ?_
        rintro e w4 ⟨rfl, hw⟩
        obtain rfl := hw.symm
        go_wp2_with fail
        refine (c4 _).mono ?_
        rintro e w4 ⟨rfl, q2, hw⟩
        have hbw4 : Below w.heap.size w w4 := by rw [hw]; exact below_drewN hbw3 q2
        have hA4 : At w4 w.heap.size re im n := by rw [hw]; exact hA3.drewN q2
        clear hw g0 g1 g2 hA3 hbw3
        obtain ⟨g0, g1, g2⟩ := hA4.cells
        go_wp2_with fail
        refine (c5 _).mono ?_
        rintro e w5 ⟨rfl, q3, hw⟩
        have hbw5 : Below w.heap.size w w5 := by rw [hw]; exact below_drewN hbw4 q3
        clear hw g0 g1 g2 hA4 hbw4
        go_wp2_with fail
        go_ret2
        exact ⟨rfl, hbw5⟩
  · rw [if_neg hn]
    have hn' : decide (0 < (n : Int)) = false := decide_eq_false hn
    clear h5' h6 c5
    by_cases hre : re < 0
    · have h1 := h1n hre
      clear h1n h1p
      generalize Lib.decDigits re.natAbs = A at *
      by_cases him : im < 0
      · have hc : sgn im = 45 := by unfold sgn; rw [if_pos him]
        rw [hc] at hJ h2
        have h2' : ∀ w, (Op.stringOp .add ⟨I.toArray⟩ ⟨#[45]⟩).run Tryd.prog w = .ok (.string ⟨J.toArray⟩) w := h2
        clear h2 hJ hc
        go_enter Tryd.func26, Tryd.ntmps26
        go_wp2_with fail
        refine (cC _).mono ?_
        rintro e w2 ⟨rfl, hb2⟩
        have hbw2 : Below w.heap.size w w2 := (below_new _ _).trans (hb2.mono (by simp))
        have hA := (At.new w re im n).below hb2
        obtain ⟨g0, g1, g2⟩ := hA.cells
        clear hb2 cC
        go_wp2_with fail
        refine (c1 _).mono ?_
        rintro e w3 ⟨rfl, hw⟩
        obtain rfl := hw.symm
        go_wp2_with fail
        refine (c2 _).mono ?_
        rintro e w3 ⟨rfl, q1, hw⟩
        have hbw3 : Below w.heap.size w w3 := by rw [hw]; exact below_drewN hbw2 q1
        have hA3 : At w3 w.heap.size re im n := by rw [hw]; exact hA.drewN q1
        clear hw g0 g1 g2 hA hbw2
        obtain ⟨g0, g1, g2⟩ := hA3.cells
        go_wp2_with fail
        refine (c3 _).mono ?_
        rintro e w4 ⟨rfl, hw⟩
        obtain rfl := hw.symm
        go_wp2_with fail
        refine (c4 _).mono ?_
        rintro e w4 ⟨rfl, q2, hw⟩
        have hbw4 : Below w.heap.size w w4 := by rw [hw]; exact below_drewN hbw3 q2
        have hA4 : At w4 w.heap.size re im n := by rw [hw]; exact hA3.drewN q2
        clear hw g0 g1 g2 hA3 hbw3
        obtain ⟨g0, g1, g2⟩ := hA4.cells
        go_wp2_with fail
        go_ret2
        exact ⟨rfl, hbw4⟩
      · have hc : sgn im = 43 := by unfold sgn; rw [if_neg him]
        rw [hc] at hJ h2
        have h2' : ∀ w, (Op.stringOp .add ⟨I.toArray⟩ ⟨#[43]⟩).run Tryd.prog w = .ok (.string ⟨J.toArray⟩) w := h2
        clear h2 hJ hc
        have him' : decide (im < 0) = false := decide_eq_false him
        go_enter Tryd.func26, Tryd.ntmps26
        go_wp2_with fail
        refine (cC _).mono ?_
        rintro e w2 ⟨rfl, hb2⟩
        have hbw2 : Below w.heap.size w w2 := (below_new _ _).trans (hb2.mono (by simp))
        have hA := (At.new w re im n).below hb2
        obtain ⟨g0, g1, g2⟩ := hA.cells
        clear hb2 cC
        go_wp2_with fail
        refine (c1 _).mono ?_
        rintro e w3 ⟨rfl, hw⟩
        obtain rfl := hw.symm
        go_wp2_with fail
        refine (c2 _).mono ?_
        rintro e w3 ⟨rfl, q1, hw⟩
        have hbw3 : Below w.heap.size w w3 := by rw [hw]; exact below_drewN hbw2 q1
        have hA3 : At w3 w.heap.size re im n := by rw [hw]; exact hA.drewN q1
        clear hw g0 g1 g2 hA hbw2
        obtain ⟨g0, g1, g2⟩ := hA3.cells
        go_wp2_with fail
        refine (c3 _).mono ?_
        rintro e w4 ⟨rfl, hw⟩
        obtain rfl := hw.symm
        go_wp2_with fail
        refine (c4 _).mono ?_
        rintro e w4 ⟨rfl, q2, hw⟩
        have hbw4 : Below w.heap.size w w4 := by rw [hw]; exact below_drewN hbw3 q2
        have hA4 : At w4 w.heap.size re im n := by rw [hw]; exact hA3.drewN q2
        clear hw g0 g1 g2 hA3 hbw3
        obtain ⟨g0, g1, g2⟩ := hA4.cells
        go_wp2_with fail
        go_ret2
        exact ⟨rfl, hbw4⟩
    · rw [h1p hre] at c2
      have hre' : decide (re < 0) = false := decide_eq_false hre
      clear h1n h1p
      by_cases him : im < 0
      · have hc : sgn im = 45 := by unfold sgn; rw [if_pos him]
        rw [hc] at hJ h2
        have h2' : ∀ w, (Op.stringOp .add ⟨I.toArray⟩ ⟨#[45]⟩).run Tryd.prog w = .ok (.string ⟨J.toArray⟩) w := h2
        clear h2 hJ hc
        go_enter Tryd.func26, Tryd.ntmps26
        go_wp2_with fail
        refine (cC _).mono ?_
        rintro e w2 ⟨rfl, hb2⟩
        have hbw2 : Below w.heap.size w w2 := (below_new _ _).trans (hb2.mono (by simp))
        have hA := (At.new w re im n).below hb2
        obtain ⟨g0, g1, g2⟩ := hA.cells
        clear hb2 cC
        go_wp2_with fail
        refine (c1 _).mono ?_
        rintro e w3 ⟨rfl, hw⟩
        obtain rfl := hw.symm
        go_wp2_with fail
        refine (c2 _).mono ?_
        rintro e w3 ⟨rfl, q1, hw⟩
        have hbw3 : Below w.heap.size w w3 := by rw [hw]; exact below_drewN hbw2 q1
        have hA3 : At w3 w.heap.size re im n := by rw [hw]; exact hA.drewN q1
        clear hw g0 g1 g2 hA hbw2
        obtain ⟨g0, g1, g2⟩ := hA3.cells
        go_wp2_with fail
        refine (c3 _).mono ?_
        rintro e w4 ⟨rfl, hw⟩
        obtain rfl := hw.symm
        go_wp2_with fail
        refine (c4 _).mono ?_
        rintro e w4 ⟨rfl, q2, hw⟩
        have hbw4 : Below w.heap.size w w4 := by rw [hw]; exact below_drewN hbw3 q2
        have hA4 : At w4 w.heap.size re im n := by rw [hw]; exact hA3.drewN q2
        clear hw g0 g1 g2 hA3 hbw3
        obtain ⟨g0, g1, g2⟩ := hA4.cells
        go_wp2_with fail
        go_ret2
        exact ⟨rfl, hbw4⟩
      · have hc : sgn im = 43 := by unfold sgn; rw [if_neg him]
        rw [hc] at hJ h2
        have h2' : ∀ w, (Op.stringOp .add ⟨I.toArray⟩ ⟨#[43]⟩).run Tryd.prog w = .ok (.string ⟨J.toArray⟩) w := h2
        clear h2 hJ hc
        have him' : decide (im < 0) = false := decide_eq_false him
        go_enter Tryd.func26, Tryd.ntmps26
        go_wp2_with fail
        refine (cC _).mono ?_
        rintro e w2 ⟨rfl, hb2⟩
        have hbw2 : Below w.heap.size w w2 := (below_new _ _).trans (hb2.mono (by simp))
        have hA := (At.new w re im n).below hb2
        obtain ⟨g0, g1, g2⟩ := hA.cells
        clear hb2 cC
        go_wp2_with fail
        refine (c1 _).mono ?_
        rintro e w3 ⟨rfl, hw⟩
        obtain rfl := hw.symm
        go_wp2_with fail
        refine (c2 _).mono ?_
        rintro e w3 ⟨rfl, q1, hw⟩
        have hbw3 : Below w.heap.size w w3 := by rw [hw]; exact below_drewN hbw2 q1
        have hA3 : At w3 w.heap.size re im n := by rw [hw]; exact hA.drewN q1
        clear hw g0 g1 g2 hA hbw2
        obtain ⟨g0, g1, g2⟩ := hA3.cells
        go_wp2_with fail
        refine (c3 _).mono ?_
        rintro e w4 ⟨rfl, hw⟩
        obtain rfl := hw.symm
        go_wp2_with fail
        refine (c4 _).mono ?_
        rintro e w4 ⟨rfl, q2, hw⟩
        have hbw4 : Below w.heap.size w w4 := by rw [hw]; exact below_drewN hbw3 q2
        have hA4 : At w4 w.heap.size re im n := by rw [hw]; exact hA3.drewN q2
        clear hw g0 g1 g2 hA3 hbw3
        obtain ⟨g0, g1, g2⟩ := hA4.cells
        go_wp2_with fail
        go_ret2
        exact ⟨rfl, hbw4⟩
end Go.Proofs.YthpkmbgollollaaDoor.Dy
