/- Half of the plane, To. -/
import Derived.Test.YthpkmbgollollabDoorGa
import Derived.Test.YthpkmbgollollabDoorDe
namespace Go.Proofs.YthpkmbgollollabDoor.Dy
open Go.RowKit Go.Shelf Go.Proofs.YthpkmbgollollabDoor.Sca

theorem slM_zero : slM 0 = 0 ∧ slE 0 = 0 ∧ spF 0 = 0 := by decide +kernel
theorem tz_drewN {w : World} (h : Tz w) (n : Nat) : Tz (w.drewN n) := h.below (below_drewN (Below.refl _ _) n)
set_option maxRecDepth 100000 in
set_option maxHeartbeats 1000000 in
theorem pHalved (re : Int) (n : Nat) (hr : re.natAbs ≤ 9007199254740992) (hn : n ≤ 60) (w : World) (hT : Tz w) :
    Calls Tryd.prog 32 #[.float .f64 (joinB re 0), .int .i64 (n : Int)] w fun e w' => e = .returned (.float .f64 (joinB re (-(n : Int)))) ∧ ∃ q, w' = w.drewN q := by
  by_cases h0 : re = 0
  · subst h0
    rw [join_zero, join_zero]
    have cS := sSplit 0 (by decide) w hT
    rw [slM_zero.1, slM_zero.2.1, slM_zero.2.2] at cS
    go_enter Tryd.func32, Tryd.ntmps32
    go_wp2_with fail
    refine cS.mono ?_
    rintro e w1 ⟨rfl, hw⟩
    obtain rfl := hw.symm
    go_wp2_with fail
    go_ret
    exact ⟨rfl, 0, rfl⟩
  · obtain ⟨s, t, hst, ho, hlt, ht⟩ := odd_part re h0 hr
    have e1 : joinB re 0 = joinB s t := by rw [hst, ← join_scale s t t, Int.sub_self]
    have e2 : joinB re (-(n : Int)) = joinB s ((t : Int) - n) := by
      rw [hst, ← join_scale s t ((t : Int) - n)]
      congr 1
      omega
    rw [e1, e2]
    obtain ⟨_, _, k1, k2, k3⟩ := split_odd s t ho hlt (by omega) (by omega)
    have cS := sSplit (joinB s t) (mg_join s t).2.2 w hT
    rw [k1, k2, k3] at cS
    have cJ := fun w => sJoin s ((t : Int) - n) (by omega) (by omega) w
    have hs0 : (s == 0) = false := by rw [beq_eq_false_iff_ne]; omega
    have hw1 : IntKind.i64.wrap ((t : Int) - (n : Int)) = (t : Int) - (n : Int) := by rw [wrapI]; omega
    generalize joinB s t = b at *
    generalize joinB s ((t : Int) - n) = c at *
    clear e1 e2 k1 k2 k3 ho hlt hst h0 hr
    go_enter Tryd.func32, Tryd.ntmps32
    go_wp2_with fail
    refine cS.mono ?_
    rintro e w1 ⟨rfl, hw⟩
    obtain rfl := hw.symm
    go_wp2_with fail
    refine (cJ _).mono ?_
    rintro e w1 ⟨rfl, q, hw⟩
    obtain rfl := hw.symm
    go_wp2_with fail
    go_ret
    exact ⟨rfl, q, rfl⟩
theorem foi (n : Int) : floatOfInt .f64 n = joinB n 0 := by
  show dbl.nearest (decide (n < 0)) n.natAbs 0 = _
  rw [nearest_eq, word_of]
  unfold joinB
  by_cases c : n < 0
  · rw [if_pos c, decide_eq_true c]; rfl
  · rw [if_neg c, decide_eq_false c]; rfl
set_option maxRecDepth 100000 in
set_option maxHeartbeats 1000000 in
theorem pHalf (re im : Int) (n : Nat) (hr : re.natAbs ≤ 9007199254740992) (hi : im.natAbs ≤ 9007199254740992) (hn : n ≤ 60) (w : World) (hT : Tz w) :
    Calls Tryd.prog 18 #[.complex .f64 (joinB re 0) (joinB im 0), .int .i64 (n : Int)] w fun e w' => e = .returned (.tuple #[.complex .f64 (joinB re (-(n : Int))) (joinB im (-(n : Int))), .int .i64 0]) ∧ ∃ q, w' = w.drewN q := by
  have c1 := fun w hT => pHalved re n hr hn w hT
  have c2 := fun w hT => pHalved im n hi hn w hT
  have z1 : ¬ (n : Int) < 0 := by omega
  have z2 : ¬ 2000 < (n : Int) := by omega
  generalize joinB re 0 = a at *
  generalize joinB im 0 = b at *
  generalize joinB re (-(n : Int)) = a' at *
  generalize joinB im (-(n : Int)) = b' at *
  clear hr hi
  go_enter Tryd.func18, Tryd.ntmps18
  go_wp2_with fail
  refine (c1 _ hT).mono ?_
  rintro e w1 ⟨rfl, q, hw⟩
  obtain rfl := hw
  go_wp2_with fail
  refine (c2 _ (tz_drewN hT q)).mono ?_
  rintro e w1 ⟨rfl, q2, hw⟩
  obtain rfl := hw
  go_wp2_with fail
  go_ret2
  exact ⟨rfl, q + q2, by simp⟩
set_option maxRecDepth 100000 in
set_option maxHeartbeats 1000000 in
theorem yTo (d : DD) (h : Rt d) (w : World) (hT : Tz w) : Calls Tryd.prog 4 #[dV d] w fun e w' => e = .returned (.tuple #[.complex .f64 (joinB d.re (-d.ex)) (joinB d.im (-d.ex)), .int .i64 0]) ∧ Below w.heap.size w w' := by
  have cC := fun w => yCheck d h.d64 w
  rw [chk_ok h] at cC
  have hb := h.1
  obtain ⟨re, im, ex⟩ := d
  unfold inR at hb
  dsimp only at hb
  obtain ⟨n, rfl⟩ : ∃ n : Nat, ex = n := ⟨ex.toNat, by omega⟩
  have cH := fun w hT => pHalf re im n (by omega) (by omega) (by omega) w hT
  rw [← foi, ← foi] at cH
  unfold dV at *
  dsimp only at *
  generalize joinB re (-(n : Int)) = a' at *
  generalize joinB im (-(n : Int)) = b' at *
  clear h hb
  go_enter Tryd.func4, Tryd.ntmps4
  go_wp2_with fail
  refine (cC _).mono ?_
  rintro e w2 ⟨rfl, hb2⟩
  obtain ⟨g0, g1, g2⟩ := ((At.new w re im n).below hb2).cells
  have hbw2 : Below w.heap.size w w2 := (below_new _ _).trans (hb2.mono (by simp))
  clear hb2 cC
  go_wp2_with fail
  refine (cH _ (hT.below hbw2)).mono ?_
  rintro e w3 ⟨rfl, q, hw⟩
  obtain rfl := hw
  go_wp2_with fail
  go_ret2
  exact ⟨rfl, below_drewN hbw2 q⟩
end Go.Proofs.YthpkmbgollollabDoor.Dy
