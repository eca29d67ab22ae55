/- ScalarJoins, ScalarLooks, as they are walked. -/
import Derived.Test.YtbnclgndgjmmkaaGreatDoorAl
import Derived.Test.YtbnclgndgjmmkaaGreatDoorQf
namespace Go.Proofs.YtbnclgndgjmmkaaGreatDoor.Sca
open Go.RowKit Go.Lib Go.Shelf

theorem aliveN (w : World) (hT : Tb w) (q : Nat) : Calls Tryz.prog 22 #[] (w.drewN q) fun e w' => e = .returned (.bool true) ∧ Below w.heap.size w w' := by
  have hbq : Below w.heap.size w (w.drewN q) := below_drewN (Below.refl _ _) _
  refine (alive_any (w.drewN q) (hT.below hbq)).mono ?_
  rintro e w' ⟨rfl, hb⟩
  exact ⟨rfl, hbq.trans hb⟩
theorem join_lt' (m e : Int) : joinB m e < 18446744073709551616 := by
  have := rung_le m.natAbs e
  unfold joinB
  split <;> omega
set_option maxRecDepth 100000 in
theorem joins_law (b : Nat) (m e : Int) (hb : b < 18446744073709551616) (h1 : -9223372036854775808 ≤ m) (h2 : m ≤ 9223372036854775807) (he1 : -9223372036854775808 ≤ e) (he2 : e ≤ 9223372036854775807) (w : World) (hT : Tb w) :
    Calls Tryz.prog 6 #[.int .u64 (b : Int), .int .i64 m, .int .i64 e] w fun e w' => e = .returned (.bool true) ∧ Below w.heap.size w w' := by
  have mixed := mixed_ok
  have cS := sSplit b hb w hT.tz
  have cQ := qSplit b hb w
  have cJ := fun w => sJoin m e h1 h2 w
  have cK := fun w => qJoin m e h1 h2 he1 he2 w
  have cM := fun w => kSame (joinB m e) (joinB m e) (join_lt' m e) (join_lt' m e) w
  rw [beq_self_eq_true] at cM
  generalize joinB m e = j at *
  generalize slM b = x at *
  generalize slE b = y at *
  generalize spF b = z at *
  go_enter Tryz.func6, Tryz.ntmps6
  go_wp2_with fail
  refine (qOf b _).mono ?_
  rintro e w' ⟨rfl, hw⟩
  obtain rfl := hw.symm
  go_wp2_with fail
  refine cS.mono ?_
  rintro e w' ⟨rfl, hw⟩
  obtain rfl := hw.symm
  go_wp2_with fail
  refine cQ.mono ?_
  rintro e w' ⟨rfl, hw⟩
  obtain rfl := hw.symm
  go_wp2_with fail
  refine (kNum z _).mono ?_
  rintro e w' ⟨rfl, hw⟩
  obtain rfl := hw.symm
  go_wp2_with fail
  refine (cJ _).mono ?_
  rintro e1 w1 ⟨rfl, q1, rfl⟩
  go_wp2_with fail
  refine (cK _).mono ?_
  rintro e2 w2 ⟨rfl, q2, rfl⟩
  go_wp2_with fail
  refine (cM _).mono ?_
  rintro e3 w' ⟨rfl, hw⟩
  obtain rfl := hw.symm
  go_wp2_with fail
  refine (aliveN w hT _).mono ?_
  rintro e w3 ⟨rfl, hb1⟩
  go_wp2
  go_ret
  exact ⟨rfl, hb1⟩
set_option maxRecDepth 100000 in
theorem looks_law (b : Nat) (hb : b < 18446744073709551616) (w : World) (hT : Tb w) :
    Calls Tryz.prog 3 #[.int .u64 (b : Int)] w fun e w' => e = .returned (.bool true) ∧ Below w.heap.size w w' := by
  have mixed := mixed_ok
  have hq : qh b < 18446744073709551616 := by
    unfold qh
    split
    · exact half_lt b hb
    · exact hb
  have hpl : plusB b < 18446744073709551616 := by unfold plusB; split <;> omega
  have hhalf : ∀ r, (mg b < 9218868437227405312 → r = half b) → (¬ mg b < 9218868437227405312 → can r = can b) → can r = can (qh b) := by
    intro r c1 c2
    unfold qh
    by_cases c : mg b < 9218868437227405312
    · rw [if_pos c, c1 c]
    · rw [if_neg c, c2 c]
  have cH := fun w => sHalf b hb w
  have cQ := fun w => qHalf b hb w
  have cP := fun w => sPlus b hb w
  have cR := fun w => qPlus b hb w
  have cO : ∀ w, Calls Tryz.prog 18 #[.float .f64 b, .float .f64 b] w fun e w' => e = .returned (.bool true) ∧ w' = w := fun w => by
    have := kSame b b hb hb w
    rw [beq_self_eq_true] at this
    exact this
  go_enter Tryz.func3, Tryz.ntmps3
  go_wp2_with fail
  refine (qOf b _).mono ?_
  rintro e w' ⟨rfl, hw⟩
  obtain rfl := hw.symm
  go_wp2_with fail
  refine (cH _).mono ?_
  rintro e1 w1 ⟨⟨r, rfl, hr, hr1, hr2⟩, q1, rfl⟩
  go_wp2_with fail
  refine (cQ _).mono ?_
  rintro e2 w2 ⟨rfl, q2, rfl⟩
  have hsame := hhalf r hr1 hr2
  have cS1 : ∀ w, Calls Tryz.prog 18 #[.float .f64 r, .float .f64 (qh b)] w fun e w' => e = .returned (.bool true) ∧ w' = w := fun w => by
    have := kSame r (qh b) hr hq w
    rw [hsame, beq_self_eq_true] at this
    exact this
  clear hsame hr1 hr2 hhalf
  generalize qh b = qq at *
  generalize hEx b = hx at *
  go_wp2_with fail
  refine (sClass b hb _).mono ?_
  rintro e w' ⟨rfl, hw⟩
  obtain rfl := hw.symm
  go_wp2_with fail
  refine (qClass b hb _).mono ?_
  rintro e w' ⟨rfl, hw⟩
  obtain rfl := hw.symm
  go_wp2_with fail
  refine (sSigned b hb _).mono ?_
  rintro e w' ⟨rfl, hw⟩
  obtain rfl := hw.symm
  go_wp2_with fail
  refine (qSigned b hb _).mono ?_
  rintro e w' ⟨rfl, hw⟩
  obtain rfl := hw.symm
  go_wp2_with fail
  refine (sBits b _).mono ?_
  rintro e w' ⟨rfl, hw⟩
  obtain rfl := hw.symm
  go_wp2_with fail
  refine (qBits b hb _).mono ?_
  rintro e w' ⟨rfl, hw⟩
  obtain rfl := hw.symm
  go_wp2_with fail
  refine (sOf b _).mono ?_
  rintro e w' ⟨rfl, hw⟩
  obtain rfl := hw.symm
  go_wp2_with fail
  refine (cO _).mono ?_
  rintro e w' ⟨rfl, hw⟩
  obtain rfl := hw.symm
  go_wp2_with fail
  refine (cS1 _).mono ?_
  rintro e w' ⟨rfl, hw⟩
  obtain rfl := hw.symm
  go_wp2_with fail
  refine (cP _).mono ?_
  rintro e3 w3 ⟨⟨p, rfl, hp, hpc⟩, q3, rfl⟩
  have cS2 : ∀ w, Calls Tryz.prog 18 #[.float .f64 p, .float .f64 (plusB b)] w fun e w' => e = .returned (.bool true) ∧ w' = w := fun w => by
    have := kSame p (plusB b) hp hpl w
    rw [hpc, beq_self_eq_true] at this
    exact this
  clear hpc
  generalize plusB b = pp at *
  go_wp2_with fail
  refine (cR _).mono ?_
  rintro e w' ⟨rfl, hw⟩
  obtain rfl := hw.symm
  go_wp2_with fail
  refine (cS2 _).mono ?_
  rintro e w' ⟨rfl, hw⟩
  obtain rfl := hw.symm
  go_wp2_with fail
  refine (aliveN w hT _).mono ?_
  rintro e w3 ⟨rfl, hb1⟩
  go_wp2
  go_ret
  exact ⟨rfl, hb1⟩
end Go.Proofs.YtbnclgndgjmmkaaGreatDoor.Sca
