/- ScalarOrder, as it is walked. -/
import Derived.Test.YtbnclgndgjmmkaaGreatDoorAl
import Derived.Test.YtbnclgndgjmmkaaGreatDoorSe
namespace Go.Proofs.YtbnclgndgjmmkaaGreatDoor.Sca
open Go.RowKit Go.Lib Go.Shelf

theorem can_rng (b : Nat) (h : b < 18446744073709551616) : can b = 9221120237041090561 ∨ can b ≤ 9218868437227405312 ∨ 9223372036854775808 ≤ can b ∧ can b ≤ 18442240474082181120 := by
  unfold can
  split
  · exact .inl rfl
  · rename_i hm
    unfold mg at hm
    omega
theorem plc_cases (b : Nat) (h : b < 18446744073709551616) : (plc (can b) = 18446744073709551615 ∧ rk (can b) = 18444492273895866369) ∨ (plc (can b) = rk (can b) ∧ rk (can b) ≤ 18442240474082181120) := by
  have h1 := can_rng b h
  generalize can b = x at *
  unfold plc rk
  rcases h1 with rfl | h1 | h1
  · left; decide
  · right
    rw [if_neg (by omega), if_pos (by omega)]
    omega
  · right
    rw [if_neg (by omega), if_neg (by omega)]
    omega
theorem cmp_same (a b : Nat) (ha : a < 18446744073709551616) (hb : b < 18446744073709551616) : cmp3 (plc (can a)) (plc (can b)) = cmp3 (rk (can a)) (rk (can b)) := by
  have h1 := plc_cases a ha
  have h2 := plc_cases b hb
  generalize plc (can a) = p at *
  generalize plc (can b) = q at *
  generalize rk (can a) = r at *
  generalize rk (can b) = s at *
  have e1 : (p < q) ↔ (r < s) := by omega
  have e2 : (q < p) ↔ (s < r) := by omega
  unfold cmp3
  simp only [e1, e2]
theorem nxU_lt (b : Nat) (hb : b < 18446744073709551616) : nxU b < 18446744073709551616 := by
  unfold nxU
  split
  · exact hb
  · rename_i h
    exact unrk_lt (rk_up b hb (fun h' => h (.inl h')))
theorem nxD_lt (b : Nat) (hb : b < 18446744073709551616) : nxD b < 18446744073709551616 := by
  have := rk_lt hb
  unfold nxD
  split
  · exact hb
  · exact unrk_lt (by omega)
set_option maxRecDepth 100000 in
theorem order_law (b c : Nat) (hb : b < 18446744073709551616) (hc : c < 18446744073709551616) (w : World) (hT : Tb w) :
    Calls Tryz.prog 4 #[.int .u64 (b : Int), .int .u64 (c : Int)] w fun e w' => e = .returned (.bool true) ∧ Below w.heap.size w w' := by
  have mixed := mixed_ok
  have c1 := fun w => qOf b w
  have c2 := fun w => qOf c w
  have c3 : ∀ w, Calls Tryz.prog 26 #[.float .f64 b, .float .f64 c] w fun e w' => e = .returned (.int .i64 (cmp3 (rk (can b)) (rk (can c)))) ∧ w' = w := fun w => by
    have := qCompare b c hb hc w
    rw [cmp_same b c hb hc] at this
    exact this
  have s1 : ∀ w, Calls Tryz.prog 18 #[.float .f64 (nxU b), .float .f64 (nxU b)] w fun e w' => e = .returned (.bool true) ∧ w' = w := fun w => by
    have := kSame (nxU b) (nxU b) (nxU_lt b hb) (nxU_lt b hb) w
    rw [beq_self_eq_true] at this
    exact this
  have s2 : ∀ w, Calls Tryz.prog 18 #[.float .f64 (nxD b), .float .f64 (nxD b)] w fun e w' => e = .returned (.bool true) ∧ w' = w := fun w => by
    have := kSame (nxD b) (nxD b) (nxD_lt b hb) (nxD_lt b hb) w
    rw [beq_self_eq_true] at this
    exact this
  go_enter Tryz.func4, Tryz.ntmps4
  go_wp2_with fail
  refine (c1 _).mono ?_
  rintro e w' ⟨rfl, hw⟩
  obtain rfl := hw.symm
  go_wp2_with fail
  refine (c2 _).mono ?_
  rintro e w' ⟨rfl, hw⟩
  obtain rfl := hw.symm
  go_wp2_with fail
  refine (sSame b c _).mono ?_
  rintro e w' ⟨rfl, hw⟩
  obtain rfl := hw.symm
  go_wp2_with fail
  refine (qSame b c hb hc _).mono ?_
  rintro e w' ⟨rfl, hw⟩
  obtain rfl := hw.symm
  go_wp2_with fail
  refine (sCompare b c hb hc _).mono ?_
  rintro e w' ⟨rfl, hw⟩
  obtain rfl := hw.symm
  go_wp2_with fail
  refine (c3 _).mono ?_
  rintro e w' ⟨rfl, hw⟩
  obtain rfl := hw.symm
  go_wp2_with fail
  refine (sNextU b hb _).mono ?_
  rintro e w' ⟨rfl, hw⟩
  obtain rfl := hw.symm
  go_wp2_with fail
  refine (qNextU b hb _).mono ?_
  rintro e w' ⟨rfl, hw⟩
  obtain rfl := hw.symm
  go_wp2_with fail
  refine (s1 _).mono ?_
  rintro e w' ⟨rfl, hw⟩
  obtain rfl := hw.symm
  go_wp2_with fail
  refine (sNextD b hb _).mono ?_
  rintro e w' ⟨rfl, hw⟩
  obtain rfl := hw.symm
  go_wp2_with fail
  refine (qNextD b hb _).mono ?_
  rintro e w' ⟨rfl, hw⟩
  obtain rfl := hw.symm
  go_wp2_with fail
  refine (s2 _).mono ?_
  rintro e w' ⟨rfl, hw⟩
  obtain rfl := hw.symm
  go_wp2_with fail
  refine (alive_any w hT).mono ?_
  rintro e w1 ⟨rfl, hb1⟩
  go_wp2
  go_ret
  exact ⟨rfl, hb1⟩
end Go.Proofs.YtbnclgndgjmmkaaGreatDoor.Sca
