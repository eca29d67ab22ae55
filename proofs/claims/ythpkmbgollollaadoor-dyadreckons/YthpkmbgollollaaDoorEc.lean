/- The document's double. -/
import Derived.Test.YthpkmbgollollaaDoorEb
import Derived.Test.YthpkmbgollollaaDoorDh
namespace Go.Proofs.YthpkmbgollollaaDoor.Dy
open Go.RowKit Go.Shelf Go.Proofs.YthpkmbgollollaaDoor.Sca

/-- Does it stay below 2^60? -/
def dbB (v : Int) (n : Nat) : Bool := decide (v.natAbs * 2 ^ n < 1152921504606846976)
def dbV (v : Int) (n : Nat) : Value := if dbB v n then .tuple #[.int .i64 (v * 2 ^ n), .bool true] else .tuple #[.int .i64 0, .bool false]
theorem dbB_far {v : Int} {i n : Nat} (h : i < n) (hf : 576460752303423488 ≤ (v * 2 ^ i).natAbs) : dbB v n = false := by
  unfold dbB
  apply decide_eq_false
  rw [natAbs_scale] at hf
  have h1 : v.natAbs * 2 ^ (i + 1) ≤ v.natAbs * 2 ^ n := Nat.mul_le_mul_left _ (Nat.pow_le_pow_right (by decide) h)
  rw [Nat.pow_succ, ← Nat.mul_assoc] at h1
  omega
set_option maxRecDepth 100000 in
set_option maxHeartbeats 2000000 in
theorem zDouble (v : Int) (n : Nat) (hv : v.natAbs ≤ 9007199254740992) (hn : n ≤ 60) (w : World) : Calls Tryd.prog 40 #[.int .i64 v, .int .i64 (n : Int)] w fun x w' => x = .returned (dbV v n) ∧ w' = w := by
  go_enter Tryd.func40, Tryd.ntmps40
  go_wp2_with fail
  go_loopw [0, 6] (fun vc vi wr => ∃ (i : Nat) (c : Int), vc = .int .i64 c ∧ vi = .int .i64 (i : Int) ∧ i ≤ n ∧ Hid (c = v * 2 ^ i) ∧ c.natAbs < 1152921504606846976 ∧ wr = w) (fun _ vi _ => n - (RowKit.intOf vi).toNat)
  case atStart => exact ⟨0, v, rfl, rfl, Nat.zero_le _, hide (by simp), by omega, rfl⟩
  case round =>
    clear hv
    obtain ⟨i, c, rfl, rfl, hi, HC, hc, rfl⟩ := hrel
    by_cases h1 : i < n
    · have h1z : (i : Int) < (n : Int) := by omega
      by_cases h2 : c = 0
      · have HD : Hid (dbV v n = .tuple #[.int .i64 c, .bool true]) := hide (by
          have hv0 : v = 0 := by
            have := HC.out
            rw [h2] at this
            rcases Int.mul_eq_zero.1 this.symm with h | h
            · exact h
            · exact absurd h (Int.ne_of_gt (pow_pos' i))
          rw [hv0, h2]
          unfold dbV dbB
          rw [if_pos (by simp)]
          simp)
        subst h2
        clear HC hc hi h1
        go_wp2_with fail
        go_ret2
        exact ⟨by rw [HD.out]; rfl, rfl⟩
      · have h2z : (c == 0) = false := by rw [beq_eq_false_iff_ne]; exact h2
        have h2y : (c != 0) = true := by rw [bne_iff_ne]; exact h2
        have cS := fun w => zSize c (by omega) (by omega) w
        by_cases h3 : 576460752303423488 ≤ c.natAbs
        · have h3z : (576460752303423488 : Int) ≤ (c.natAbs : Int) := by omega
          have HD : Hid (dbV v n = .tuple #[.int .i64 0, .bool false]) := hide (by
            unfold dbV
            rw [dbB_far h1 (by rw [← HC.out]; exact h3)]
            rfl)
          clear HC hc hi h1 h2 h3
          go_wp2_with fail
          refine (cS _).mono ?_
          rintro e w1 ⟨rfl, hw⟩
          obtain rfl := hw.symm
          go_wp2_with fail
          go_ret2
          exact ⟨by rw [HD.out]; rfl, rfl⟩
        · have h3z : ¬ (576460752303423488 : Int) ≤ (c.natAbs : Int) := by omega
          have w1 : IntKind.i64.wrap (c * 2) = c * 2 := by rw [wrapI]; omega
          have HC2 : Hid (c * 2 = v * 2 ^ (i + 1)) := hide (by rw [HC.out, Int.pow_succ, Int.mul_assoc])
          have hc2 : Hid ((c * 2).natAbs < 1152921504606846976) := hide (by omega)
          have h3y : decide ((576460752303423488 : Int) ≤ (c.natAbs : Int)) = false := decide_eq_false h3z
          clear HC hc h2 h3 h3z h2z
          go_wp2_with fail
          refine (cS _).mono ?_
          rintro e w1 ⟨rfl, hw⟩
          obtain rfl := hw.symm
          go_wp2_with fail
          exact ⟨⟨i + 1, c * 2, rfl, by go_num, by omega, HC2, hc2.out, trivial⟩, by simp [RowKit.intOf]; omega⟩
    · have h1z : ¬ (i : Int) < (n : Int) := by omega
      have HD : Hid (dbV v n = .tuple #[.int .i64 c, .bool true]) := hide (by
        obtain rfl : i = n := by omega
        unfold dbV dbB
        rw [if_pos (decide_eq_true (by rw [← natAbs_scale, ← HC.out]; exact hc)), HC.out])
      clear HC hc hi h1
      go_wp2_with fail
      go_ret2
      exact ⟨by rw [HD.out]; rfl, rfl⟩
end Go.Proofs.YthpkmbgollollaaDoor.Dy
