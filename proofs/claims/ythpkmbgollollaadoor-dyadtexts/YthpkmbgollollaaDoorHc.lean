/- The document's decimal. -/
import Derived.Test.YthpkmbgollollaaDoorHb
namespace Go.Proofs.YthpkmbgollollaaDoor.Dy
open Go.RowKit Go.Shelf Go.Proofs.YthpkmbgollollaaDoor.Sca

def digs : ByteArray := ⟨#[48, 49, 50, 51, 52, 53, 54, 55, 56, 57]⟩
theorem dig_cut : ∀ k : Fin 10, (digs.extract k.val (k.val + 1)).data.toList = [UInt8.ofNat (48 + k.val)] := by decide +kernel
theorem dig_cut1 (k : Nat) (h : k < 10) : digs.extract k (k + 1) = ⟨(Lib.decDigits k).toArray⟩ := by
  have := dig_cut ⟨k, h⟩
  rw [Lib.decDigits_one h]
  apply ByteArray.ext
  rw [← Array.toList_inj]
  exact this
theorem dec_step (n : Nat) (h : ¬ n < 10) : Lib.decDigits n = Lib.decDigits (n / 10) ++ Lib.decDigits (n % 10) := by
  rw [Lib.decDigits_one (show n % 10 < 10 by omega), Lib.decDigits, dif_neg h]
set_option maxRecDepth 100000 in
theorem dec_one (n : Nat) (c : n < 10) (w : World) : Calls Tryd.prog 46 #[.int .i64 (n : Int)] w fun e w' => e = .returned (.string ⟨(Lib.decDigits n).toArray⟩) ∧ ∃ q, w' = w.drewN q := by
  have mixed := mixed_ok
  have hx := dig_cut1 n c
  have hz : decide (10 ≤ (n : Int)) = false := decide_eq_false (by omega)
  have hz1 : ¬ 10 ≤ (n : Int) := by omega
  have hsz : digs.size = 10 := rfl
  generalize (⟨(Lib.decDigits n).toArray⟩ : ByteArray) = r at *
  unfold digs at hx hsz
  go_enter Tryd.func46, Tryd.ntmps46
  go_wp2
  go_ret
  exact ⟨rfl, 0, rfl⟩
set_option maxRecDepth 100000 in
set_option maxHeartbeats 1000000 in
theorem zDecimal : ∀ (f n : Nat), n < 10 ^ (f + 1) → n < 9223372036854775808 → ∀ w : World, Calls Tryd.prog 46 #[.int .i64 (n : Int)] w fun e w' => e = .returned (.string ⟨(Lib.decDigits n).toArray⟩) ∧ ∃ q, w' = w.drewN q := by
  intro f
  induction f with
  | zero =>
    intro n h1 _ w
    exact dec_one n (by omega) w
  | succ f ih =>
    intro n h1 h2 w
    have mixed := mixed_ok
    by_cases c : n < 10
    · exact dec_one n c w
    rw [dec_step n c]
    have cD := fun w => ih (n / 10) (by rw [Nat.pow_succ] at h1; omega) (by omega) w
    have cM := fun w => dec_one (n % 10) (by omega) w
    have hz : decide (10 ≤ (n : Int)) = true := decide_eq_true (by omega)
    have hz1 : 10 ≤ (n : Int) := by omega
    have hd : (n : Int) / 10 = ((n / 10 : Nat) : Int) := by omega
    have hr : (n : Int) % 10 = ((n % 10 : Nat) : Int) := by omega
    have htd : (n : Int).tdiv 10 = ((n / 10 : Nat) : Int) := by rw [Int.tdiv_eq_ediv_of_nonneg (by omega)]; omega
    have htm : (n : Int).tmod 10 = ((n % 10 : Nat) : Int) := by rw [Int.tmod_eq_emod_of_nonneg (by omega)]; omega
    have hwd : IntKind.i64.wrap ((n / 10 : Nat) : Int) = ((n / 10 : Nat) : Int) := by rw [wrapI]; omega
    have hl := dig_len (n / 10) (by omega)
    have hl2 := dig_len (n % 10) (by omega)
    have ha := fun w => add_list (Lib.decDigits (n / 10)) (Lib.decDigits (n % 10)) (by omega) w
    clear ih h1
    generalize n % 10 = r at *
    generalize n / 10 = d at *
    generalize Lib.decDigits d ++ Lib.decDigits r = R at *
    generalize Lib.decDigits d = D at *
    generalize Lib.decDigits r = H at *
    go_enter Tryd.func46, Tryd.ntmps46
    go_wp2_with fail
    refine (cD _).mono ?_
    rintro e w1 ⟨rfl, q1, hw⟩
    obtain rfl := hw
    go_wp2_with fail
    refine (cM _).mono ?_
    rintro e w1 ⟨rfl, q2, hw⟩
    obtain rfl := hw
    go_wp2_with fail
    go_ret
    exact ⟨rfl, q1 + q2, by simp⟩
end Go.Proofs.YthpkmbgollollaaDoor.Dy
