/- The document's Print: decimal, as it is walked. -/
import Derived.Test.YtnpdfkcjjedamaaGreatDoorPb
import Derived.Test.YtnpdfkcjjedamaaGreatDoorQc
namespace Go.Proofs.YtnpdfkcjjedamaaGreatDoor.Sca
open Go.RowKit Go.Lib Go.Shelf Go.Proofs.YtnpdfkcjjedamaaGreatDoor.Oct

set_option maxRecDepth 100000 in
theorem itoa_step : ∀ k : Fin 1200, Lib.itoa ((k.val : Nat) : Int) = if k.val < 10 then [hxd k.val] else Lib.itoa ((k.val / 10 : Nat) : Int) ++ [hxd (k.val % 10)] := by decide +kernel
theorem hex_cut : ∀ k : Fin 16, (hexText.extract k.val (k.val + 1)).data.toList = [hxd k.val] := by decide +kernel
theorem hex_cut1 (k : Nat) (h : k < 16) : hexText.extract k (k + 1) = ⟨[hxd k].toArray⟩ := by
  have := hex_cut ⟨k, h⟩
  apply ByteArray.ext
  rw [← Array.toList_inj]
  exact this
set_option maxRecDepth 100000 in
theorem dec_one (n : Nat) (c : n < 10) (w : World) : Calls Tryz.prog 71 #[.int .i64 (n : Int)] w fun e w' => e = .returned (.string ⟨(Lib.itoa (n : Int)).toArray⟩) ∧ ∃ q, w' = w.drewN q := by
  have mixed := mixed_ok
  rw [itoa_step ⟨n, by omega⟩]
  show Calls _ _ _ _ fun e w' => e = .returned (.string ⟨(if n < 10 then [hxd n] else Lib.itoa ((n / 10 : Nat) : Int) ++ [hxd (n % 10)]).toArray⟩) ∧ _
  rw [if_pos (by omega)]
  have hx := hex_cut1 n (by omega)
  have hz : decide ((n : Int) < 10) = true := decide_eq_true (by omega)
  have hz2 : decide (n < 10) = true := decide_eq_true (by omega)
  have hsz : hexText.size = 16 := rfl
  generalize (⟨[hxd n].toArray⟩ : ByteArray) = r at *
  go_enter Tryz.func71, Tryz.ntmps71
  go_wp2
  go_ret
  exact ⟨rfl, 0, rfl⟩
set_option maxRecDepth 100000 in
theorem qDecimal : ∀ (f n : Nat), n < 10 ^ (f + 1) → n < 1200 → ∀ w : World, Calls Tryz.prog 71 #[.int .i64 (n : Int)] w fun e w' => e = .returned (.string ⟨(Lib.itoa (n : Int)).toArray⟩) ∧ ∃ q, w' = w.drewN q := by
  intro f
  induction f with
  | zero =>
    intro n h1 _ w
    exact dec_one n (by omega) w
  | succ f ih =>
    intro n h1 h2 w
    have mixed := mixed_ok
    by_cases c : n < 10
    · exact dec_one n c w
    rw [itoa_step ⟨n, h2⟩]
    show Calls _ _ _ _ fun e w' => e = .returned (.string ⟨(if n < 10 then [hxd n] else Lib.itoa ((n / 10 : Nat) : Int) ++ [hxd (n % 10)]).toArray⟩) ∧ _
    rw [if_neg c]
    have cD := fun w => ih (n / 10) (by rw [Nat.pow_succ] at h1; omega) (by omega) w
    have hx := hex_cut1 (n % 10) (by omega)
    have hz : decide ((n : Int) < 10) = false := decide_eq_false (by omega)
    have hz2 : decide (n < 10) = false := decide_eq_false (by omega)
    have hd : (n : Int) / 10 = ((n / 10 : Nat) : Int) := by omega
    have hr : (n : Int) % 10 = ((n % 10 : Nat) : Int) := by omega
    have hl := Lib.itoa_length_le ((n / 10 : Nat) : Int) (by omega) (by omega)
    have ha := fun w => add_list (Lib.itoa ((n / 10 : Nat) : Int)) [hxd (n % 10)] (by rw [List.length_singleton]; omega) w
    have hsz : hexText.size = 16 := rfl
    have hrl : n % 10 < 10 := by omega
    clear ih h1
    generalize n % 10 = r at *
    generalize n / 10 = d at *
    generalize Lib.itoa (d : Int) ++ [hxd r] = R at *
    generalize Lib.itoa (d : Int) = D at *
    generalize [hxd r] = H at *
    go_enter Tryz.func71, Tryz.ntmps71
    go_wp2
    go_big_quiet_o (first | (go_at_call 71; with_reducible refine Calls.quiet_of (cD _)))
    all_goals go_wp2
    all_goals go_show
    all_goals go_ret
    all_goals exact ⟨rfl, _, rfl⟩
end Go.Proofs.YtnpdfkcjjedamaaGreatDoor.Sca
