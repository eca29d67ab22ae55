/- Half, Plus, Exact, as they are walked. -/
import Derived.Test.YtnhdgellckcnbaaDoorSj
namespace Go.Proofs.YtnhdgellckcnbaaDoor.Sca
open Go.RowKit Go.Lib Go.Shelf

theorem half_lt (b : Nat) (hb : b < 18446744073709551616) : half b < 18446744073709551616 := by
  have h1 := rung_le (mOf b) (pOf b - 1)
  have h2 := sb_eq b hb
  unfold half
  omega
theorem mg_half (b : Nat) : mg (half b) = rung (mOf b) (pOf b - 1) := by
  have h1 := rung_le (mOf b) (pOf b - 1)
  unfold half
  exact mg_add _ _ (by omega)
theorem half_fin (b : Nat) (h : mg b < 9218868437227405312) : mg (half b) < 9218868437227405312 := by
  rw [mg_half]
  by_cases hp : -1074 < pOf b
  · have hq : 2 ≤ mg b / 4503599627370496 := by unfold pOf at hp; omega
    have hm : mOf b = 4503599627370496 + mg b % 4503599627370496 := by unfold mOf; rw [if_neg (by omega)]
    have hpo : pOf b = -1074 + ((mg b / 4503599627370496 - 1 : Nat) : Int) := rfl
    rw [rung_normal _ _ (by omega) (by omega) (by omega)]
    have : (pOf b - 1 + 1074).toNat ≤ 2044 := by omega
    have h2 : (pOf b - 1 + 1074).toNat * 4503599627370496 ≤ 2044 * 4503599627370496 := Nat.mul_le_mul_right _ this
    omega
  · have hp' : pOf b = -1074 := by have := pOf_ge b; omega
    have hm := (twice_least b hp').2
    have hq : mg b / 4503599627370496 ≤ 1 := by unfold pOf at hp'; omega
    have hl : (mg b).log2 ≤ 52 := log2_le (by omega)
    have hR : rhe (mg b) 1 ≤ 2 ^ 53 := rhe_le (by omega)
    rw [hp', hm]
    unfold rung
    by_cases h0 : mg b = 0
    · rw [if_pos h0]; omega
    · rw [if_neg h0]
      have hL : lastP (mg b) (-1074 - 1) = -1074 := by unfold lastP; omega
      rw [hL, show (-1074 - 1 - -1074 : Int).toNat = 0 from rfl, show (-1074 - (-1074 - 1) : Int).toNat = 1 from rfl, show (-1074 + 1074 : Int).toNat = 0 from rfl, Nat.pow_zero, Nat.mul_one]
      omega
/-- Is the half exact? -/
def hEx (b : Nat) : Bool := decide (9218868437227405312 ≤ mg b ∨ mOf b % 2 = 0 ∨ -1074 < pOf b)
theorem can_fin (b : Nat) (h : mg b < 9218868437227405312) : can b = b := can_num b (by omega)
theorem twice_same (b : Nat) (hb : b < 18446744073709551616) (h : mg b < 9218868437227405312) : (can (sb b + rung (mOf (half b)) (pOf (half b) + 1)) == can b) = hEx b := by
  have h2 := sb_eq b hb
  have hsb := mg_sb b
  unfold hEx
  rw [can_fin b h]
  by_cases hp : -1074 < pOf b
  · rw [twice_normal b h hp, ← hsb, can_fin b h, decide_eq_true (Or.inr (Or.inr hp))]
    exact beq_self_eq_true b
  · have hp' : pOf b = -1074 := by have := pOf_ge b; omega
    obtain ⟨e1, e2⟩ := twice_least b hp'
    have hq : mg b / 4503599627370496 ≤ 1 := by unfold pOf at hp'; omega
    rw [e1, e2, rhe_one]
    have hr : ∀ r, r < 9218868437227405312 → can (sb b + r) = sb b + r := fun r hr => can_num _ (by rw [mg_add _ _ (by omega)]; omega)
    by_cases c : mg b % 2 = 0
    · rw [decide_eq_true (Or.inr (Or.inl c)), if_neg (by omega), hr _ (by omega), beq_iff_eq]
      omega
    · rw [decide_eq_false (by omega), hr _ (by split <;> omega), beq_eq_false_iff_ne]
      split <;> omega
theorem can_nan (b : Nat) (h : 9218868437227405312 < mg b) : can b = 9221120237041090561 := by unfold can; rw [if_pos h]

/-- A nought's sign struck off. -/
def plusB (b : Nat) : Nat := if mg b = 0 then 0 else b
theorem sPlus (b : Nat) (hb : b < 18446744073709551616) (w : World) :
    Calls Tryd.prog 60 #[.float .f64 b] w fun e w' => (∃ r, e = .returned (.float .f64 r) ∧ r < 18446744073709551616 ∧ can r = can (plusB b)) ∧ ∃ q, w' = w.drewN q := by
  by_cases c1 : mg b < 9218868437227405312
  · have ha : ∀ t w, (binOp .add t (.float .f64 b) (.float .f64 0)).run Tryd.prog w = .ok (.float .f64 (plusB b)) w := fun t w => run_float_arith w .add t .f64 b 0 _ (add_zero_fin b hb c1)
    have Hh : Hid (plusB b < 18446744073709551616) := by show plusB b < _; unfold plusB; split <;> omega
    clear c1
    generalize plusB b = p at *
    go_enter Tryd.func60, Tryd.ntmps60
    go_wp2
    go_ret
    exact ⟨⟨_, rfl, Hh.out, rfl⟩, 0, rfl⟩
  · have hp : plusB b = b := by unfold plusB; rw [if_neg (by omega)]
    rw [hp]
    clear hp
    by_cases c2 : mg b = 9218868437227405312
    · have ha : ∀ t w, (binOp .add t (.float .f64 b) (.float .f64 0)).run Tryd.prog w = .ok (.float .f64 b) w := fun t w => run_float_arith w .add t .f64 b 0 _ (add_zero_inf b hb c2)
      clear c1 c2
      go_enter Tryd.func60, Tryd.ntmps60
      go_wp2
      go_ret
      exact ⟨⟨_, rfl, hb, rfl⟩, 0, rfl⟩
    · have c3 : 9218868437227405312 < mg b := by omega
      have hq : ∀ t w, (binOp .add t (.float .f64 b) (.float .f64 0)).run Tryd.prog w = .ok (.float .f64 (nanAt b 0 w)) w.drew := fun t w => run_float_nan w .add (by simp) t b 0 (add_nan b 0 c3)
      obtain ⟨hn1, hn2⟩ := nanAt_nan b 0 w
      have Hh : Hid (nanAt b 0 w < 18446744073709551616 ∧ can (nanAt b 0 w) = can b) := ⟨hn2, by rw [can_nan b c3, can_nan _ hn1]⟩
      clear c1 c2 c3 hn1 hn2
      go_enter Tryd.func60, Tryd.ntmps60
      go_wp2
      go_ret
      exact ⟨⟨_, rfl, Hh.out.1, Hh.out.2⟩, 1, rfl⟩
/-- Split, whole. -/
def slM (b : Nat) : Int := if mg b < 9218868437227405312 then spM b else 0
def slE (b : Nat) : Int := if mg b < 9218868437227405312 then spE b else 0
def exB (b : Nat) (k : Int) : Bool := decide (spF b = 0) && (decide (slM b = 0) || decide (-slE b ≤ k))
theorem slE_bd (b : Nat) : -1074 ≤ slE b ∧ slE b ≤ 1100 := by
  unfold slE spE
  split
  · split
    · omega
    · rename_i h1 h0
      have hm0 : mOf b ≠ 0 := fun e => h0 ((mOf_zero b).1 e)
      have := (tz_spec (mOf b) hm0 (by have := mOf_lt b; omega)).2
      have hp := pOf_ge b
      have : pOf b ≤ 971 := by unfold pOf; omega
      omega
  · omega
end Go.Proofs.YtnhdgellckcnbaaDoor.Sca
