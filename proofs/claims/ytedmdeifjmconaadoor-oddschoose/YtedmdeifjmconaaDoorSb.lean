/- Looks and order: the two packages' functions on one or two floats, as they are walked. -/
import Derived.Test.YtedmdeifjmconaaDoorProg
import Derived.Test.YtedmdeifjmconaaDoorSf
namespace Go.Proofs.YtedmdeifjmconaaDoor.Sca
open Go.RowKit

theorem bits64_run (b : Nat) (w : World) : (callFunc 28 #[.float .f64 b]).run Tryd.prog w = .ok (.value (.int .u64 (b : Int))) w := by kernel_rfl
/-- The bits that stand for a float: of every NaN those of one. -/
def can (b : Nat) : Nat := if 9218868437227405312 < mg b then 9221120237041090561 else b
theorem can_lt {b : Nat} (h : b < 18446744073709551616) : can b < 18446744073709551616 := by unfold can; split <;> omega

theorem sBits (b : Nat) (w : World) : Calls Tryd.prog 22 #[.float .f64 b] w fun e w' => e = .returned (.int .u64 (can b : Int)) ∧ w' = w := by
  have hb := bits64_run b
  have ho := order_self b
  unfold can
  by_cases h : 9218868437227405312 < mg b
  · rw [if_pos h] at ho ⊢
    have hn : (FloatKind.f64.format.order b b != some .eq) = true := by rw [ho]; rfl
    clear ho
    go_enter Tryd.func22, Tryd.ntmps22
    go_wp2
    go_ret
    exact ⟨rfl, rfl⟩
  · rw [if_neg h] at ho ⊢
    have hn : (FloatKind.f64.format.order b b != some .eq) = false := by rw [ho]; rfl
    clear ho
    go_enter Tryd.func22, Tryd.ntmps22
    go_wp2
    go_ret
    exact ⟨rfl, rfl⟩
/-- The class of bits. -/
def clsOf (b : Nat) : Nat := if 9218868437227405312 < mg b then 1 else if mg b = 9218868437227405312 then 2 else if mg b = 0 then 3 else if mg b < 4503599627370496 then 4 else 5
theorem mg_can (b : Nat) (h : 9218868437227405312 < mg b) : mg (can b) = 9221120237041090561 := by unfold can; rw [if_pos h]; decide +kernel
theorem can_num (b : Nat) (h : ¬ 9218868437227405312 < mg b) : can b = b := by unfold can; rw [if_neg h]
set_option maxRecDepth 100000 in
theorem sClass (b : Nat) (hlt : b < 18446744073709551616) (w : World) : Calls Tryd.prog 15 #[.float .f64 b] w fun e w' => e = .returned (.int .i64 (clsOf b : Int)) ∧ w' = w := by
  have hs := andNot_sign (can b) (can_lt hlt)
  have cB := fun w => sBits b w
  unfold clsOf
  by_cases h1 : 9218868437227405312 < mg b
  · have hm := mg_can b h1
    rw [hm] at hs
    rw [if_pos h1]
    go_enter Tryd.func15, Tryd.ntmps15
    go_wp2_with (go_at_call 22; refine (cB _).mono ?_; rintro e w' ⟨rfl, rfl⟩)
    go_ret
    exact ⟨rfl, rfl⟩
  · rw [can_num b h1] at hs cB
    have h1z : decide ((9218868437227405312 : Int) < (mg b : Int)) = false := decide_eq_false (by omega)
    rw [if_neg h1]
    by_cases h2 : mg b = 9218868437227405312
    · rw [h2] at hs
      rw [if_pos h2]
      clear h1z h1 h2
      go_enter Tryd.func15, Tryd.ntmps15
      go_wp2_with (go_at_call 22; refine (cB _).mono ?_; rintro e w' ⟨rfl, rfl⟩)
      go_ret
      exact ⟨rfl, rfl⟩
    · have h2z : ((mg b : Int) == 9218868437227405312) = false := by rw [beq_eq_false_iff_ne]; omega
      rw [if_neg h2]
      by_cases h3 : mg b = 0
      · rw [h3] at hs
        rw [if_pos h3]
        clear h1z h1 h2 h2z h3
        go_enter Tryd.func15, Tryd.ntmps15
        go_wp2_with (go_at_call 22; refine (cB _).mono ?_; rintro e w' ⟨rfl, rfl⟩)
        go_ret
        exact ⟨rfl, rfl⟩
      · rw [if_neg h3]
        have h3z : decide (0 < mg b) = true := decide_eq_true (by omega)
        by_cases h4 : mg b < 4503599627370496
        · have h4z : decide ((4503599627370496 : Int) ≤ (mg b : Int)) = false := decide_eq_false (by omega)
          rw [if_pos h4]
          clear h1 h2 h3 h4
          go_enter Tryd.func15, Tryd.ntmps15
          go_wp2_with (go_at_call 22; refine (cB _).mono ?_; rintro e w' ⟨rfl, rfl⟩)
          go_ret
          exact ⟨rfl, rfl⟩
        · have h4z : decide ((4503599627370496 : Int) ≤ (mg b : Int)) = true := decide_eq_true (by omega)
          rw [if_neg h4]
          clear h1 h2 h3 h4
          go_enter Tryd.func15, Tryd.ntmps15
          go_wp2_with (go_at_call 22; refine (cB _).mono ?_; rintro e w' ⟨rfl, rfl⟩)
          go_ret
          exact ⟨rfl, rfl⟩
theorem beq_cast (a b : Nat) : ((a : Int) == (b : Int)) = (a == b) := by
  rw [Bool.eq_iff_iff]; simp only [beq_iff_eq]; omega
/-- Where a float stands in the order. -/
def rk (b : Nat) : Nat := if b < 9223372036854775808 then b + 9223372036854775808 else 18446744073709551615 - b
theorem rk_lt {b : Nat} (h : b < 18446744073709551616) : rk b < 18446744073709551616 := by unfold rk; split <;> omega
def unrk (r : Nat) : Nat := if r < 9223372036854775808 then 18446744073709551615 - r else r - 9223372036854775808
theorem unrk_lt {r : Nat} (h : r < 18446744073709551616) : unrk r < 18446744073709551616 := by unfold unrk; split <;> omega
theorem not_run (c : Nat) (h : c < 18446744073709551616) : bits .xor .u64 IntKind.u64.max (c : Int) = ((18446744073709551615 - c : Nat) : Int) := by
  rw [show IntKind.u64.max = ((18446744073709551615 : Nat) : Int) from rfl, u64_xor_nat 18446744073709551615 c (by decide) h, Nat.xor_comm]
  congr 1
  have e := congrArg BitVec.toNat (BitVec.xor_allOnes (x := BitVec.ofNat 64 c))
  rw [BitVec.toNat_xor, BitVec.toNat_not, BitVec.toNat_ofNat, BitVec.toNat_allOnes, Nat.mod_eq_of_lt (by omega)] at e
  exact e
end Go.Proofs.YtedmdeifjmconaaDoor.Sca
