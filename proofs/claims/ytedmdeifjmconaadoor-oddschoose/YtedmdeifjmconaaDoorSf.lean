/- Floats by their bits: plain facts. -/
import Derived.WalkKit
import Derived.WalkSpells
import Derived.WalkLawsBesides
import Derived.Laws.BitsAllLaws
import Derived.Laws.FloatArith
namespace Go.Proofs.YtedmdeifjmconaaDoor.Sca
open Go.RowKit

/-- The magnitude's bits. -/
def mg (b : Nat) : Nat := b % 9223372036854775808
/-- The sign's bit, where it stands. -/
def sb (b : Nat) : Nat := b / 9223372036854775808 * 9223372036854775808
theorem mg_lt (b : Nat) : mg b < 9223372036854775808 := Nat.mod_lt _ (by decide)
theorem mg_sb (b : Nat) : b = sb b + mg b := by unfold mg sb; omega

theorem order_self (b : Nat) : FloatKind.f64.format.order b b = if 9218868437227405312 < mg b then none else some .eq := by
  have h1 : FloatKind.f64.format.signWeight = 9223372036854775808 := by decide +kernel
  have h2 : FloatKind.f64.format.infRung = 9218868437227405312 := by decide +kernel
  have h3 : FloatKind.f64.format.binade = 4503599627370496 := by decide +kernel
  unfold Ieee.Format.order Ieee.Format.read
  rw [h1, h2, h3]
  unfold mg
  dsimp only
  split
  · rw [if_neg (by omega)]
    simp [Ieee.Datum.order]
  · split
    · rw [if_neg (by omega)]
      simp [Ieee.Datum.order]
    · split
      · rw [if_neg (by omega)]
        simp [Ieee.Datum.order]
      · rw [if_pos (by omega)]
        simp [Ieee.Datum.order]

theorem low_and (c : Nat) (h : c < 9223372036854775808) : c &&& 9223372036854775808 = 0 := by
  apply Nat.eq_of_testBit_eq
  intro i
  rw [Nat.testBit_and, show (9223372036854775808 : Nat) = 2 ^ 63 from rfl, Nat.testBit_two_pow, Nat.zero_testBit]
  by_cases e : 63 = i
  · subst e
    rw [Nat.testBit_lt_two_pow h]
    rfl
  · simp [e]
theorem or_top (b : Nat) (h : b < 9223372036854775808) : b ||| 9223372036854775808 = b + 9223372036854775808 := by
  have e := Nat.two_pow_add_eq_or_of_lt (i := 63) (b := b) (by omega) 1
  rw [Nat.mul_one] at e
  rw [Nat.or_comm, show (9223372036854775808 : Nat) = 2 ^ 63 from rfl, ← e, Nat.add_comm]
theorem and_sign (b : Nat) (h : b < 18446744073709551616) : bits .and .u64 (b : Int) 9223372036854775808 = (sb b : Int) := by
  rw [show (9223372036854775808 : Int) = ((9223372036854775808 : Nat) : Int) from rfl, u64_and_nat b 9223372036854775808 h (by decide)]
  congr 1
  by_cases hb : b < 9223372036854775808
  · rw [low_and b hb]
    unfold sb
    omega
  · obtain ⟨c, rfl⟩ : ∃ c, b = c + 9223372036854775808 := ⟨b - 9223372036854775808, by omega⟩
    rw [← or_top c (by omega), Nat.and_or_distrib_right, Nat.and_self, low_and c (by omega), Nat.zero_or, or_top c (by omega)]
    unfold sb
    omega
theorem andNot_sign (b : Nat) (h : b < 18446744073709551616) : bits .andNot .u64 (b : Int) 9223372036854775808 = (mg b : Int) := by
  rw [show (9223372036854775808 : Int) = ((9223372036854775808 : Nat) : Int) from rfl, u64_andNot_nat b 9223372036854775808 h (by decide)]
  congr 1
  rw [show (18446744073709551615 - 9223372036854775808 : Nat) = 2 ^ 63 - 1 from rfl, Nat.and_two_pow_sub_one_eq_mod]
  rfl
theorem or_sign (b : Nat) (h : b < 9223372036854775808) : bits .or .u64 (b : Int) 9223372036854775808 = ((b + 9223372036854775808 : Nat) : Int) := by
  rw [show (9223372036854775808 : Int) = ((9223372036854775808 : Nat) : Int) from rfl, u64_or_nat b 9223372036854775808 (by omega) (by decide), or_top b h]
/-- A NaN of the tape's. -/
def nanAt (x y : Nat) (w : World) : Nat := (Question.nanBits .f64 x y).cut (w.tape w.drawn (.nanBits .f64 x y))
theorem nanAt_nan (x y : Nat) (w : World) : 9218868437227405312 < mg (nanAt x y w) ∧ nanAt x y w < 18446744073709551616 := by
  unfold nanAt mg Question.cut
  generalize w.tape w.drawn (.nanBits .f64 x y) = t
  dsimp only
  have h1 : t % 2 = 0 ∨ t % 2 = 1 := by omega
  have h2 : t / 2 % (2 ^ 52 - 1) < 4503599627370495 := Nat.mod_lt _ (by decide)
  generalize t / 2 % (2 ^ 52 - 1) = r at *
  rcases h1 with e | e <;> rw [e] <;> omega
theorem run_float_nan {P : Program} (w : World) (op : BinOp) (hop : op = .add ∨ op = .sub ∨ op = .mul ∨ op = .quo) (t : TypeId) (x y : Nat) (h : floatBits op .f64 x y = none) :
    (binOp op t (.float .f64 x) (.float .f64 y)).run P w = .ok (.float .f64 (nanAt x y w)) w.drew := by
  unfold floatBits at h
  rcases hop with rfl | rfl | rfl | rfl <;> simp only at h <;> simp [binOp, Op.floatArith, h, nanAt, Question.forced] <;> rfl
end Go.Proofs.YtedmdeifjmconaaDoor.Sca
