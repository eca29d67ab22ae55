/- Looks and order: the two packages' functions on one or two floats, as they are walked. -/
import Derived.Test.YtnhdgellckcnbaaDoorProg
import Derived.Test.YtnhdgellckcnbaaDoorSf
namespace Go.Proofs.YtnhdgellckcnbaaDoor.Sca
open Go.RowKit

theorem bits64_run (b : Nat) (w : World) : (callFunc 77 #[.float .f64 b]).run Tryd.prog w = .ok (.value (.int .u64 (b : Int))) w := by kernel_rfl
/-- The bits that stand for a float: of every NaN those of one. -/
def can (b : Nat) : Nat := if 9218868437227405312 < mg b then 9221120237041090561 else b
theorem can_lt {b : Nat} (h : b < 18446744073709551616) : can b < 18446744073709551616 := by unfold can; split <;> omega

/-- The class of bits. -/
def clsOf (b : Nat) : Nat := if 9218868437227405312 < mg b then 1 else if mg b = 9218868437227405312 then 2 else if mg b = 0 then 3 else if mg b < 4503599627370496 then 4 else 5
theorem mg_can (b : Nat) (h : 9218868437227405312 < mg b) : mg (can b) = 9221120237041090561 := by unfold can; rw [if_pos h]; decide +kernel
theorem can_num (b : Nat) (h : ¬ 9218868437227405312 < mg b) : can b = b := by unfold can; rw [if_neg h]
theorem beq_cast (a b : Nat) : ((a : Int) == (b : Int)) = (a == b) := by
  rw [Bool.eq_iff_iff]; simp only [beq_iff_eq]; omega
/-- Where a float stands in the order. -/
def rk (b : Nat) : Nat := if b < 9223372036854775808 then b + 9223372036854775808 else 18446744073709551615 - b
theorem rk_lt {b : Nat} (h : b < 18446744073709551616) : rk b < 18446744073709551616 := by unfold rk; split <;> omega
def unrk (r : Nat) : Nat := if r < 9223372036854775808 then 18446744073709551615 - r else r - 9223372036854775808
theorem unrk_lt {r : Nat} (h : r < 18446744073709551616) : unrk r < 18446744073709551616 := by unfold unrk; split <;> omega
theorem not_run (c : Nat) (h : c < 18446744073709551616) : bits .xor .u64 IntKind.u64.max (c : Int) = ((18446744073709551615 - c : Nat) : Int) := by
  rw [show IntKind.u64.max = ((18446744073709551615 : Nat) : Int) from rfl, u64_xor_nat 18446744073709551615 c (by decide) h, Nat.xor_comm]
  congr 1
  have e := congrArg BitVec.toNat (BitVec.xor_allOnes (x := BitVec.ofNat 64 c))
  rw [BitVec.toNat_xor, BitVec.toNat_not, BitVec.toNat_ofNat, BitVec.toNat_allOnes, Nat.mod_eq_of_lt (by omega)] at e
  exact e
end Go.Proofs.YtnhdgellckcnbaaDoor.Sca
