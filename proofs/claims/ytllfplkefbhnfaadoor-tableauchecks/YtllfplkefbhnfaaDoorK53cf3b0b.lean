import Derived.Test.YtllfplkefbhnfaaDoorK0721b847
import Derived.Test.YtllfplkefbhnfaaDoorProg
import Derived.WalkSpells
import Derived.WalkLawsBesides
import Derived.BigQuiet
set_option maxRecDepth 100000
set_option maxHeartbeats 1000000
namespace Go.Proofs.YtllfplkefbhnfaaDoor.Pau
open Go.RowKit
theorem wrapU (x : Int) : IntKind.u64.wrap x = x % 18446744073709551616 := by simp [IntKind.wrap, IntKind.bits, IntKind.signed]
theorem wrapI (x : Int) : IntKind.i64.wrap x = (x + 9223372036854775808) % 18446744073709551616 - 9223372036854775808 := by rw [IntKind.wrap_i64]
theorem andN (a b : Nat) (ha : a < 18446744073709551616) (hb : b < 18446744073709551616) : bits .and .u64 (a : Int) (b : Int) = ((a &&& b : Nat) : Int) := u64_and_nat a b ha hb
theorem and_lt (a m : Nat) (hm : m < 18446744073709551616) : a &&& m < 18446744073709551616 := Nat.lt_of_le_of_lt Nat.and_le_right hm
theorem step1 (x : Nat) (hx : x < 18446744073709551616) : IntKind.u64.wrap (bits .and .u64 ((x : Int) / 2) 6148914691236517205 + bits .and .u64 (x : Int) 6148914691236517205) = ((f1 8 x : Nat) : Int) := by
  have a1 := andN (x / 2) 6148914691236517205 (by omega) (by decide)
  have a2 := andN x 6148914691236517205 hx (by decide)
  rw [show ((x / 2 : Nat) : Int) = (x : Int) / 2 by omega] at a1
  rw [show ((6148914691236517205 : Nat) : Int) = 6148914691236517205 from rfl] at a1 a2
  rw [a1, a2, wrapU]
  have b1 : x / 2 &&& 6148914691236517205 <= 6148914691236517205 := Nat.and_le_right
  have b2 : x &&& 6148914691236517205 <= 6148914691236517205 := Nat.and_le_right
  unfold f1
  rw [show Mk8 85 8 = 6148914691236517205 by decide]
  omega
theorem step2 (x : Nat) (hx : x < 18446744073709551616) : IntKind.u64.wrap (bits .and .u64 ((x : Int) / 4) 3689348814741910323 + bits .and .u64 (x : Int) 3689348814741910323) = ((f2 8 x : Nat) : Int) := by
  have a1 := andN (x / 4) 3689348814741910323 (by omega) (by decide)
  have a2 := andN x 3689348814741910323 hx (by decide)
  rw [show ((x / 4 : Nat) : Int) = (x : Int) / 4 by omega] at a1
  rw [show ((3689348814741910323 : Nat) : Int) = 3689348814741910323 from rfl] at a1 a2
  rw [a1, a2, wrapU]
  have b1 : x / 4 &&& 3689348814741910323 <= 3689348814741910323 := Nat.and_le_right
  have b2 : x &&& 3689348814741910323 <= 3689348814741910323 := Nat.and_le_right
  unfold f2
  rw [show Mk8 51 8 = 3689348814741910323 by decide]
  omega
theorem step3 (x : Nat) (hx : x < 9223372036854775808) : bits .and .u64 (IntKind.u64.wrap ((x : Int) / 16 + (x : Int))) 1085102592571150095 = ((f3 8 x : Nat) : Int) := by
  have a1 := andN (x / 16 + x) 1085102592571150095 (by omega) (by decide)
  rw [show ((1085102592571150095 : Nat) : Int) = 1085102592571150095 from rfl] at a1
  rw [wrapU, show ((x : Int) / 16 + (x : Int)) % 18446744073709551616 = ((x / 16 + x : Nat) : Int) by omega, a1]
  unfold f3
  rw [show Mk8 15 8 = 1085102592571150095 by decide]
theorem step7 (v : Nat) (h : v < 9223372036854775808) : bits .and .i64 (v : Int) 127 = ((v % 128 : Nat) : Int) := by
  show IntKind.i64.wrap ((BitVec.ofInt 64 (v : Int) &&& BitVec.ofInt 64 127).toNat : Int) = _
  rw [BitVec.toNat_and, BitVec.ofInt_natCast, BitVec.toNat_ofNat, Nat.mod_eq_of_lt (by omega), show (BitVec.ofInt 64 127).toNat = 2 ^ 7 - 1 from rfl, Nat.and_two_pow_sub_one_eq_mod, wrapI]
  omega
theorem f_lt (x : Nat) : f1 8 x < 12297829382473034411 /\ f2 8 (f1 8 x) < 9223372036854775808 := by
  have b1 : x / 2 &&& 6148914691236517205 <= 6148914691236517205 := Nat.and_le_right
  have b2 : x &&& 6148914691236517205 <= 6148914691236517205 := Nat.and_le_right
  have b3 : f1 8 x / 4 &&& 3689348814741910323 <= 3689348814741910323 := Nat.and_le_right
  have b4 : f1 8 x &&& 3689348814741910323 <= 3689348814741910323 := Nat.and_le_right
  refine ⟨?_, ?_⟩
  . unfold f1
    rw [show Mk8 85 8 = 6148914691236517205 by decide]
    omega
  . unfold f2
    rw [show Mk8 51 8 = 3689348814741910323 by decide]
    omega
theorem bOnes (x : Nat) (hx : x < 18446744073709551616) (w : World) : Calls Tryd.prog 52 #[.int .u64 (x : Int)] w fun e w' => e = .returned (.int .i64 (pc x : Int)) /\ w' = w := by
  have e1 := step1 x hx
  have l := f_lt x
  have e2 := step2 (f1 8 x) (by omega)
  have e3 := step3 (f2 8 (f1 8 x)) l.2
  rw [f321] at e3
  obtain ⟨y, z, v, h4, h5, h6, h7, l1, l2, l3, l4⟩ := sum8 x
  generalize R8 8 x = r at *
  generalize f2 8 (f1 8 x) = q at *
  generalize f1 8 x = p at *
  have e4 : IntKind.u64.wrap ((r : Int) + (r : Int) / 256) = (y : Int) := by rw [wrapU]; omega
  have e5 : IntKind.u64.wrap ((y : Int) + (y : Int) / 65536) = (z : Int) := by rw [wrapU]; omega
  have e6 : IntKind.u64.wrap ((z : Int) + (z : Int) / 4294967296) = (v : Int) := by rw [wrapU]; omega
  have e7 := step7 v (by omega)
  have ew : wrap64 (v : Int) = (v : Int) := by unfold wrap64; omega
  rw [h7] at e7
  clear h4 h5 h6 h7 l l1 l2 l3 l4 hx
  generalize pc x = m at *
  go_enter Tryd.func52, Tryd.ntmps52
  go_wp2_with fail
  go_ret
  exact ⟨rfl, rfl⟩
structure P where
  n : Int
  x : Nat
  z : Nat
  ph : Int
def pV (p : P) : Value := .agg #[.int .i64 p.n, .int .u64 (p.x : Int), .int .u64 (p.z : Int), .int .i64 p.ph]
end Go.Proofs.YtllfplkefbhnfaaDoor.Pau
