/- What a float's bits read as; halves and doubles: plain facts. -/
import Derived.Test.YtedmdeifjmconaaDoorSf
import Derived.Test.YtedmdeifjmconaaDoorSn
namespace Go.Proofs.YtedmdeifjmconaaDoor.Sca

/-- The magnitude's whole number, and its exponent of two. -/
def mOf (b : Nat) : Nat := if mg b < 4503599627370496 then mg b else 4503599627370496 + mg b % 4503599627370496
def pOf (b : Nat) : Int := -1074 + ((mg b / 4503599627370496 - 1 : Nat) : Int)
theorem mOf_lt (b : Nat) : mOf b < 9007199254740992 := by unfold mOf; split <;> omega
/-- Has it its sign bit set? -/
def neg (b : Nat) : Bool := b / 9223372036854775808 % 2 == 1
theorem read_num (b : Nat) (h : mg b < 9218868437227405312) : dbl.read b = .number (neg b) (mOf b) (pOf b) := by
  unfold Ieee.Format.read
  rw [dbl_sw, dbl_ir, dbl_bi, dbl_lp]
  unfold mOf pOf neg
  dsimp only
  have hm : mg b = b % 9223372036854775808 := rfl
  rw [← hm]
  by_cases h1 : mg b < 4503599627370496
  · rw [if_pos h1, if_pos h1, show mg b / 4503599627370496 - 1 = 0 from by omega]
    rfl
  · rw [if_neg h1, if_neg h1, if_pos h]
theorem read_inf (b : Nat) (h : mg b = 9218868437227405312) : dbl.read b = .infinity (neg b) := by
  unfold Ieee.Format.read
  rw [dbl_sw, dbl_ir, dbl_bi, dbl_lp]
  unfold neg
  dsimp only
  have hm : mg b = b % 9223372036854775808 := rfl
  rw [← hm, if_neg (by omega), if_neg (by omega), if_pos h]
theorem read_nan (b : Nat) (h : 9218868437227405312 < mg b) : ∃ t, dbl.read b = .nan (neg b) t := by
  unfold Ieee.Format.read
  rw [dbl_sw, dbl_ir, dbl_bi, dbl_lp]
  unfold neg
  dsimp only
  have hm : mg b = b % 9223372036854775808 := rfl
  rw [← hm, if_neg (by omega), if_neg (by omega), if_neg (by omega)]
  exact ⟨_, rfl⟩
theorem word_neg (b r : Nat) (h : b < 18446744073709551616) : dbl.word (neg b) r = sb b + r := by
  unfold Ieee.Format.word neg sb
  rw [dbl_sw]
  by_cases c : b < 9223372036854775808
  · rw [show b / 9223372036854775808 = 0 from by omega]
    simp
  · rw [show b / 9223372036854775808 = 1 from by omega]
    simp
theorem sb_eq (b : Nat) (h : b < 18446744073709551616) : sb b = 0 ∨ sb b = 9223372036854775808 := by unfold sb; omega
theorem mg_add (b r : Nat) (h : r < 9223372036854775808) : mg (sb b + r) = r := by unfold mg sb; omega
theorem sb_add (b r : Nat) (h : r < 9223372036854775808) : sb (sb b + r) = sb b := by unfold sb; omega
theorem neg_add (b r : Nat) (h : r < 9223372036854775808) : neg (sb b + r) = neg b := by
  unfold neg sb
  rw [show (b / 9223372036854775808 * 9223372036854775808 + r) / 9223372036854775808 = b / 9223372036854775808 from by omega]

theorem rung_le (m : Nat) (p : Int) : rung m p ≤ 9218868437227405312 := by
  unfold rung
  split
  · omega
  · exact Nat.min_le_right _ _
/-- A full number of 53 bits. -/
theorem rung_normal (m : Nat) (p : Int) (h1 : 4503599627370496 ≤ m) (h2 : m < 9007199254740992) (hp : -1074 ≤ p) : rung m p = min ((p + 1074).toNat * 4503599627370496 + m) 9218868437227405312 := by
  have hl : m.log2 = 52 := (Nat.log2_eq_iff (by omega)).2 ⟨h1, h2⟩
  have hL : lastP m p = p := by unfold lastP; omega
  unfold rung
  rw [if_neg (by omega), hL, show (p - p).toNat = 0 from by omega, rhe_zero, Nat.pow_zero, Nat.mul_one]
theorem log2_le {m k : Nat} (h : m < 2 ^ (k + 1)) : m.log2 ≤ k := by
  by_cases h0 : m = 0
  · subst h0; exact Nat.zero_le _
  · have := (Nat.log2_lt h0).2 h
    omega
theorem rung_least (m : Nat) (h : m < 9007199254740992) : rung m (-1074) = m := by
  have hl : m.log2 ≤ 52 := log2_le h
  have hL : lastP m (-1074) = -1074 := by unfold lastP; omega
  unfold rung
  by_cases h0 : m = 0
  · rw [if_pos h0, h0]
  · rw [if_neg h0, hL]
    simp only [Int.sub_self, Int.toNat_zero, Nat.pow_zero, Nat.mul_one, rhe_zero]
    show min ((-1074 + 1074 : Int).toNat * 4503599627370496 + m) _ = m
    rw [show (-1074 + 1074 : Int).toNat = 0 from rfl]
    omega
/-- What a finite float reads as is written as itself. -/
theorem rung_read (b : Nat) (h : mg b < 9218868437227405312) : rung (mOf b) (pOf b) = mg b := by
  unfold mOf pOf
  by_cases h1 : mg b < 4503599627370496
  · rw [if_pos h1, show mg b / 4503599627370496 - 1 = 0 from by omega]
    exact rung_least _ (by omega)
  · rw [if_neg h1, rung_normal _ _ (by omega) (by omega) (by omega)]
    rw [show (-1074 + ((mg b / 4503599627370496 - 1 : Nat) : Int) + 1074).toNat = mg b / 4503599627370496 - 1 from by omega]
    omega
def two : Nat := 4611686018427387904
theorem read_two : dbl.read two = .number false 4503599627370496 (-51) := by decide +kernel

/-- The half of what reads as m, p. -/
def half (b : Nat) : Nat := sb b + rung (mOf b) (pOf b - 1)
theorem div_two (b : Nat) (hb : b < 18446744073709551616) (h : mg b < 9218868437227405312) : floatBits .quo .f64 b two = some (half b) := by
  show Ieee.Format.div dbl b two = _
  unfold Ieee.Format.div half
  rw [read_num b h, read_two]
  unfold Ieee.Datum.quotient
  simp only [dbl_fb, show ¬ (4503599627370496 = 0) from by decide, if_false, Option.map_some]
  have hl : (4503599627370496 : Nat).log2 = 52 := (Nat.log2_eq_iff (by decide)).2 ⟨by decide, by decide⟩
  rw [hl]
  have hm := mOf_lt b
  have hm2 : (mOf b).log2 ≤ 52 := log2_le hm
  generalize hk : 52 + 2 + 52 - (mOf b).log2 = k
  have hk1 : 54 ≤ k := by omega
  have hd : mOf b <<< k = mOf b * 2 ^ (k - 52) * 4503599627370496 := by
    rw [Nat.shiftLeft_eq, Nat.mul_assoc, show (4503599627370496 : Nat) = 2 ^ 52 from rfl, ← Nat.pow_add, show k - 52 + 52 = k from by omega]
  rw [hd, Nat.mul_div_cancel _ (by decide), Nat.mul_mod_left]
  have e2 : 2 * (mOf b * 2 ^ (k - 52)) + ((0 : Nat) != 0).toNat = mOf b * 2 ^ (k - 51) := by
    rw [show k - 51 = k - 52 + 1 from by omega, Nat.pow_succ]
    simp only [bne_self_eq_false, Bool.toNat_false, Nat.add_zero]
    rw [Nat.mul_comm 2, Nat.mul_assoc]
  rw [e2]
  unfold Ieee.Format.write
  rw [Bool.xor_false]
  show some (dbl.nearest (neg b) (mOf b * 2 ^ (k - 51)) (pOf b - -51 - k - 1)) = _
  rw [nearest_eq, word_neg b _ hb, show pOf b - -51 - (k : Int) - 1 = (pOf b - 1) - ((k - 51 : Nat) : Int) from by omega, rung_scale]
theorem mul_two (b : Nat) (hb : b < 18446744073709551616) (h : mg b < 9218868437227405312) : floatBits .mul .f64 b two = some (sb b + rung (mOf b) (pOf b + 1)) := by
  show Ieee.Format.mul dbl b two = _
  unfold Ieee.Format.mul
  rw [read_num b h, read_two]
  unfold Ieee.Datum.product
  simp only [Option.map_some]
  unfold Ieee.Format.write
  rw [Bool.xor_false]
  show some (dbl.nearest (neg b) (mOf b * 2 ^ 52) (pOf b + -51)) = _
  rw [nearest_eq, word_neg b _ hb, show pOf b + -51 = (pOf b + 1) - ((52 : Nat) : Int) from by omega, rung_scale]
theorem div_inf (b : Nat) (hb : b < 18446744073709551616) (h : mg b = 9218868437227405312) : floatBits .quo .f64 b two = some b := by
  show Ieee.Format.div dbl b two = _
  unfold Ieee.Format.div
  rw [read_inf b h, read_two]
  simp only [Ieee.Datum.quotient, Option.map_some, Ieee.Format.write, Bool.xor_false]
  rw [word_neg b _ hb, dbl_ir, ← h, ← mg_sb]
theorem mul_inf (b : Nat) (hb : b < 18446744073709551616) (h : mg b = 9218868437227405312) : floatBits .mul .f64 b two = some b := by
  show Ieee.Format.mul dbl b two = _
  unfold Ieee.Format.mul
  rw [read_inf b h, read_two]
  simp only [Ieee.Datum.product, show ¬ (4503599627370496 = 0) from by decide, if_false, Option.map_some, Ieee.Format.write, Bool.xor_false]
  rw [word_neg b _ hb, dbl_ir, ← h, ← mg_sb]
theorem div_nan (b y : Nat) (h : 9218868437227405312 < mg b) : floatBits .quo .f64 b y = none := by
  obtain ⟨t, e⟩ := read_nan b h
  show Ieee.Format.div dbl b y = _
  unfold Ieee.Format.div
  rw [e]
  cases dbl.read y <;> rfl
theorem mul_nan (b y : Nat) (h : 9218868437227405312 < mg b) : floatBits .mul .f64 b y = none := by
  obtain ⟨t, e⟩ := read_nan b h
  show Ieee.Format.mul dbl b y = _
  unfold Ieee.Format.mul
  rw [e]
  cases dbl.read y <;> rfl
theorem add_nan (b y : Nat) (h : 9218868437227405312 < mg b) : floatBits .add .f64 b y = none := by
  obtain ⟨t, e⟩ := read_nan b h
  show Ieee.Format.add dbl b y = _
  unfold Ieee.Format.add
  rw [e]
  cases dbl.read y <;> rfl

/-- Where it is a step or more above the least place, the half is exact. -/
theorem twice_normal (b : Nat) (h : mg b < 9218868437227405312) (hp : -1074 < pOf b) : rung (mOf (half b)) (pOf (half b) + 1) = mg b := by
  have hq : 2 ≤ mg b / 4503599627370496 := by unfold pOf at hp; omega
  have hm : mOf b = 4503599627370496 + mg b % 4503599627370496 := by unfold mOf; rw [if_neg (by omega)]
  have hpo : pOf b = -1074 + ((mg b / 4503599627370496 - 1 : Nat) : Int) := rfl
  have hr : rung (mOf b) (pOf b - 1) = mg b - 4503599627370496 := by
    rw [rung_normal _ _ (by omega) (by omega) (by omega), hm, show (pOf b - 1 + 1074).toNat = mg b / 4503599627370496 - 2 from by omega]
    omega
  have hh : mg (half b) = mg b - 4503599627370496 := by unfold half; rw [hr, mg_add _ _ (by omega)]
  have hmh : mOf (half b) = mOf b := by
    unfold mOf
    rw [hh, if_neg (by omega), if_neg (by omega)]
    omega
  have hph : pOf (half b) + 1 = pOf b := by
    unfold pOf
    rw [hh]
    omega
  rw [hmh, hph]
  exact rung_read b h
theorem rhe_one (m : Nat) : rhe m 1 = m / 2 + if m % 4 = 3 then 1 else 0 := by
  unfold rhe
  rw [Nat.pow_one]
  congr 1
  by_cases h : m % 4 = 3
  · rw [if_pos h, if_pos (Or.inr ⟨by omega, by omega⟩)]
  · rw [if_neg h, if_neg (by omega)]
theorem twice_least (b : Nat) (hp : pOf b = -1074) : rung (mOf (half b)) (pOf (half b) + 1) = 2 * rhe (mg b) 1 ∧ mOf b = mg b := by
  have hq : mg b / 4503599627370496 ≤ 1 := by unfold pOf at hp; omega
  have hm : mOf b = mg b := by unfold mOf; split <;> omega
  have hl : (mg b).log2 ≤ 52 := log2_le (by omega)
  refine ⟨?_, hm⟩
  have hr : rung (mOf b) (pOf b - 1) = rhe (mg b) 1 := by
    rw [hp, hm]
    unfold rung
    by_cases h0 : mg b = 0
    · rw [if_pos h0, h0]; rfl
    · rw [if_neg h0]
      have hL : lastP (mg b) (-1074 - 1) = -1074 := by unfold lastP; omega
      rw [hL, show (-1074 - 1 - -1074 : Int).toNat = 0 from rfl, show (-1074 - (-1074 - 1) : Int).toNat = 1 from rfl, show (-1074 + 1074 : Int).toNat = 0 from rfl, Nat.pow_zero, Nat.mul_one]
      have := rhe_one (mg b)
      split at this <;> omega
  have hb : rhe (mg b) 1 ≤ 4503599627370496 := by
    rw [rhe_one]
    split <;> omega
  generalize rhe (mg b) 1 = r at *
  have hh : mg (half b) = r := by unfold half; rw [hr, mg_add _ _ (by omega)]
  have hmh : mOf (half b) = r := by
    unfold mOf
    rw [hh]
    split <;> omega
  have hph : pOf (half b) + 1 = -1073 := by
    unfold pOf
    rw [hh]
    omega
  rw [hmh, hph]
  by_cases c : r = 4503599627370496
  · rw [rung_normal _ _ (by omega) (by omega) (by omega), c]
    rfl
  · have := rung_scale r 1 (-1073)
    rw [← this]
    show rung (r * 2 ^ 1) (-1073 - 1) = _
    rw [show (-1073 - 1 : Int) = -1074 from rfl, rung_least _ (by omega), Nat.pow_one, Nat.mul_comm]
end Go.Proofs.YtedmdeifjmconaaDoor.Sca
