/- Split, as it is walked. -/
import Derived.Test.YthpkmbgollollabDoorSd
import Derived.Test.YthpkmbgollollabDoorSShelf
namespace Go.Proofs.YthpkmbgollollabDoor.Sca
open Go.RowKit Go.Lib Go.Shelf

/-- The table that TrailingZeros64 reads lies as the library's text lays it. -/
def Tz (w : World) : Prop := TabAt 0 Lib.deBruijn64tab w
theorem Tz.below {w w' : World} (h : Tz w) (hb : Below w.heap.size w w') : Tz w' := fun j hj =>
  (hb.cell (World.block_lt_of_cell? w _ (h j hj))).trans (h j hj)
theorem tz64 (x : Nat) (hx : x < 18446744073709551616) (w : World) (h : Tz w) :
    Calls Tryd.prog 41 #[.int .u64 (x : Int)] w fun e w' => e = .returned (.int .i64 (Lib.ctz 64 x)) ∧ w' = w :=
  Any7.bits_TrailingZeros64 Tryd.laysTz x hx w (fun _ => h)
theorem bitLenAux_eq : ∀ (f x : Nat), x < 2 ^ f → Lib.bitLenAux f x = bl x
  | 0, x, h => by
    rw [show x = 0 from by simp at h; exact h]
    rfl
  | f + 1, x, h => by
    unfold Lib.bitLenAux
    by_cases h0 : x = 0
    · rw [if_pos h0, h0]; rfl
    · rw [if_neg h0, bitLenAux_eq f (x / 2) (by rw [Nat.pow_succ] at h; omega), ← bl_half h0, Nat.add_comm]
theorem bitLen_eq (x : Nat) (h : x < 18446744073709551616) : Lib.bitLen x = bl x := bitLenAux_eq 64 x (show x < 2 ^ 64 from h)
theorem len64 (x : Nat) (hx : x < 18446744073709551616) (w : World) :
    Calls Tryd.prog 40 #[.int .u64 (x : Int)] w fun e w' => e = .returned (.int .i64 (bl x : Int)) ∧ w' = w := by
  have h := Any.bits_Len64 Tryd.laysLen (x : Int) w (by omega) (by omega)
  rw [Int.toNat_natCast, bitLen_eq x hx] at h
  exact h

/-- How often two goes into it; what is left. -/
def tz (m : Nat) : Nat := Lib.ctz 64 m
theorem tz_spec (m : Nat) (h0 : m ≠ 0) (h : m < 18446744073709551616) : (∃ k, m = 2 ^ tz m * (2 * k + 1)) ∧ tz m < 64 := by
  unfold tz Lib.ctz
  rw [if_neg h0]
  obtain ⟨k, h1, h2⟩ := ctzFrom_spec 64 m (by omega) (show m < 2 ^ 64 from h)
  exact ⟨⟨k, h1⟩, h2⟩
def odd (m : Nat) : Nat := m / 2 ^ tz m
theorem odd_mul (m : Nat) (h0 : m ≠ 0) (h : m < 18446744073709551616) : odd m * 2 ^ tz m = m ∧ odd m % 2 = 1 := by
  obtain ⟨⟨k, hk⟩, _⟩ := tz_spec m h0 h
  have hp := Nat.two_pow_pos (tz m)
  have e : odd m = 2 * k + 1 := by
    unfold odd
    generalize 2 ^ tz m = z at *
    rw [hk, Nat.mul_div_cancel_left _ hp]
  rw [e]
  exact ⟨by rw [Nat.mul_comm]; exact hk.symm, by omega⟩
theorem odd_le (m : Nat) : odd m ≤ m := Nat.div_le_self _ _

/-- What Split answers of a finite float. -/
def spM (b : Nat) : Int := if mg b = 0 then 0 else if sb b = 0 then (odd (mOf b) : Int) else -(odd (mOf b) : Int)
def spE (b : Nat) : Int := if mg b = 0 then 0 else pOf b + (tz (mOf b) : Int)
def spF (b : Nat) : Int := if mg b < 9218868437227405312 then 0 else 20

theorem and_frac (b : Nat) (h : b < 18446744073709551616) : bits .and .u64 (b : Int) 4503599627370495 = ((b % 4503599627370496 : Nat) : Int) := by
  rw [show (4503599627370495 : Int) = ((4503599627370495 : Nat) : Int) from rfl, u64_and_nat b 4503599627370495 h (by decide)]
  congr 1
  exact Nat.and_two_pow_sub_one_eq_mod b 52

theorem i64_or_nat (a b : Nat) (ha : a < 9223372036854775808) (hb : b < 9223372036854775808) : bits .or .i64 (a : Int) (b : Int) = ((a ||| b : Nat) : Int) := by
  have hx : a ||| b < 2 ^ 63 := Nat.or_lt_two_pow (by omega) (by omega)
  show IntKind.i64.wrap ((BitVec.ofInt 64 (a : Int) ||| BitVec.ofInt 64 (b : Int)).toNat : Int) = _
  rw [BitVec.toNat_or, BitVec.ofInt_natCast, BitVec.ofInt_natCast, BitVec.toNat_ofNat, BitVec.toNat_ofNat, Nat.mod_eq_of_lt (by omega), Nat.mod_eq_of_lt (by omega)]
  generalize a ||| b = z at *
  simp [IntKind.wrap, IntKind.bits, IntKind.signed]
  omega
theorem or_hidden (d : Nat) (h : d < 4503599627370496) : bits .or .i64 (d : Int) 4503599627370496 = ((d + 4503599627370496 : Nat) : Int) := by
  rw [show (4503599627370496 : Int) = ((4503599627370496 : Nat) : Int) from rfl, i64_or_nat d 4503599627370496 (by omega) (by decide)]
  congr 1
  have e := Nat.two_pow_add_eq_or_of_lt (i := 52) (b := d) h 1
  rw [Nat.mul_one] at e
  rw [Nat.or_comm, show (4503599627370496 : Nat) = 2 ^ 52 from rfl, ← e, Nat.add_comm]
theorem sSplit_bad (b : Nat) (hb : b < 18446744073709551616) (h : ¬ mg b < 9218868437227405312) (w : World) :
    Calls Tryd.prog 42 #[.float .f64 b] w fun e w' => e = .returned (.tuple #[.int .i64 0, .int .i64 0, .int .i64 20]) ∧ w' = w := by
  have cB := fun w => sBits b w
  have cC := fun w => sClass b hb w
  have hA := and_frac (can b) (can_lt hb)
  have hmod : can b % 4503599627370496 < 4503599627370496 := Nat.mod_lt _ (by decide)
  by_cases h1 : 9218868437227405312 < mg b
  · rw [show clsOf b = 1 from by unfold clsOf; rw [if_pos h1]] at cC
    generalize can b = c at *
    generalize c % 4503599627370496 = d at *
    clear h h1
    go_enter Tryd.func42, Tryd.ntmps42
    go_wp2_with (first | (go_at_call 50; refine (cB _).mono ?_; rintro e w' ⟨rfl, rfl⟩) | (go_at_call 51; refine (cC _).mono ?_; rintro e w' ⟨rfl, rfl⟩))
    go_ret3
    exact ⟨rfl, rfl⟩
  · rw [show clsOf b = 2 from by unfold clsOf; rw [if_neg h1, if_pos (by omega)]] at cC
    generalize can b = c at *
    generalize c % 4503599627370496 = d at *
    clear h h1
    go_enter Tryd.func42, Tryd.ntmps42
    go_wp2_with (first | (go_at_call 50; refine (cB _).mono ?_; rintro e w' ⟨rfl, rfl⟩) | (go_at_call 51; refine (cC _).mono ?_; rintro e w' ⟨rfl, rfl⟩))
    go_ret3
    exact ⟨rfl, rfl⟩
theorem sSplit_zero (b : Nat) (hb : b < 18446744073709551616) (h : mg b = 0) (w : World) :
    Calls Tryd.prog 42 #[.float .f64 b] w fun e w' => e = .returned (.tuple #[.int .i64 0, .int .i64 0, .int .i64 0]) ∧ w' = w := by
  have cB := fun w => sBits b w
  have cC := fun w => sClass b hb w
  have hA := and_frac (can b) (can_lt hb)
  have hmod : can b % 4503599627370496 < 4503599627370496 := Nat.mod_lt _ (by decide)
  rw [show clsOf b = 3 from by unfold clsOf; rw [if_neg (by omega), if_neg (by omega), if_pos h]] at cC
  generalize can b = c at *
  generalize c % 4503599627370496 = d at *
  clear h
  go_enter Tryd.func42, Tryd.ntmps42
  go_wp2_with (first | (go_at_call 50; refine (cB _).mono ?_; rintro e w' ⟨rfl, rfl⟩) | (go_at_call 51; refine (cC _).mono ?_; rintro e w' ⟨rfl, rfl⟩))
  go_ret3
  exact ⟨rfl, rfl⟩
theorem sSplit_num (b : Nat) (hb : b < 18446744073709551616) (h : mg b < 9218868437227405312) (h0 : mg b ≠ 0) (w : World) (hT : Tz w) :
    Calls Tryd.prog 42 #[.float .f64 b] w fun e w' => e = .returned (.tuple #[.int .i64 (spM b), .int .i64 (spE b), .int .i64 0]) ∧ w' = w := by
  have cB := fun w => sBits b w
  have cC := fun w => sClass b hb w
  have cS := fun w => sSigned b hb w
  have hcan := can_num b (by omega)
  have hA := and_frac (can b) (can_lt hb)
  rw [hcan] at cB hA cS
  have hmod : b % 4503599627370496 = mg b % 4503599627370496 := by unfold mg; omega
  have hmg : bits .andNot .u64 (b : Int) 9223372036854775808 = (mg b : Int) := andNot_sign b hb
  have hm53 := mOf_lt b
  have hm0 : mOf b ≠ 0 := fun e => h0 ((mOf_zero b).1 e)
  have hz64 := (tz_spec (mOf b) hm0 (by omega)).2
  have hod : spM b = if decide (sb b ≠ 0) then -(odd (mOf b) : Int) else (odd (mOf b) : Int) := by
    unfold spM
    rw [if_neg h0]
    by_cases c : sb b = 0
    · rw [if_pos c, decide_eq_false (by simp [c])]; rfl
    · rw [if_neg c, decide_eq_true c]; rfl
  have hE : spE b = pOf b + (tz (mOf b) : Int) := by unfold spE; rw [if_neg h0]
  have hov := odd_le (mOf b)
  have cT := fun w (h : Tz w) => tz64 (mOf b) (by omega) w h
  have hsh : ((mOf b : Nat) : Int) / 2 ^ (tz (mOf b)) = (odd (mOf b) : Int) := by unfold odd; rw [Int.natCast_ediv, Int.natCast_pow]; rfl
  have hpr : -1074 ≤ pOf b ∧ pOf b ≤ 971 := ⟨pOf_ge b, by unfold pOf; omega⟩
  rw [hod, hE]
  by_cases h1 : mg b < 4503599627370496
  · rw [show clsOf b = 4 from by unfold clsOf; rw [if_neg (by omega), if_neg (by omega), if_neg h0, if_pos h1]] at cC
    rw [hmod, Nat.mod_eq_of_lt h1, show mg b = mOf b from by unfold mOf; rw [if_pos h1]] at hA
    rw [show pOf b = -1074 from by unfold pOf; omega]
    clear hod hE hmod hmg h0 h hcan h1 hpr
    change ∀ w, Tz w → Calls Tryd.prog 41 #[.int .u64 (mOf b : Int)] w fun e w' => e = .returned (.int .i64 (tz (mOf b) : Int)) ∧ w' = w at cT
    generalize tz (mOf b) = t at *
    generalize odd (mOf b) = o at *
    generalize mOf b = m at *
    cases hsg : decide (sb b ≠ 0)
    · rw [hsg] at cS
      go_enter Tryd.func42, Tryd.ntmps42
      go_wp2_with (first | (go_at_call 50; refine (cB _).mono ?_; rintro e w' ⟨rfl, rfl⟩) | (go_at_call 51; refine (cC _).mono ?_; rintro e w' ⟨rfl, rfl⟩))
      refine (cT _ hT).mono ?_
      rintro e w' ⟨rfl, rfl⟩
      go_wp2_with (go_at_call 52; refine (cS _).mono ?_; rintro e w' ⟨rfl, rfl⟩)
      go_ret3
      exact ⟨rfl, rfl⟩
    · rw [hsg] at cS
      go_enter Tryd.func42, Tryd.ntmps42
      go_wp2_with (first | (go_at_call 50; refine (cB _).mono ?_; rintro e w' ⟨rfl, rfl⟩) | (go_at_call 51; refine (cC _).mono ?_; rintro e w' ⟨rfl, rfl⟩))
      refine (cT _ hT).mono ?_
      rintro e w' ⟨rfl, rfl⟩
      go_wp2_with (go_at_call 52; refine (cS _).mono ?_; rintro e w' ⟨rfl, rfl⟩)
      go_ret3
      exact ⟨rfl, rfl⟩
  · rw [show clsOf b = 5 from by unfold clsOf; rw [if_neg (by omega), if_neg (by omega), if_neg h0, if_neg h1]] at cC
    rw [hmod] at hA
    obtain ⟨d, hd⟩ : ∃ d, mg b % 4503599627370496 = d := ⟨_, rfl⟩
    obtain ⟨k, hk⟩ : ∃ k, mg b / 4503599627370496 = k := ⟨_, rfl⟩
    have hm : mOf b = d + 4503599627370496 := by unfold mOf; rw [if_neg h1]; omega
    have hd52 : d < 4503599627370496 := by omega
    have hor := or_hidden d hd52
    rw [hd] at hA
    have hkz : (mg b : Int) / 4503599627370496 = (k : Int) := by omega
    have hk1 : 1 ≤ k ∧ k ≤ 2046 := by omega
    have hp : pOf b = -1074 + ((k : Int) - 1) := by unfold pOf; omega
    rw [← hm] at hor
    rw [hp]
    clear hod hE hmod h0 h hcan h1 hpr hd hk hm hp
    change ∀ w, Tz w → Calls Tryd.prog 41 #[.int .u64 (mOf b : Int)] w fun e w' => e = .returned (.int .i64 (tz (mOf b) : Int)) ∧ w' = w at cT
    generalize tz (mOf b) = t at *
    generalize odd (mOf b) = o at *
    generalize mOf b = m at *
    generalize mg b = g at *
    cases hsg : decide (sb b ≠ 0)
    · rw [hsg] at cS
      go_enter Tryd.func42, Tryd.ntmps42
      go_wp2_with (first | (go_at_call 50; refine (cB _).mono ?_; rintro e w' ⟨rfl, rfl⟩) | (go_at_call 51; refine (cC _).mono ?_; rintro e w' ⟨rfl, rfl⟩))
      refine (cT _ hT).mono ?_
      rintro e w' ⟨rfl, rfl⟩
      go_wp2_with (go_at_call 52; refine (cS _).mono ?_; rintro e w' ⟨rfl, rfl⟩)
      go_ret3
      exact ⟨rfl, rfl⟩
    · rw [hsg] at cS
      go_enter Tryd.func42, Tryd.ntmps42
      go_wp2_with (first | (go_at_call 50; refine (cB _).mono ?_; rintro e w' ⟨rfl, rfl⟩) | (go_at_call 51; refine (cC _).mono ?_; rintro e w' ⟨rfl, rfl⟩))
      refine (cT _ hT).mono ?_
      rintro e w' ⟨rfl, rfl⟩
      go_wp2_with (go_at_call 52; refine (cS _).mono ?_; rintro e w' ⟨rfl, rfl⟩)
      go_ret3
      exact ⟨rfl, rfl⟩
end Go.Proofs.YthpkmbgollollabDoor.Sca
