/- Plain facts on the check sum: it is linear, and up to 32 neighbouring bits turned are told. -/
import Derived.Test.YtckcdgobgpjdkaaDoorSum1
namespace Go.Proofs.YtckcdgobgpjdkaaDoor.Oct

theorem xor_half (a b : Nat) : (a ^^^ b) / 2 = a / 2 ^^^ b / 2 := by
  have := Nat.shiftRight_xor_distrib (a := a) (b := b) (i := 1)
  simpa [Nat.shiftRight_eq_div_pow] using this
theorem xor_par (a b : Nat) : (a ^^^ b) % 2 = (a + b) % 2 := by
  have h := Nat.testBit_xor a b 0
  simp only [Nat.testBit_zero] at h
  rcases Nat.mod_two_eq_zero_or_one a with ha | ha <;> rcases Nat.mod_two_eq_zero_or_one b with hb | hb <;> rcases Nat.mod_two_eq_zero_or_one (a ^^^ b) with hc | hc <;> simp [ha, hb, hc] at h <;> omega
theorem xor_zero_eq {a b : Nat} (h : a ^^^ b = 0) : a = b := by
  have e := congrArg (a ^^^ ·) h
  simp only [← Nat.xor_assoc, Nat.xor_self, Nat.zero_xor, Nat.xor_zero] at e
  exact e.symm
theorem xor4 (a b p q : Nat) : (a ^^^ b) ^^^ (p ^^^ q) = (a ^^^ p) ^^^ (b ^^^ q) := by
  rw [Nat.xor_assoc, ← Nat.xor_assoc b p q, Nat.xor_comm b p, Nat.xor_assoc p b q, ← Nat.xor_assoc]
theorem crcBit_eq (c : Nat) : crcBit c = (c / 2) ^^^ (if c % 2 = 1 then 2197175160 else 0) := by
  unfold crcBit
  split <;> simp
theorem crcBit_xor (a b : Nat) : crcBit (a ^^^ b) = crcBit a ^^^ crcBit b := by
  rw [crcBit_eq, crcBit_eq a, crcBit_eq b, xor4, xor_half, xor_par]
  congr 1
  rcases Nat.mod_two_eq_zero_or_one a with ha | ha <;> rcases Nat.mod_two_eq_zero_or_one b with hb | hb <;> simp [Nat.add_mod, ha, hb]
theorem crcBits_xor (k a b : Nat) : crcBits k (a ^^^ b) = crcBits k a ^^^ crcBits k b := by
  induction k with
  | zero => rfl
  | succ k ih => simp only [crcBits, ih, crcBit_xor]
theorem crcBits_add (j k c : Nat) : crcBits (j + k) c = crcBits j (crcBits k c) := by
  induction j with
  | zero => simp [crcBits]
  | succ j ih => rw [show j + 1 + k = j + k + 1 by omega]; simp only [crcBits, ih]
theorem crcBit_double (m : Nat) : crcBit (2 * m) = m := by
  unfold crcBit
  rw [if_neg (by omega)]
  omega
theorem crcBits_shift (k m : Nat) : crcBits k (2 ^ k * m) = m := by
  induction k generalizing m with
  | zero => simp [crcBits]
  | succ k ih =>
    rw [crcBits_add k 1, show 2 ^ (k + 1) * m = 2 * (2 ^ k * m) by rw [Nat.pow_succ, Nat.mul_comm (2 ^ k) 2, Nat.mul_assoc]]
    simp only [crcBits, crcBit_double]
    exact ih m
theorem crcBit_zero : crcBit 0 = 0 := by decide
theorem crcBits_zero (k : Nat) : crcBits k 0 = 0 := by
  induction k with
  | zero => rfl
  | succ k ih => simp only [crcBits, ih, crcBit_zero]
theorem crcBit_ne {c : Nat} (h : c < 4294967296) (h0 : c ≠ 0) : crcBit c ≠ 0 := by
  unfold crcBit
  split
  · intro e
    have e1 : c / 2 = 2197175160 := xor_zero_eq e
    omega
  · omega
theorem crcBits_ne {c : Nat} (h : c < 4294967296) (h0 : c ≠ 0) (k : Nat) : crcBits k c ≠ 0 := by
  induction k with
  | zero => exact h0
  | succ k ih => exact crcBit_ne (crcBits_lt h k) ih
/-- Bytes at once: the check sum of bytes is that of the number that they stand for. -/
theorem byte_xor (b : UInt8) (r : Nat) : b.toNat + 256 * r = b.toNat ^^^ 256 * r := by
  have hb : b.toNat < 2 ^ 8 := b.toNat_lt
  have h := Nat.two_pow_add_eq_or_of_lt hb r
  rw [Nat.add_comm, show 256 * r = 2 ^ 8 * r from rfl, h, Nat.xor_comm]
  apply Nat.eq_of_testBit_eq
  intro i
  rw [Nat.testBit_or, Nat.testBit_xor, Nat.testBit_two_pow_mul]
  by_cases hi : 8 ≤ i
  · have : b.toNat.testBit i = false := Nat.testBit_lt_two_pow (Nat.lt_of_lt_of_le hb (Nat.pow_le_pow_right (by decide) hi))
    simp [this]
  · simp [hi]
theorem crcAll_num (c : Nat) (l : List UInt8) : crcAll c l = crcBits (8 * l.length) (c ^^^ num l) := by
  induction l generalizing c with
  | nil => simp [crcAll, num, crcBits]
  | cons b r ih =>
    have e1 : crcAll c (b :: r) = crcAll (crcByte c b.toNat) r := rfl
    rw [e1, ih, show 8 * (b :: r).length = 8 * r.length + 8 by simp; omega, crcBits_add]
    congr 1
    rw [num, byte_xor, ← Nat.xor_assoc, crcBits_xor]
    congr 1
    exact (crcBits_shift 8 (num r)).symm
theorem xor_cancel (a x y : Nat) : (a ^^^ x) ^^^ (a ^^^ y) = x ^^^ y := by
  rw [xor4, Nat.xor_self, Nat.zero_xor]
/-- Bits M, fewer than 33 of them, turned from a place on: the check sum turns just if there is one. -/
theorem crc_burst (l l' : List UInt8) (M p : Nat) (hl : l'.length = l.length) (hM : M < 4294967296) (hn : num l' = num l ^^^ 2 ^ p * M) (hp : p ≤ 8 * l.length) : crc l' = crc l ↔ M = 0 := by
  have e : crcAll 4294967295 l' ^^^ crcAll 4294967295 l = crcBits (8 * l.length - p) M := by
    rw [crcAll_num, crcAll_num, hl, ← crcBits_xor, xor_cancel, hn, Nat.xor_comm (num l), Nat.xor_assoc, Nat.xor_self, Nat.xor_zero,
      show 8 * l.length = (8 * l.length - p) + p by omega, crcBits_add, crcBits_shift, Nat.add_sub_cancel]
  constructor
  · intro h
    have h1 : crcAll 4294967295 l' = crcAll 4294967295 l := by
      have := congrArg (4294967295 ^^^ ·) h
      simpa [crc, ← Nat.xor_assoc] using this
    rw [h1, Nat.xor_self] at e
    rcases Nat.eq_zero_or_pos M with h0 | h0
    · exact h0
    · exact absurd e.symm (crcBits_ne hM (by omega) _)
  · rintro rfl
    rw [crcBits_zero] at e
    have h1 : crcAll 4294967295 l' = crcAll 4294967295 l := xor_zero_eq e
    unfold crc
    rw [h1]
/-- One bit turned in one byte. -/
theorem num_set (l : List UInt8) (j t : Nat) (hj : j < l.length) (ht : t < 8) : num (l.set j (UInt8.ofNat (l[j].toNat ^^^ 2 ^ t))) = num l ^^^ 2 ^ (8 * j + t) := by
  induction l generalizing j with
  | nil => simp at hj
  | cons b r ih =>
    cases j with
    | zero =>
      have hx : b.toNat ^^^ 2 ^ t < 256 := Nat.xor_lt_two_pow (n := 8) b.toNat_lt (Nat.pow_lt_pow_right (by decide) ht)
      have e1 : (UInt8.ofNat (b.toNat ^^^ 2 ^ t)).toNat = b.toNat ^^^ 2 ^ t := by rw [UInt8.toNat_ofNat', Nat.mod_eq_of_lt hx]
      simp only [List.getElem_cons_zero, List.set_cons_zero, num]
      rw [byte_xor, e1, byte_xor, Nat.mul_zero, Nat.zero_add, Nat.xor_assoc, Nat.xor_comm (2 ^ t), ← Nat.xor_assoc]
    | succ j =>
      simp only [List.getElem_cons_succ, List.set_cons_succ, num]
      rw [byte_xor, ih j (by simpa using hj), byte_xor, Nat.xor_assoc]
      congr 1
      have e2 : 2 ^ (8 * (j + 1) + t) = 256 * 2 ^ (8 * j + t) := by rw [show 8 * (j + 1) + t = 8 + (8 * j + t) by omega, Nat.pow_add]
      rw [e2, show 256 = 2 ^ 8 from rfl]
      apply Nat.eq_of_testBit_eq
      intro i
      simp only [Nat.testBit_two_pow_mul, Nat.testBit_xor]
      by_cases hi : 8 ≤ i <;> simp [hi]
theorem mul_xor (p a b : Nat) : 2 ^ p * (a ^^^ b) = 2 ^ p * a ^^^ 2 ^ p * b := by
  apply Nat.eq_of_testBit_eq
  intro i
  simp only [Nat.testBit_two_pow_mul, Nat.testBit_xor]
  by_cases hi : p ≤ i <;> simp [hi]
theorem add_top (M k : Nat) (h : M < 2 ^ k) : M + 2 ^ k = M ^^^ 2 ^ k := by
  have h1 := Nat.two_pow_add_eq_or_of_lt h 1
  rw [Nat.mul_one] at h1
  rw [Nat.add_comm, h1]
  apply Nat.eq_of_testBit_eq
  intro i
  rw [Nat.testBit_or, Nat.testBit_xor, Nat.testBit_two_pow]
  by_cases hi : k = i
  · subst hi
    simp [Nat.testBit_lt_two_pow h]
  · simp [hi]
theorem bu_num (cur : List UInt8) (j t p k M N : Nat) (hj : j < cur.length) (ht : t < 8) (hpk : p + k = 8 * j + t) (hM : M < 2 ^ k) (hn : num cur = N ^^^ 2 ^ p * M) :
    num (cur.set j (UInt8.ofNat (cur[j].toNat ^^^ 2 ^ t))) = N ^^^ 2 ^ p * (M + 2 ^ k) := by
  rw [num_set cur j t hj ht, hn, add_top M k hM, mul_xor, ← hpk, Nat.pow_add, Nat.xor_assoc]
theorem bu_val (bb t : Nat) (hb : bb < 256) (ht : t < 8) : bits .xor .u8 (bb : Int) (2 ^ t % 256) = ((UInt8.ofNat (bb ^^^ 2 ^ t)).toNat : Int) := by
  have h2 : 2 ^ t < 256 := Nat.pow_lt_pow_right (a := 2) (by decide) ht
  have e : ((2 : Int) ^ t % 256) = ((2 ^ t : Nat) : Int) := by
    rw [show ((2 : Int) ^ t) = ((2 ^ t : Nat) : Int) by simp]
    generalize 2 ^ t = q at h2
    omega
  rw [e, u8_xor_nat bb (2 ^ t) hb h2, UInt8.toNat_ofNat', Nat.mod_eq_of_lt (Nat.xor_lt_two_pow (n := 8) hb h2)]
theorem bv_set (a b : List UInt8) (j : Nat) (x : UInt8) (hj : j < a.length) : (bv (a ++ b)).set j (.int .u8 (x.toNat : Int)) = bv (a.set j x ++ b) := by
  rw [bv_append, bv_append, List.set_append_left _ _ (by rw [bv_length]; exact hj)]
  congr 1
  simp [bv, List.map_set]
end Go.Proofs.YtckcdgobgpjdkaaDoor.Oct
