/- Whole, said of the floats' bits: plain facts. -/
import Derived.Test.YtnpdfkcjjedamaaGreatDoorYb
namespace Go.Proofs.YtnpdfkcjjedamaaGreatDoor.Sca
open Go.RowKit Go.Lib Go.Shelf

def nanB (b : Nat) : Bool := decide (9218868437227405312 < mg b)
def pinf (b : Nat) : Bool := decide (mg b = 9218868437227405312 ∧ b < 9223372036854775808)
def minf (b : Nat) : Bool := decide (mg b = 9218868437227405312 ∧ ¬ b < 9223372036854775808)
/-- What is endless: 0 nothing, 1 and 2 an infinity, 3 a NaN. -/
def es (l : List Nat) : Nat := if l.any nanB || (l.any pinf && l.any minf) then 3 else if l.any pinf then 1 else if l.any minf then 2 else 0
def eStep (s x : Nat) : Nat := if mg x < 9218868437227405312 then s else if 9218868437227405312 < mg x then 3 else if x < 9223372036854775808 then (if s = 0 ∨ s = 1 then 1 else 3) else (if s = 0 ∨ s = 2 then 2 else 3)
theorem eStep_fin {x : Nat} (s : Nat) (h : mg x < 9218868437227405312) : eStep s x = s := by unfold eStep; rw [if_pos h]
theorem eStep_nan {x : Nat} (s : Nat) (h : 9218868437227405312 < mg x) : eStep s x = 3 := by unfold eStep; rw [if_neg (by omega), if_pos h]
theorem eStep_p {x : Nat} (s : Nat) (h : mg x = 9218868437227405312) (hs : x < 9223372036854775808) : eStep s x = if s = 0 ∨ s = 1 then 1 else 3 := by unfold eStep; rw [if_neg (by omega), if_neg (by omega), if_pos hs]
theorem eStep_m {x : Nat} (s : Nat) (h : mg x = 9218868437227405312) (hs : ¬ x < 9223372036854775808) : eStep s x = if s = 0 ∨ s = 2 then 2 else 3 := by unfold eStep; rw [if_neg (by omega), if_neg (by omega), if_neg hs]
theorem es_snoc (l : List Nat) (x : Nat) : es (l ++ [x]) = eStep (es l) x := by
  rcases Nat.lt_trichotomy (mg x) 9218868437227405312 with h | h | h
  · rw [eStep_fin _ h]
    unfold es
    simp only [List.any_append, List.any_cons, List.any_nil, Bool.or_false]
    rw [show nanB x = false from decide_eq_false (by omega), show pinf x = false from decide_eq_false (by omega), show minf x = false from decide_eq_false (by omega)]
    simp only [Bool.or_false]
  · by_cases hs : x < 9223372036854775808
    · rw [eStep_p _ h hs]
      unfold es
      simp only [List.any_append, List.any_cons, List.any_nil, Bool.or_false]
      rw [show nanB x = false from decide_eq_false (by omega), show pinf x = true from decide_eq_true ⟨h, hs⟩, show minf x = false from decide_eq_false (fun e => e.2 hs)]
      generalize l.any nanB = A
      generalize l.any pinf = B
      generalize l.any minf = C
      cases A <;> cases B <;> cases C <;> rfl
    · rw [eStep_m _ h hs]
      unfold es
      simp only [List.any_append, List.any_cons, List.any_nil, Bool.or_false]
      rw [show nanB x = false from decide_eq_false (by omega), show pinf x = false from decide_eq_false (fun e => hs e.2), show minf x = true from decide_eq_true ⟨h, hs⟩]
      generalize l.any nanB = A
      generalize l.any pinf = B
      generalize l.any minf = C
      cases A <;> cases B <;> cases C <;> rfl
  · rw [eStep_nan _ h]
    unfold es
    simp only [List.any_append, List.any_cons, List.any_nil, Bool.or_false]
    rw [show nanB x = true from decide_eq_true h]
    simp
theorem es_le (l : List Nat) : es l ≤ 3 := by unfold es; split; omega; split; omega; split <;> omega
/-- A float that says what is endless. -/
def EOk (s E : Nat) : Prop := s = 0 ∧ E = 0 ∨ s = 1 ∧ E = 9218868437227405312 ∨ s = 2 ∧ E = 18442240474082181120 ∨ s = 3 ∧ 9218868437227405312 < mg E ∧ E < 18446744073709551616
theorem add_nan_right (b y : Nat) (h : 9218868437227405312 < mg b) : floatBits .add .f64 y b = none := by
  obtain ⟨t, ht⟩ := read_nan b h
  show dbl.add y b = none
  unfold Ieee.Format.add
  rw [ht]
  cases dbl.read y <;> rfl
theorem read_pinf : dbl.read 9218868437227405312 = .infinity false := by decide +kernel
theorem read_minf : dbl.read 18442240474082181120 = .infinity true := by decide +kernel
theorem inf_two (x : Nat) (hx : x < 18446744073709551616) (h : mg x = 9218868437227405312) : (x < 9223372036854775808 ∧ x = 9218868437227405312) ∨ (¬ x < 9223372036854775808 ∧ x = 18442240474082181120) := by
  unfold mg at h
  omega
theorem add_end (s E x : Nat) (h : EOk s E) (hx : x < 18446744073709551616) (hnf : ¬ mg x < 9218868437227405312) :
    (∃ r, floatBits .add .f64 E x = some r ∧ EOk (eStep s x) r) ∨ (floatBits .add .f64 E x = none ∧ eStep s x = 3) := by
  by_cases hn : 9218868437227405312 < mg x
  · exact .inr ⟨add_nan_right x E hn, by unfold eStep; rw [if_neg hnf, if_pos hn]⟩
  · have hm : mg x = 9218868437227405312 := by omega
    unfold eStep
    rw [if_neg hnf, if_neg hn]
    rcases inf_two x hx hm with ⟨hs, rfl⟩ | ⟨hs, rfl⟩
    · rw [if_pos hs]
      rcases h with ⟨rfl, rfl⟩ | ⟨rfl, rfl⟩ | ⟨rfl, rfl⟩ | ⟨rfl, h1, h2⟩
      · exact .inl ⟨9218868437227405312, by decide +kernel, .inr (.inl ⟨rfl, rfl⟩)⟩
      · exact .inl ⟨9218868437227405312, by decide +kernel, .inr (.inl ⟨rfl, rfl⟩)⟩
      · exact .inr ⟨by decide +kernel, rfl⟩
      · exact .inr ⟨add_nan E _ h1, rfl⟩
    · rw [if_neg hs]
      rcases h with ⟨rfl, rfl⟩ | ⟨rfl, rfl⟩ | ⟨rfl, rfl⟩ | ⟨rfl, h1, h2⟩
      · exact .inl ⟨18442240474082181120, by decide +kernel, .inr (.inr (.inl ⟨rfl, rfl⟩))⟩
      · exact .inr ⟨by decide +kernel, rfl⟩
      · exact .inl ⟨18442240474082181120, by decide +kernel, .inr (.inr (.inl ⟨rfl, rfl⟩))⟩
      · exact .inr ⟨add_nan E _ h1, rfl⟩
theorem end_ne (s E : Nat) (h : EOk s E) : (FloatKind.f64.format.order E 0 != some .eq) = decide (s ≠ 0) := by
  rcases h with ⟨rfl, rfl⟩ | ⟨rfl, rfl⟩ | ⟨rfl, rfl⟩ | ⟨rfl, h1, h2⟩
  · decide +kernel
  · decide +kernel
  · decide +kernel
  · obtain ⟨t, ht⟩ := read_nan E h1
    show (dbl.order E 0 != some .eq) = _
    unfold Ieee.Format.order
    rw [ht, read_zero]
    rfl
theorem EOk.lt {s E : Nat} (h : EOk s E) : E < 18446744073709551616 := by
  rcases h with ⟨rfl, rfl⟩ | ⟨rfl, rfl⟩ | ⟨rfl, rfl⟩ | ⟨rfl, h1, h2⟩ <;> omega
/-- A float rounded to the nearest of so many steps of 2^-1074. -/
def sgR (v : Int) : Nat := (if v < 0 then 9223372036854775808 else 0) + rung v.natAbs (-1074)
def ng0 (l : List Nat) : Bool := l.all (fun x => decide (¬ mg x < 9218868437227405312 ∨ x = 9223372036854775808))
def sgB (l : List Nat) : Bool := decide (0 < l.length) && ng0 l
theorem ng0_snoc (l : List Nat) (x : Nat) : ng0 (l ++ [x]) = (ng0 l && decide (¬ mg x < 9218868437227405312 ∨ x = 9223372036854775808)) := by simp [ng0, List.all_append]
/-- What Whole answers, a NaN's bits set aside. -/
def wholeC (l : List Nat) : Nat := if es l = 3 then 9221120237041090561 else if es l = 1 then 9218868437227405312 else if es l = 2 then 18442240474082181120 else if sgB l then 9223372036854775808 else sgR (tsum l)

/-- The other sign. -/
def negB (b : Nat) : Nat := if b < 9223372036854775808 then b + 9223372036854775808 else b - 9223372036854775808
theorem negB_lt {b : Nat} (h : b < 18446744073709551616) : negB b < 18446744073709551616 := by unfold negB; split <;> omega
theorem mg_neg {b : Nat} (h : b < 18446744073709551616) : mg (negB b) = mg b := by unfold negB mg; split <;> omega
theorem neg_run (b : Nat) (h : b < 18446744073709551616) : Op.negFloat .f64 b = negB b := by
  show b ^^^ 2 ^ 63 = _
  unfold negB
  split
  · rename_i hb
    have e := Nat.two_pow_add_eq_or_of_lt (i := 63) (b := b) hb 1
    apply Nat.eq_of_testBit_eq
    intro i
    rw [Nat.testBit_xor, Nat.add_comm, show (9223372036854775808 : Nat) = 2 ^ 63 * 1 from rfl, e, Nat.testBit_or, Nat.mul_one, Nat.testBit_two_pow]
    by_cases hi : 63 = i
    · subst hi
      rw [Nat.testBit_lt_two_pow hb]
      rfl
    · simp [hi]
  · rename_i hb
    obtain ⟨c, hc⟩ : ∃ c, b = 2 ^ 63 * 1 + c := ⟨b - 9223372036854775808, by omega⟩
    have hcl : c < 2 ^ 63 := by omega
    rw [show b - 9223372036854775808 = c from by omega, hc, Nat.two_pow_add_eq_or_of_lt hcl 1]
    apply Nat.eq_of_testBit_eq
    intro i
    rw [Nat.testBit_xor, Nat.testBit_or, Nat.mul_one, Nat.testBit_two_pow]
    by_cases hi : 63 = i
    · subst hi
      rw [Nat.testBit_lt_two_pow hcl]
      rfl
    · simp [hi]
theorem tm_abs (b : Nat) : tm b = if mg b < 9218868437227405312 then (if sb b = 0 then ((mOf b * 2 ^ (pOf b + 1074).toNat : Nat) : Int) else -((mOf b * 2 ^ (pOf b + 1074).toNat : Nat) : Int)) else 0 := by
  unfold tm slM slE
  by_cases h : mg b < 9218868437227405312
  · rw [if_pos h, if_pos h, if_pos h]
    unfold spM spE
    by_cases h0 : mg b = 0
    · have : mOf b = 0 := (mOf_zero b).2 h0
      rw [if_pos h0, this]
      simp
    · rw [if_neg h0, if_neg h0]
      have hm0 : mOf b ≠ 0 := fun e => h0 ((mOf_zero b).1 e)
      have ho := (odd_mul (mOf b) hm0 (by have := mOf_lt b; omega)).1
      have hp := pOf_ge b
      have e : odd (mOf b) * 2 ^ (pOf b + (tz (mOf b) : Int) + 1074).toNat = mOf b * 2 ^ (pOf b + 1074).toNat := by
        rw [show (pOf b + (tz (mOf b) : Int) + 1074).toNat = tz (mOf b) + (pOf b + 1074).toNat from by omega, Nat.pow_add, ← Nat.mul_assoc, ho]
      rw [← e]
      by_cases hs : sb b = 0
      · rw [if_pos hs, if_pos hs, Int.natCast_mul, Int.natCast_pow]; rfl
      · rw [if_neg hs, if_neg hs, Int.natCast_mul, Int.natCast_pow, Int.neg_mul]; rfl
  · rw [if_neg h, if_neg h, if_neg h, Int.zero_mul]
theorem tm_bd (b E : Nat) (hE : E = 2098) : -2 ^ E < tm b ∧ tm b < 2 ^ E := by
  have h : mOf b * 2 ^ (pOf b + 1074).toNat < 2 ^ E ∨ ¬ mg b < 9218868437227405312 := by
    by_cases h : mg b < 9218868437227405312
    · left
      have h1 := mOf_lt b
      have h2 : (pOf b + 1074).toNat ≤ 2045 := by unfold pOf; omega
      obtain ⟨F, hF⟩ : ∃ F, E = 53 + F := ⟨E - 53, by omega⟩
      have h3 : 2 ^ (pOf b + 1074).toNat ≤ 2 ^ F := Nat.pow_le_pow_right (by decide) (by omega)
      have h4 : mOf b * 2 ^ (pOf b + 1074).toNat ≤ mOf b * 2 ^ F := Nat.mul_le_mul_left _ h3
      have h5 : mOf b * 2 ^ F < 2 ^ 53 * 2 ^ F := Nat.mul_lt_mul_of_pos_right h1 (Nat.two_pow_pos _)
      rw [← Nat.pow_add] at h5
      rw [hF]
      exact Nat.lt_of_le_of_lt h4 h5
    · exact .inr h
  have hP : (0 : Int) < 2 ^ E := Int.pow_pos (by decide)
  have hc : ((2 ^ E : Nat) : Int) = 2 ^ E := by rw [Int.natCast_pow]; rfl
  rw [tm_abs]
  rcases h with h | h
  · have h' : ((mOf b * 2 ^ (pOf b + 1074).toNat : Nat) : Int) < 2 ^ E := by rw [← hc]; exact Int.ofNat_lt.2 h
    have h0 : (0 : Int) ≤ ((mOf b * 2 ^ (pOf b + 1074).toNat : Nat) : Int) := Int.natCast_nonneg _
    generalize ((mOf b * 2 ^ (pOf b + 1074).toNat : Nat) : Int) = X at *
    generalize (2 : Int) ^ E = P at *
    split
    · split <;> omega
    · omega
  · rw [if_neg h]
    generalize (2 : Int) ^ E = P at *
    omega
theorem tsum_bd (l : List Nat) (E : Nat) (hE : E = 2098) : -((l.length : Int) * 2 ^ E) ≤ tsum l ∧ tsum l ≤ (l.length : Int) * 2 ^ E := by
  induction l with
  | nil => simp [tsum]
  | cons x r ih =>
    have h := tm_bd x E hE
    have e : tsum (x :: r) = tm x + tsum r := rfl
    rw [e, List.length_cons, Int.natCast_add, Int.add_mul]
    generalize (2 : Int) ^ E = P at *
    have : ((1 : Nat) : Int) * P = P := by simp
    rw [this]
    generalize (r.length : Int) * P = Q at *
    omega
theorem tsum_small (l : List Nat) (h : l.length ≤ 17592186044416) (F : Nat) (hF : F = 2175) : -2 ^ F < tsum l ∧ tsum l < 2 ^ F := by
  obtain ⟨E, hE⟩ : ∃ E, E = 2098 := ⟨_, rfl⟩
  have hb := tsum_bd l E hE
  have hP : (0 : Int) < 2 ^ E := Int.pow_pos (by decide)
  have h1 : (l.length : Int) * 2 ^ E ≤ 17592186044416 * 2 ^ E := Int.mul_le_mul_of_nonneg_right (by omega) (Int.le_of_lt hP)
  have h2 : (2 : Int) ^ F = 2 ^ E * 2 ^ 77 := by rw [← Int.pow_add]; congr 1; omega
  rw [h2, show (2 : Int) ^ 77 = 151115727451828646838272 from rfl]
  generalize (2 : Int) ^ E = P at *
  generalize (l.length : Int) * P = B at *
  omega
theorem sb_neg {b : Nat} (h : b < 18446744073709551616) : (sb (negB b) = 0) ↔ ¬ sb b = 0 := by unfold negB sb; split <;> omega
theorem tm_neg {b : Nat} (h : b < 18446744073709551616) : tm (negB b) = - tm b := by
  have hm := mg_neg h
  have e1 : mOf (negB b) = mOf b := by unfold mOf; rw [hm]
  have e2 : pOf (negB b) = pOf b := by unfold pOf; rw [hm]
  rw [tm_abs, tm_abs, hm, e1, e2]
  have hs := sb_neg h
  by_cases hf : mg b < 9218868437227405312
  · rw [if_pos hf, if_pos hf]
    by_cases h0 : sb b = 0
    · rw [if_pos h0, if_neg (fun e => hs.1 e h0)]
    · rw [if_neg h0, if_pos (hs.2 h0), Int.neg_neg]
  · rw [if_neg hf, if_neg hf]; rfl
end Go.Proofs.YtnpdfkcjjedamaaGreatDoor.Sca
