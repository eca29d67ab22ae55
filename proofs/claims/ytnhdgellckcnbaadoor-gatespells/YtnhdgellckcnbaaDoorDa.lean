/- Dyads as numbers: one form, sums, products, a ring. -/
import Derived.WalkKit
namespace Go.Proofs.YtnhdgellckcnbaaDoor.Dy
/-- A dyad: its parts and its power. -/
structure DD where
  re : Int
  im : Int
  ex : Int
  deriving DecidableEq
def o0 : DD := ⟨0, 0, 0⟩
/-- Halved while it can be. -/
def lst : Nat → Int → Int → DD
  | 0, a, b => ⟨a, b, 0⟩
  | n + 1, a, b => if a % 2 = 0 ∧ b % 2 = 0 then lst n (a / 2) (b / 2) else ⟨a, b, ((n + 1 : Nat) : Int)⟩
abbrev inR (d : DD) : Prop := (-9007199254740992 ≤ d.re ∧ d.re ≤ 9007199254740992) ∧ (-9007199254740992 ≤ d.im ∧ d.im ≤ 9007199254740992) ∧ 0 ≤ d.ex ∧ d.ex ≤ 60
abbrev Rt (d : DD) : Prop := inR d ∧ (d.ex = 0 ∨ d.re % 2 ≠ 0 ∨ d.im % 2 ≠ 0)
/-- The right one of a value, if there is one. -/
def mkP (n : Nat) (a b : Int) : Option DD := if inR (lst n a b) then some (lst n a b) else none
/-- An answer: it, or what refuses it. -/
def ans (o : Option DD) : DD × Int := match o with | some d => (d, 0) | none => (o0, 50)
theorem two_pow_succ (h : Nat) : (2 : Int) ^ (h + 1) = 2 * 2 ^ h := by rw [Int.pow_succ, Int.mul_comm]
/-- What halving h times comes to. -/
theorem lst_char : ∀ (h n : Nat) (a b : Int), h ≤ n → (h = n ∨ ¬ (a % 2 = 0 ∧ b % 2 = 0)) → lst n (a * 2 ^ h) (b * 2 ^ h) = ⟨a, b, ((n - h : Nat) : Int)⟩
  | 0, n, a, b, _, hc => by
    rw [Int.pow_zero, Int.mul_one, Int.mul_one, Nat.sub_zero]
    cases n with
    | zero => rfl
    | succ n =>
      have : ¬ (a % 2 = 0 ∧ b % 2 = 0) := by rcases hc with hc | hc; omega; exact hc
      rw [lst, if_neg this]
  | h + 1, n, a, b, hn, hc => by
    cases n with
    | zero => omega
    | succ n =>
      have e1 : ∀ x : Int, x * 2 ^ (h + 1) = 2 * (x * 2 ^ h) := fun x => by rw [two_pow_succ, Int.mul_left_comm]
      rw [e1, e1, lst, if_pos (by omega)]
      have e2 : ∀ x : Int, 2 * x / 2 = x := fun x => by omega
      rw [e2, e2, lst_char h n a b (by omega) (by rcases hc with hc | hc; left; omega; right; exact hc)]
      congr 1
      omega
/-- What is halved is the same value, and right where it is in range. -/
theorem lst_val : ∀ (n : Nat) (a b : Int), ∃ h : Nat, h ≤ n ∧ (lst n a b).ex = ((n - h : Nat) : Int) ∧ a = (lst n a b).re * 2 ^ h ∧ b = (lst n a b).im * 2 ^ h ∧ (h = n ∨ ¬ ((lst n a b).re % 2 = 0 ∧ (lst n a b).im % 2 = 0))
  | 0, a, b => ⟨0, by omega, by rfl, by simp [lst], by simp [lst], .inl rfl⟩
  | n + 1, a, b => by
    by_cases hc : a % 2 = 0 ∧ b % 2 = 0
    · obtain ⟨h, h1, h2, h3, h4, h5⟩ := lst_val n (a / 2) (b / 2)
      have e : lst (n + 1) a b = lst n (a / 2) (b / 2) := by rw [lst, if_pos hc]
      rw [e]
      refine ⟨h + 1, by omega, by rw [h2]; congr 1; omega, ?_, ?_, by rcases h5 with h5 | h5; left; omega; right; exact h5⟩
      · rw [two_pow_succ, Int.mul_left_comm, ← h3]; omega
      · rw [two_pow_succ, Int.mul_left_comm, ← h4]; omega
    · have e : lst (n + 1) a b = ⟨a, b, ((n + 1 : Nat) : Int)⟩ := by rw [lst, if_neg hc]
      rw [e]
      exact ⟨0, by omega, rfl, by simp, by simp, .inr hc⟩
theorem lst_right (n : Nat) (a b : Int) (h : inR (lst n a b)) : Rt (lst n a b) := by
  obtain ⟨k, h1, h2, _, _, h5⟩ := lst_val n a b
  refine ⟨h, ?_⟩
  rcases h5 with h5 | h5
  · left; rw [h2, h5, Nat.sub_self]; rfl
  · right; omega
theorem mkP_right {n : Nat} {a b : Int} {d : DD} (h : mkP n a b = some d) : Rt d := by
  unfold mkP at h
  split at h
  · rename_i hi
    have := lst_right n a b hi
    injection h with h
    rw [← h]; exact this
  · cases h
/-- The value over 2^60. -/
def sc (x e : Int) : Int := x * 2 ^ (60 - e).toNat
theorem mkP_val {n : Nat} {a b : Int} {d : DD} (h : mkP n a b = some d) : ∃ k : Nat, k ≤ n ∧ d.ex = ((n - k : Nat) : Int) ∧ a = d.re * 2 ^ k ∧ b = d.im * 2 ^ k := by
  unfold mkP at h
  split at h
  · injection h with h
    obtain ⟨k, h1, h2, h3, h4, _⟩ := lst_val n a b
    rw [h] at h2 h3 h4
    exact ⟨k, h1, h2, h3, h4⟩
  · cases h
theorem pow_pos' (k : Nat) : (0 : Int) < 2 ^ k := Int.pow_pos (by decide)
/-- Each number has one form. -/
theorem uniq_le {a b : DD} (ha : Rt a) (hb : Rt b) (h1 : sc a.re a.ex = sc b.re b.ex) (h2 : sc a.im a.ex = sc b.im b.ex) (hle : a.ex ≤ b.ex) : a = b := by
  obtain ⟨⟨_, _, a1, a2⟩, _⟩ := ha
  obtain ⟨⟨_, _, b1, b2⟩, bo⟩ := hb
  have hs : (60 - a.ex).toNat = (b.ex - a.ex).toNat + (60 - b.ex).toNat := by omega
  unfold sc at h1 h2
  rw [hs, Int.pow_add, ← Int.mul_assoc] at h1 h2
  have h1 := Int.eq_of_mul_eq_mul_right (Int.ne_of_gt (pow_pos' _)) h1
  have h2 := Int.eq_of_mul_eq_mul_right (Int.ne_of_gt (pow_pos' _)) h2
  by_cases he : a.ex = b.ex
  · rw [he, show (b.ex - b.ex).toNat = 0 by omega] at h1 h2
    cases a; cases b
    simp_all
  · have : (b.ex - a.ex).toNat = ((b.ex - a.ex).toNat - 1) + 1 := by omega
    rw [this, two_pow_succ, Int.mul_left_comm] at h1 h2
    omega
theorem uniq {a b : DD} (ha : Rt a) (hb : Rt b) (h1 : sc a.re a.ex = sc b.re b.ex) (h2 : sc a.im a.ex = sc b.im b.ex) : a = b := by
  by_cases h : a.ex ≤ b.ex
  · exact uniq_le ha hb h1 h2 h
  · exact (uniq_le hb ha h1.symm h2.symm (by omega)).symm
/-- The sum. -/
def up (x e f : Int) : Int := x * 2 ^ (e - f).toNat
def addP (a b : DD) : Option DD := mkP (max a.ex b.ex).toNat (up a.re (max a.ex b.ex) a.ex + up b.re (max a.ex b.ex) b.ex) (up a.im (max a.ex b.ex) a.ex + up b.im (max a.ex b.ex) b.ex)
def addR (a b : DD) : DD × Int := if Rt a ∧ Rt b then ans (addP a b) else (o0, 2)
abbrev big (x y : Int) : Prop := 2305843009213693952 < x.natAbs * y.natAbs
/-- The product. -/
def mulP (a b : DD) : Option DD := if big a.re b.re ∨ big a.im b.im ∨ big a.re b.im ∨ big a.im b.re then none else mkP (a.ex + b.ex).toNat (a.re * b.re - a.im * b.im) (a.re * b.im + a.im * b.re)
def mulR (a b : DD) : DD × Int := if Rt a ∧ Rt b then ans (mulP a b) else (o0, 2)
def turnD (a : DD) (k : Int) : DD := if k % 4 = 0 then a else if k % 4 = 1 then ⟨-a.im, a.re, a.ex⟩ else if k % 4 = 2 then ⟨-a.re, -a.im, a.ex⟩ else ⟨a.im, -a.re, a.ex⟩
def turnR (a : DD) (k : Int) : DD × Int := if Rt a then (turnD a k, 0) else (o0, 2)
def conjD (a : DD) : DD := ⟨a.re, -a.im, a.ex⟩
def conjR (a : DD) : DD × Int := if Rt a then (conjD a, 0) else (o0, 2)
def negD (a : DD) : DD := ⟨-a.re, -a.im, a.ex⟩
def subR (a b : DD) : DD × Int := if Rt a ∧ Rt b then ans (addP a (negD b)) else (o0, 2)
def squareR (a : DD) : DD × Int := if Rt a then ans (mulP a (conjD a)) else (o0, 2)
theorem neg_right {a : DD} (h : Rt a) : Rt (negD a) := by
  obtain ⟨⟨_, _, _, _⟩, _⟩ := h
  unfold Rt inR negD
  simp only
  omega
theorem neg_right' {a : DD} : Rt (negD a) ↔ Rt a := by
  constructor
  · intro h
    have := neg_right h
    unfold negD at this
    simpa using this
  · exact neg_right
theorem conj_right {a : DD} (h : Rt a) : Rt (conjD a) := by
  obtain ⟨⟨_, _, _, _⟩, _⟩ := h
  unfold Rt inR conjD
  simp only
  omega
theorem turn_right {a : DD} (h : Rt a) (k : Int) : Rt (turnD a k) := by
  have h' := h
  obtain ⟨⟨_, _, _, _⟩, _⟩ := h
  unfold turnD
  repeat' split
  · exact h'
  all_goals (unfold Rt inR; simp only; omega)
theorem addP_comm (a b : DD) : addP a b = addP b a := by
  unfold addP
  rw [Int.max_comm b.ex a.ex, Int.add_comm, Int.add_comm (up a.im _ _)]
theorem addR_comm (a b : DD) : addR a b = addR b a := by
  unfold addR
  rw [addP_comm]
  by_cases h : Rt a ∧ Rt b
  · rw [if_pos h, if_pos ⟨h.2, h.1⟩]
  · rw [if_neg h, if_neg (fun h' => h ⟨h'.2, h'.1⟩)]
theorem big_comm (x y : Int) : big x y ↔ big y x := by unfold big; rw [Nat.mul_comm]
theorem mulP_comm (a b : DD) : mulP a b = mulP b a := by
  unfold mulP
  rw [Int.mul_comm b.re a.re, Int.mul_comm b.im a.im, Int.mul_comm b.re a.im, Int.mul_comm b.im a.re, Int.add_comm (a.im * b.re), Int.add_comm b.ex a.ex]
  have e : (big b.re a.re ∨ big b.im a.im ∨ big b.re a.im ∨ big b.im a.re) = (big a.re b.re ∨ big a.im b.im ∨ big a.re b.im ∨ big a.im b.re) := by
    rw [propext (big_comm b.re a.re), propext (big_comm b.im a.im), propext (big_comm b.re a.im), propext (big_comm b.im a.re)]
    apply propext
    constructor
    · rintro (h | h | h | h) <;> simp [h]
    · rintro (h | h | h | h) <;> simp [h]
  simp only [e]
theorem mulR_comm (a b : DD) : mulR a b = mulR b a := by
  unfold mulR
  rw [mulP_comm]
  by_cases h : Rt a ∧ Rt b
  · rw [if_pos h, if_pos ⟨h.2, h.1⟩]
  · rw [if_neg h, if_neg (fun h' => h ⟨h'.2, h'.1⟩)]
theorem up_sc {x e f : Int} (h1 : f ≤ e) (h2 : e ≤ 60) : up x e f * 2 ^ (60 - e).toNat = sc x f := by
  unfold up sc
  rw [Int.mul_assoc, ← Int.pow_add]
  congr 2
  omega
theorem addP_sc {a b d : DD} (ha : Rt a) (hb : Rt b) (h : addP a b = some d) : sc d.re d.ex = sc a.re a.ex + sc b.re b.ex ∧ sc d.im d.ex = sc a.im a.ex + sc b.im b.ex := by
  obtain ⟨⟨_, _, a1, a2⟩, _⟩ := ha
  obtain ⟨⟨_, _, b1, b2⟩, _⟩ := hb
  obtain ⟨k, h1, h2, h3, h4⟩ := mkP_val h
  have e1 : a.ex ≤ max a.ex b.ex := Int.le_max_left _ _
  have e2 : b.ex ≤ max a.ex b.ex := Int.le_max_right _ _
  have e3 : max a.ex b.ex ≤ 60 := by omega
  have hs : (60 - d.ex).toNat = k + (60 - max a.ex b.ex).toNat := by omega
  have hd : ∀ x : Int, sc x d.ex = x * 2 ^ k * 2 ^ (60 - max a.ex b.ex).toNat := fun x => by unfold sc; rw [hs, Int.pow_add, Int.mul_assoc]
  rw [hd, hd, ← h3, ← h4, Int.add_mul, Int.add_mul, up_sc e1 e3, up_sc e2 e3, up_sc e1 e3, up_sc e2 e3]
  exact ⟨rfl, rfl⟩
def S60 : Int := 1152921504606846976
theorem mulP_sc {a b d : DD} (ha : Rt a) (hb : Rt b) (h : mulP a b = some d) :
    sc d.re d.ex * S60 = sc a.re a.ex * sc b.re b.ex - sc a.im a.ex * sc b.im b.ex ∧ sc d.im d.ex * S60 = sc a.re a.ex * sc b.im b.ex + sc a.im a.ex * sc b.re b.ex := by
  have hr : Rt d := by
    unfold mulP at h
    split at h
    · cases h
    · exact mkP_right h
  obtain ⟨⟨_, _, a1, a2⟩, _⟩ := ha
  obtain ⟨⟨_, _, b1, b2⟩, _⟩ := hb
  obtain ⟨⟨_, _, d1, d2⟩, _⟩ := hr
  unfold mulP at h
  split at h
  · cases h
  obtain ⟨k, h1, h2, h3, h4⟩ := mkP_val h
  have hs : (60 - d.ex).toNat + 60 = k + ((60 - a.ex).toNat + (60 - b.ex).toNat) := by omega
  have hd : ∀ x : Int, sc x d.ex * S60 = x * 2 ^ k * (2 ^ (60 - a.ex).toNat * 2 ^ (60 - b.ex).toNat) := fun x => by
    unfold sc
    rw [show S60 = 2 ^ 60 from rfl, Int.mul_assoc, ← Int.pow_add, hs, Int.pow_add, Int.pow_add, Int.mul_assoc]
  rw [hd, hd, ← h3, ← h4]
  unfold sc
  generalize (2 : Int) ^ (60 - a.ex).toNat = p
  generalize (2 : Int) ^ (60 - b.ex).toNat = q
  constructor <;> grind
theorem ans_ok {o : Option DD} {d : DD} (h : ans o = (d, 0)) : o = some d := by
  cases o with
  | none => simp [ans] at h
  | some x => simp [ans] at h; rw [h]
theorem addR_ok {a b d : DD} (h : addR a b = (d, 0)) : Rt a ∧ Rt b ∧ addP a b = some d ∧ Rt d := by
  unfold addR at h
  split at h
  · rename_i hh
    have := ans_ok h
    exact ⟨hh.1, hh.2, this, mkP_right this⟩
  · simp at h
theorem mulP_right {a b d : DD} (h : mulP a b = some d) : Rt d := by
  unfold mulP at h
  split at h
  · cases h
  · exact mkP_right h
theorem mulR_ok {a b d : DD} (h : mulR a b = (d, 0)) : Rt a ∧ Rt b ∧ mulP a b = some d ∧ Rt d := by
  unfold mulR at h
  split at h
  · rename_i hh
    have := ans_ok h
    exact ⟨hh.1, hh.2, this, mulP_right this⟩
  · simp at h
theorem squareR_ok {a d : DD} (h : squareR a = (d, 0)) : Rt a ∧ mulP a (conjD a) = some d ∧ Rt d := by
  unfold squareR at h
  split at h
  · rename_i hh
    have := ans_ok h
    exact ⟨hh, this, mulP_right this⟩
  · simp at h
theorem cancel60 {x y : Int} (h : x * S60 = y * S60) : x = y := Int.eq_of_mul_eq_mul_right (by decide) h
/-- (a + b) c is a c + b c. -/
theorem ring_dist {a b c p x y z w : DD} (h1 : addR a b = (p, 0)) (h2 : mulR p c = (x, 0)) (h3 : mulR a c = (y, 0)) (h4 : mulR b c = (z, 0)) (h5 : addR y z = (w, 0)) : x = w := by
  obtain ⟨ra, rb, e1, rp⟩ := addR_ok h1
  obtain ⟨_, rc, e2, rx⟩ := mulR_ok h2
  obtain ⟨_, _, e3, ry⟩ := mulR_ok h3
  obtain ⟨_, _, e4, rz⟩ := mulR_ok h4
  obtain ⟨_, _, e5, rw'⟩ := addR_ok h5
  have f1 := addP_sc ra rb e1
  have f2 := mulP_sc rp rc e2
  have f3 := mulP_sc ra rc e3
  have f4 := mulP_sc rb rc e4
  have f5 := addP_sc ry rz e5
  rw [f1.1, f1.2] at f2
  refine uniq rx rw' (cancel60 ?_) (cancel60 ?_)
  · rw [f5.1, f2.1, Int.add_mul (sc y.re y.ex), f3.1, f4.1]; grind
  · rw [f5.2, f2.2, Int.add_mul (sc y.im y.ex), f3.2, f4.2]; grind
theorem sc_neg (x e : Int) : sc (-x) e = -sc x e := by unfold sc; rw [Int.neg_mul]
theorem square_sc {a d : DD} (ha : Rt a) (h : mulP a (conjD a) = some d) : sc d.re d.ex * S60 = sc a.re a.ex * sc a.re a.ex + sc a.im a.ex * sc a.im a.ex ∧ sc d.im d.ex = 0 := by
  have := mulP_sc ha (conj_right ha) h
  rw [show (conjD a).re = a.re from rfl, show (conjD a).im = -a.im from rfl, show (conjD a).ex = a.ex from rfl, sc_neg] at this
  refine ⟨by rw [this.1]; grind, cancel60 ?_⟩
  rw [this.2]; grind
/-- The square of a product is the product of the squares. -/
theorem ring_square {a b r i j k l : DD} (h1 : mulR a b = (r, 0)) (h2 : squareR a = (i, 0)) (h3 : squareR b = (j, 0)) (h4 : squareR r = (k, 0)) (h5 : mulR i j = (l, 0)) : k = l := by
  obtain ⟨ra, rb, e1, rr⟩ := mulR_ok h1
  obtain ⟨_, e2, ri⟩ := squareR_ok h2
  obtain ⟨_, e3, rj⟩ := squareR_ok h3
  obtain ⟨_, e4, rk⟩ := squareR_ok h4
  obtain ⟨_, _, e5, rl⟩ := mulR_ok h5
  have f1 := mulP_sc ra rb e1
  have f2 := square_sc ra e2
  have f3 := square_sc rb e3
  have f4 := square_sc rr e4
  have f5 := mulP_sc ri rj e5
  rw [f2.2, f3.2] at f5
  refine uniq rk rl (cancel60 (cancel60 (cancel60 ?_))) (by rw [f4.2]; exact (cancel60 (by rw [f5.2]; simp)).symm)
  generalize sc a.re a.ex = A at *
  generalize sc a.im a.ex = A' at *
  generalize sc b.re b.ex = B at *
  generalize sc b.im b.ex = B' at *
  generalize sc r.re r.ex = R at *
  generalize sc r.im r.ex = R' at *
  generalize sc i.re i.ex = I at *
  generalize sc j.re j.ex = J at *
  generalize sc k.re k.ex = K at *
  generalize sc l.re l.ex = L at *
  generalize S60 = T at *
  obtain ⟨g1, g1'⟩ := f1
  obtain ⟨g2, _⟩ := f2
  obtain ⟨g3, _⟩ := f3
  obtain ⟨g4, _⟩ := f4
  obtain ⟨g5, _⟩ := f5
  have l1 : K * T * T * T = (R * T) * (R * T) + (R' * T) * (R' * T) := by rw [g4]; grind
  have l2 : L * T * T * T = (I * T) * (J * T) := by rw [g5]; grind
  rw [l1, l2, g1, g1', g2, g3]
  grind
/-- As 64 bits without a sign. -/
def un (x : Int) : Nat := (x % 18446744073709551616).toNat
theorem un_lt (x : Int) : un x < 18446744073709551616 := by unfold un; omega
theorem orU_lt (a b : Int) : un a ||| un b < 18446744073709551616 := Nat.or_lt_two_pow (n := 64) (un_lt a) (un_lt b)
theorem un_zero {x : Int} (h0 : -9223372036854775808 ≤ x) (h1 : x ≤ 9223372036854775807) (h : un x = 0) : x = 0 := by unfold un at h; omega
theorem un_dvd {x : Int} {t : Nat} (ht : t < 64) (h : un x % 2 ^ t = 0) : ∃ y : Int, x = y * 2 ^ t ∧ (y % 2).toNat = un x / 2 ^ t % 2 := by
  obtain ⟨q, hq⟩ := Nat.dvd_of_mod_eq_zero h
  have hp : (18446744073709551616 : Int) = 2 ^ t * 2 ^ (64 - t) := by rw [← Int.pow_add, show t + (64 - t) = 64 by omega]; rfl
  have hp2 : (2 : Int) ^ (64 - t) = 2 * 2 ^ (63 - t) := by rw [← two_pow_succ]; congr 1; omega
  have hx : x = (q + 2 * 2 ^ (63 - t) * (x / 18446744073709551616)) * 2 ^ t := by
    have e1 : x = (un x : Int) + 18446744073709551616 * (x / 18446744073709551616) := by unfold un; omega
    have e2 : (un x : Int) = 2 ^ t * (q : Int) := by rw [hq]; simp
    rw [e2] at e1
    generalize x / 18446744073709551616 = z at *
    rw [hp, hp2] at e1
    rw [e1]
    generalize (2 : Int) ^ t = A
    generalize (2 : Int) ^ (63 - t) = B
    grind
  refine ⟨_, hx, ?_⟩
  have : un x / 2 ^ t = q := by rw [hq]; exact Nat.mul_div_cancel_left _ (Nat.pow_pos (by decide))
  rw [this, Int.mul_assoc]
  omega
/-- What the program's halving comes to. -/
theorem halve_char {a b : Int} (ha0 : -9223372036854775808 ≤ a) (ha1 : a ≤ 9223372036854775807) (hb0 : -9223372036854775808 ≤ b) (hb1 : b ≤ 9223372036854775807) (t e : Nat)
    (hz : un a ||| un b = 0 → t = 64) (hn : un a ||| un b ≠ 0 → (∃ k, un a ||| un b = 2 ^ t * (2 * k + 1)) ∧ t < 64) (he : un a ||| un b = 0 → e ≤ 64) :
    lst e a b = ⟨a / 2 ^ min e t, b / 2 ^ min e t, ((e - min e t : Nat) : Int)⟩ := by
  by_cases h0 : un a ||| un b = 0
  · obtain ⟨h1, h2⟩ := Nat.or_eq_zero_iff.1 h0
    obtain rfl := un_zero ha0 ha1 h1
    obtain rfl := un_zero hb0 hb1 h2
    have hm : min e t = e := by have := hz h0; have := he h0; omega
    rw [hm]
    have := lst_char e e 0 0 (by omega) (.inl rfl)
    simpa using this
  · obtain ⟨⟨k, hk⟩, ht⟩ := hn h0
    have hmod : (un a ||| un b) % 2 ^ t = 0 := by rw [hk]; exact Nat.mul_mod_right _ _
    rw [Nat.or_mod_two_pow] at hmod
    obtain ⟨h1, h2⟩ := Nat.or_eq_zero_iff.1 hmod
    obtain ⟨y, hy, py⟩ := un_dvd ht h1
    obtain ⟨z, hz', pz⟩ := un_dvd ht h2
    have hodd : ¬ (y % 2 = 0 ∧ z % 2 = 0) := by
      rintro ⟨e1, e2⟩
      rw [e1] at py
      rw [e2] at pz
      have hd : (un a ||| un b) / 2 ^ t = 2 * k + 1 := by rw [hk]; exact Nat.mul_div_cancel_left _ (Nat.pow_pos (by decide))
      rw [← Nat.shiftRight_eq_div_pow, Nat.shiftRight_or_distrib, Nat.shiftRight_eq_div_pow, Nat.shiftRight_eq_div_pow] at hd
      have hm : (un a / 2 ^ t ||| un b / 2 ^ t) % 2 ^ 1 = 1 := by rw [hd]; omega
      rw [Nat.or_mod_two_pow] at hm
      have f1 : un a / 2 ^ t % 2 ^ 1 = 0 := by rw [← Nat.pow_one 2] at py; exact py.symm
      have f2 : un b / 2 ^ t % 2 ^ 1 = 0 := by rw [← Nat.pow_one 2] at pz; exact pz.symm
      rw [f1, f2] at hm
      exact absurd hm (by decide)
    by_cases hle : e ≤ t
    · have hm : min e t = e := by omega
      have hs : ∀ q : Int, q * 2 ^ t = q * 2 ^ (t - e) * 2 ^ e := fun q => by rw [Int.mul_assoc, ← Int.pow_add]; congr 2; omega
      rw [hm, hy, hz', hs, hs, lst_char e e _ _ (by omega) (.inl rfl), Int.mul_ediv_cancel _ (Int.ne_of_gt (pow_pos' _)), Int.mul_ediv_cancel _ (Int.ne_of_gt (pow_pos' _))]
    · have hm : min e t = t := by omega
      rw [hm, hy, hz', lst_char t e _ _ (by omega) (.inr hodd), Int.mul_ediv_cancel _ (Int.ne_of_gt (pow_pos' _)), Int.mul_ediv_cancel _ (Int.ne_of_gt (pow_pos' _))]
end Go.Proofs.YtnhdgellckcnbaaDoor.Dy
