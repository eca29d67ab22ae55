/- Floats that hold a whole number of a power of two: their sums, differences and products, exact. -/
import Derived.Test.YtnhdgellckcnbaaDoorGa
namespace Go.Proofs.YtnhdgellckcnbaaDoor.Dy
open Go.RowKit Go.Shelf Go.Proofs.YtnhdgellckcnbaaDoor.Sca

theorem sg_mul (s : Bool) (m a k : Nat) : Ieee.signed s m (a + k) = Ieee.signed s m a * 2 ^ k := by
  have h : ((m <<< (a + k) : Nat) : Int) = ((m <<< a : Nat) : Int) * 2 ^ k := by
    rw [Nat.shiftLeft_eq, Nat.shiftLeft_eq, Nat.pow_add, ← Nat.mul_assoc, Int.natCast_mul, Int.natCast_pow]
    rfl
  unfold Ieee.signed
  cases s
  · simp only [Bool.false_eq_true, if_false]; exact h
  · simp only [if_true]; rw [h, Int.neg_mul]
/-- What a word stands for, counted in the least places. -/
def Rd (b : Nat) (v : Int) : Prop := ∃ s m i, dbl.read b = .number s m i ∧ -1074 ≤ i ∧ Ieee.signed s m (i + 1074).toNat = v
theorem rd_zero : Rd 0 0 := ⟨_, _, _, read_zero, by decide, by decide⟩
theorem read_nzero : dbl.read 9223372036854775808 = .number true 0 (-1074) := by decide +kernel
theorem rd_nzero : Rd 9223372036854775808 0 := ⟨_, _, _, read_nzero, by decide, by decide⟩
theorem rd_join (c e : Int) (h0 : c ≠ 0) (hc : c.natAbs ≤ 9007199254740992) (he1 : -300 ≤ e) (he2 : e ≤ 300) : Rd (joinB c e) (c * 2 ^ (e + 1074).toNat) := by
  obtain ⟨s, t, rfl, ho, hlt, ht⟩ := odd_part c h0 hc
  have hj := join_scale s t (e + t)
  rw [show e + (t : Int) - t = e by omega] at hj
  rw [hj, Int.mul_assoc, ← Int.pow_add, show t + (e + 1074).toNat = (e + t + 1074).toNat by omega]
  generalize hf : e + (t : Int) = f
  have hf1 : -1000 ≤ f := by omega
  have hf2 : f ≤ 900 := by omega
  obtain ⟨k, hk, h1, h2, h3, h4⟩ := rung_odd s.natAbs f ho hlt hf1 hf2
  obtain ⟨g1, g2, g3⟩ := mg_join s f
  have hb2 : neg (joinB s f) = decide (s < 0) := by
    unfold neg joinB
    have := rung_le s.natAbs f
    by_cases c : s < 0
    · rw [if_pos c, decide_eq_true c]; simp; omega
    · rw [if_neg c, decide_eq_false c]; simp; omega
  generalize joinB s f = b at *
  rw [← g1] at h3 h4
  have e1 : mOf b = s.natAbs * 2 ^ k := by unfold mOf; rw [h3]; rw [if_neg (by omega)]; omega
  have e2 : pOf b = f - k := by unfold pOf; rw [h3]; omega
  refine ⟨_, _, _, read_num b h4, by omega, ?_⟩
  rw [e1, e2, hb2]
  unfold Ieee.signed
  have hs : (((s.natAbs * 2 ^ k) <<< (f - (k : Int) + 1074).toNat : Nat) : Int) = (s.natAbs : Int) * 2 ^ (f + 1074).toNat := by
    rw [Nat.shiftLeft_eq, Nat.mul_assoc, ← Nat.pow_add, show k + (f - (k : Int) + 1074).toNat = (f + 1074).toNat by omega, Int.natCast_mul, Int.natCast_pow]
    rfl
  rw [hs]
  by_cases c : s < 0
  · rw [decide_eq_true c, if_pos rfl, ← Int.neg_mul, show -(s.natAbs : Int) = s by omega]
  · rw [decide_eq_false c, if_neg (by decide), show (s.natAbs : Int) = s by omega]
def zw (s : Bool) : Nat := if s then 9223372036854775808 else 0
theorem word_nz (x : Int) (p : Int) : dbl.word (decide (x < 0)) (rung x.natAbs p) = joinB x p := by
  rw [word_of]
  unfold joinB
  by_cases c : x < 0
  · rw [decide_eq_true c, if_pos rfl, if_pos c]
  · rw [decide_eq_false c, if_neg (by decide), if_neg c]
theorem natAbs_up (x : Int) (k : Nat) : (x * 2 ^ k).natAbs = x.natAbs * 2 ^ k := by
  rw [Int.natAbs_mul, Int.natAbs_pow]; rfl
theorem sum_of (s t : Bool) (m n : Nat) (i j : Int) (hi : -1074 ≤ i) (hj : -1074 ≤ j) (v v' : Int) (hv : Ieee.signed s m (i + 1074).toNat = v) (hv' : Ieee.signed t n (j + 1074).toNat = v') :
    ∃ sg, ((Ieee.Datum.number s m i).sum (.number t n j)).map dbl.write = some (if v + v' = 0 then zw sg else joinB (v + v') (-1074)) := by
  unfold Ieee.Datum.sum
  simp only [Option.map_some]
  generalize hb : min i j = base
  have hb0 : -1074 ≤ base := by omega
  have e1 : v = Ieee.signed s m (i - base).toNat * 2 ^ (base + 1074).toNat := by rw [← sg_mul, ← hv]; congr 1; omega
  have e2 : v' = Ieee.signed t n (j - base).toNat * 2 ^ (base + 1074).toNat := by rw [← sg_mul, ← hv']; congr 1; omega
  have e3 : v + v' = (Ieee.signed s m (i - base).toNat + Ieee.signed t n (j - base).toNat) * 2 ^ (base + 1074).toNat := by rw [e1, e2, Int.add_mul]
  generalize Ieee.signed s m (i - base).toNat + Ieee.signed t n (j - base).toNat = T at *
  unfold Ieee.Format.write
  refine ⟨s && t, ?_⟩
  show some (dbl.nearest _ T.natAbs base) = _
  rw [nearest_eq]
  by_cases c : T = 0
  · rw [e3, c, Int.zero_mul, if_pos rfl, if_pos rfl, word_of]
    have : rung (0 : Int).natAbs base = 0 := by unfold rung; simp
    rw [this]
    unfold zw
    cases (s && t) <;> rfl
  · have hp := pow_pos' (base + 1074).toNat
    have hne : v + v' ≠ 0 := by rw [e3]; exact Int.mul_ne_zero c (by omega)
    rw [if_neg c, if_neg hne, word_nz, e3]
    have := join_scale T (base + 1074).toNat base
    rw [show base - ((base + 1074).toNat : Int) = -1074 by omega] at this
    rw [this]
theorem add_rd {b b' : Nat} {v v' : Int} (h : Rd b v) (h' : Rd b' v') : ∃ sg, floatBits .add .f64 b b' = some (if v + v' = 0 then zw sg else joinB (v + v') (-1074)) := by
  obtain ⟨s, m, i, h1, h2, h3⟩ := h
  obtain ⟨t, n, j, k1, k2, k3⟩ := h'
  obtain ⟨sg, hs⟩ := sum_of s t m n i j h2 k2 v v' h3 k3
  refine ⟨sg, ?_⟩
  show Ieee.Format.add dbl b b' = _
  unfold Ieee.Format.add
  rw [h1, k1]
  exact hs
theorem sg_not (t : Bool) (n k : Nat) : Ieee.signed (!t) n k = -Ieee.signed t n k := by unfold Ieee.signed; cases t <;> simp
theorem sub_rd {b b' : Nat} {v v' : Int} (h : Rd b v) (h' : Rd b' v') : ∃ sg, floatBits .sub .f64 b b' = some (if v - v' = 0 then zw sg else joinB (v - v') (-1074)) := by
  obtain ⟨s, m, i, h1, h2, h3⟩ := h
  obtain ⟨t, n, j, k1, k2, k3⟩ := h'
  obtain ⟨sg, hs⟩ := sum_of s (!t) m n i j h2 k2 v (-v') h3 (by rw [sg_not, k3])
  refine ⟨sg, ?_⟩
  show Ieee.Format.sub dbl b b' = _
  unfold Ieee.Format.sub
  rw [h1, k1, Int.sub_eq_add_neg]
  exact hs
theorem sg_prod (s t : Bool) (m n a b : Nat) : Ieee.signed s m a * Ieee.signed t n b = Ieee.signed (s ^^ t) (m * n) (a + b) := by
  have h : ((m <<< a : Nat) : Int) * ((n <<< b : Nat) : Int) = (((m * n) <<< (a + b) : Nat) : Int) := by
    rw [← Int.natCast_mul]
    congr 1
    rw [Nat.shiftLeft_eq, Nat.shiftLeft_eq, Nat.shiftLeft_eq, Nat.pow_add, Nat.mul_mul_mul_comm]
  unfold Ieee.signed
  cases s <;> cases t <;> simp only [Bool.xor_false, Bool.xor_true, Bool.not_true, Bool.not_false, Bool.false_eq_true, if_true, if_false]
  · exact h
  · rw [Int.mul_neg, h]
  · rw [Int.neg_mul, h]
  · rw [Int.neg_mul_neg, h]
theorem mul_rd {b b' : Nat} {v v' : Int} (h : Rd b v) (h' : Rd b' v') : ∃ sg, floatBits .mul .f64 b b' = some (if v * v' = 0 then zw sg else joinB (v * v') (-2148)) := by
  obtain ⟨s, m, i, h1, h2, h3⟩ := h
  obtain ⟨t, n, j, k1, k2, k3⟩ := h'
  refine ⟨s ^^ t, ?_⟩
  show Ieee.Format.mul dbl b b' = _
  unfold Ieee.Format.mul
  rw [h1, k1]
  unfold Ieee.Datum.product
  simp only [Option.map_some]
  unfold Ieee.Format.write
  show some (dbl.nearest (s ^^ t) (m * n) (i + j)) = _
  have hv : v * v' = Ieee.signed (s ^^ t) (m * n) (i + j + 2148).toNat := by
    rw [← h3, ← k3, sg_prod]; congr 1; omega
  generalize (s ^^ t) = g at *
  generalize m * n = q at *
  rw [nearest_eq, hv, word_of]
  have hz := rung_scale q (i + j + 2148).toNat (i + j)
  rw [show i + j - ((i + j + 2148).toNat : Int) = -2148 by omega] at hz
  by_cases c : q = 0
  · subst c
    have e0 : ∀ k, Ieee.signed g 0 k = 0 := by intro k; cases g <;> simp [Ieee.signed]
    rw [e0, if_pos rfl]
    have : rung 0 (i + j) = 0 := by unfold rung; simp
    rw [this]
    unfold zw
    cases g <;> rfl
  · have hpos : 0 < q <<< (i + j + 2148).toNat := by rw [Nat.shiftLeft_eq]; exact Nat.mul_pos (by omega) (Nat.two_pow_pos _)
    have hne : Ieee.signed g q (i + j + 2148).toNat ≠ 0 := by unfold Ieee.signed; cases g <;> simp <;> omega
    rw [if_neg hne]
    unfold joinB
    have ha : (Ieee.signed g q (i + j + 2148).toNat).natAbs = q * 2 ^ (i + j + 2148).toNat := by
      unfold Ieee.signed
      rw [← Nat.shiftLeft_eq]
      generalize q <<< (i + j + 2148).toNat = z
      cases g
      · rw [if_neg (by decide)]; omega
      · rw [if_pos rfl]; omega
    rw [ha, hz]
    congr 2
    unfold Ieee.signed
    generalize q <<< (i + j + 2148).toNat = z at *
    cases g
    · simp only [Bool.false_eq_true, if_false]; rw [if_neg (by omega)]
    · simp only [if_true]; rw [if_pos (by omega)]
theorem order_rd {b b' : Nat} {v : Int} (h : Rd b v) (h' : Rd b' v) : FloatKind.f64.format.order b b' = some .eq := by
  obtain ⟨s, m, i, h1, h2, h3⟩ := h
  obtain ⟨t, n, j, k1, k2, k3⟩ := h'
  show dbl.order b b' = _
  unfold Ieee.Format.order
  rw [h1, k1]
  unfold Ieee.Datum.order
  dsimp only
  generalize hb : min i j = base
  have e1 : v = Ieee.signed s m (i - base).toNat * 2 ^ (base + 1074).toNat := by rw [← sg_mul, ← h3]; congr 1; omega
  have e2 : v = Ieee.signed t n (j - base).toNat * 2 ^ (base + 1074).toNat := by rw [← sg_mul, ← k3]; congr 1; omega
  have hp := pow_pos' (base + 1074).toNat
  have : Ieee.signed s m (i - base).toNat = Ieee.signed t n (j - base).toNat := Int.eq_of_mul_eq_mul_right (by omega) (e1.symm.trans e2)
  rw [this]
  simp

/-- A float that is c times 2^e. -/
def Fl (b : Nat) (c e : Int) : Prop := (c ≠ 0 ∧ b = joinB c e) ∨ (c = 0 ∧ ∃ s, b = zw s)
theorem fl_join (c e : Int) : Fl (joinB c e) c e := by
  by_cases h : c = 0
  · exact .inr ⟨h, false, by rw [h, join_zero]; rfl⟩
  · exact .inl ⟨h, rfl⟩
theorem rd_zw (s : Bool) : Rd (zw s) 0 := by cases s <;> first | exact rd_zero | exact rd_nzero
theorem Fl.rd {b : Nat} {c e : Int} (h : Fl b c e) (hc : c.natAbs ≤ 9007199254740992) (he1 : -300 ≤ e) (he2 : e ≤ 300) : Rd b (c * 2 ^ (e + 1074).toNat) := by
  rcases h with ⟨h0, rfl⟩ | ⟨rfl, s, rfl⟩
  · exact rd_join c e h0 hc he1 he2
  · rw [Int.zero_mul]; exact rd_zw s
theorem fl_of (x d f : Int) (sg : Bool) (hf : -1074 ≤ f) (h : x = d * 2 ^ (f + 1074).toNat) : Fl (if x = 0 then zw sg else joinB x (-1074)) d f := by
  have hp := pow_pos' (f + 1074).toNat
  by_cases c : d = 0
  · rw [if_pos (by rw [h, c, Int.zero_mul])]
    exact .inr ⟨c, sg, rfl⟩
  · have hne : x ≠ 0 := by rw [h]; exact Int.mul_ne_zero c (by omega)
    rw [if_neg hne]
    have := join_scale d (f + 1074).toNat f
    rw [show f - ((f + 1074).toNat : Int) = -1074 by omega] at this
    exact .inl ⟨c, by rw [h, this]⟩
theorem fl_add {b b' : Nat} {c e c' e' d f : Int} (h : Fl b c e) (h' : Fl b' c' e') (hc : c.natAbs ≤ 9007199254740992) (he1 : -300 ≤ e) (he2 : e ≤ 300) (hc' : c'.natAbs ≤ 9007199254740992) (he1' : -300 ≤ e') (he2' : e' ≤ 300)
    (hf : -1074 ≤ f) (hs : c * 2 ^ (e + 1074).toNat + c' * 2 ^ (e' + 1074).toNat = d * 2 ^ (f + 1074).toNat) : ∃ r, floatBits .add .f64 b b' = some r ∧ Fl r d f := by
  obtain ⟨sg, hr⟩ := add_rd (h.rd hc he1 he2) (h'.rd hc' he1' he2')
  exact ⟨_, hr, fl_of _ d f sg hf hs⟩
theorem fl_sub {b b' : Nat} {c e c' e' d f : Int} (h : Fl b c e) (h' : Fl b' c' e') (hc : c.natAbs ≤ 9007199254740992) (he1 : -300 ≤ e) (he2 : e ≤ 300) (hc' : c'.natAbs ≤ 9007199254740992) (he1' : -300 ≤ e') (he2' : e' ≤ 300)
    (hf : -1074 ≤ f) (hs : c * 2 ^ (e + 1074).toNat - c' * 2 ^ (e' + 1074).toNat = d * 2 ^ (f + 1074).toNat) : ∃ r, floatBits .sub .f64 b b' = some r ∧ Fl r d f := by
  obtain ⟨sg, hr⟩ := sub_rd (h.rd hc he1 he2) (h'.rd hc' he1' he2')
  exact ⟨_, hr, fl_of _ d f sg hf hs⟩
theorem fl_mul {b b' : Nat} {c e c' e' : Int} (h : Fl b c e) (h' : Fl b' c' e') (hc : c.natAbs ≤ 9007199254740992) (he1 : -300 ≤ e) (he2 : e ≤ 300) (hc' : c'.natAbs ≤ 9007199254740992) (he1' : -300 ≤ e') (he2' : e' ≤ 300) :
    ∃ r, floatBits .mul .f64 b b' = some r ∧ Fl r (c * c') (e + e') := by
  obtain ⟨sg, hr⟩ := mul_rd (h.rd hc he1 he2) (h'.rd hc' he1' he2')
  refine ⟨_, hr, ?_⟩
  have hx : c * 2 ^ (e + 1074).toNat * (c' * 2 ^ (e' + 1074).toNat) = c * c' * 2 ^ (e + e' + 2148).toNat := by
    rw [show (e + e' + 2148).toNat = (e + 1074).toNat + (e' + 1074).toNat by omega, Int.pow_add]
    grind
  rw [hx]
  have hp := pow_pos' (e + e' + 2148).toNat
  by_cases z : c * c' = 0
  · rw [z, Int.zero_mul, if_pos rfl]; exact .inr ⟨rfl, sg, rfl⟩
  · rw [if_neg (Int.mul_ne_zero z (by omega))]
    have := join_scale (c * c') (e + e' + 2148).toNat (e + e')
    rw [show e + e' - ((e + e' + 2148).toNat : Int) = -2148 by omega] at this
    exact .inl ⟨z, this⟩
theorem fl_eq {b b' : Nat} {c e : Int} (h : Fl b c e) (h' : Fl b' c e) (hc : c.natAbs ≤ 9007199254740992) (he1 : -300 ≤ e) (he2 : e ≤ 300) : FloatKind.f64.format.order b b' = some .eq :=
  order_rd (h.rd hc he1 he2) (h'.rd hc he1 he2)
/-- The same number, counted otherwise. -/
theorem fl_scale {b : Nat} {c e : Int} (k : Nat) (h : Fl b (c * 2 ^ k) (e - k)) : Fl b c e := by
  have hp := pow_pos' k
  rcases h with ⟨h0, rfl⟩ | ⟨h0, s, rfl⟩
  · refine .inl ⟨fun z => h0 (by rw [z, Int.zero_mul]), join_scale c k e⟩
  · refine .inr ⟨?_, s, rfl⟩
    rcases Int.mul_eq_zero.1 h0 with z | z
    · exact z
    · omega
end Go.Proofs.YtnhdgellckcnbaaDoor.Dy
