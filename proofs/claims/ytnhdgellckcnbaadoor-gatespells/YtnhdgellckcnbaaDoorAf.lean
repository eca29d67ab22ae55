/- Exact complex numbers as floats: plane's Add, Mul and Equal on them; Turn and Clean of one. -/
import Derived.Test.YtnhdgellckcnbaaDoorVa
import Derived.Test.YtnhdgellckcnbaaDoorAg
namespace Go.Proofs.YtnhdgellckcnbaaDoor.Gt
open Go.RowKit Go.Proofs.YtnhdgellckcnbaaDoor.Oct Go.Proofs.YtnhdgellckcnbaaDoor.Dy Go.Proofs.YtnhdgellckcnbaaDoor.Sca

/-- A complex number of whole parts of a power of two. -/
def Cx (p : Nat × Nat) (z : Int × Int) (e : Int) : Prop := Fl p.1 z.1 e ∧ Fl p.2 z.2 e
def zadd (a b : Int × Int) : Int × Int := (a.1 + b.1, a.2 + b.2)
def zmul (a b : Int × Int) : Int × Int := (a.1 * b.1 - a.2 * b.2, a.1 * b.2 + a.2 * b.1)
/-- Parts of a size. -/
def zle (a : Int × Int) (n : Nat) : Prop := a.1.natAbs ≤ n ∧ a.2.natAbs ≤ n
theorem order_rd_ne {b b' : Nat} {v v' : Int} (h : Rd b v) (h' : Rd b' v') (hne : v ≠ v') : (FloatKind.f64.format.order b b' == some .eq) = false := by
  obtain ⟨s, m, i, h1, h2, h3⟩ := h
  obtain ⟨t, n, j, k1, k2, k3⟩ := h'
  show (dbl.order b b' == some .eq) = false
  unfold Ieee.Format.order
  rw [h1, k1]
  unfold Ieee.Datum.order
  dsimp only
  generalize hb : min i j = base
  have e1 : v = Ieee.signed s m (i - base).toNat * 2 ^ (base + 1074).toNat := by rw [← sg_mul, ← h3]; congr 1; omega
  have e2 : v' = Ieee.signed t n (j - base).toNat * 2 ^ (base + 1074).toNat := by rw [← sg_mul, ← k3]; congr 1; omega
  generalize Ieee.signed s m (i - base).toNat = x at *
  generalize Ieee.signed t n (j - base).toNat = y at *
  have hxy : x ≠ y := fun e => hne (by rw [e1, e2, e])
  have hcmp : compare x y ≠ .eq := by
    intro e
    exact hxy (Int.compare_eq_eq.1 e)
  simp [hcmp]
theorem fl_ord {b b' : Nat} {c c' e : Int} (h : Fl b c e) (h' : Fl b' c' e) (hc : c.natAbs ≤ 9007199254740992) (hc' : c'.natAbs ≤ 9007199254740992) (he1 : -300 ≤ e) (he2 : e ≤ 300) : (FloatKind.f64.format.order b b' == some .eq) = decide (c = c') := by
  by_cases hh : c = c'
  · subst hh
    rw [fl_eq h h' hc he1 he2]
    simp
  · rw [decide_eq_false hh]
    refine order_rd_ne (h.rd hc he1 he2) (h'.rd hc' he1 he2) ?_
    have hp := pow_pos' (e + 1074).toNat
    intro e'
    exact hh (Int.eq_of_mul_eq_mul_right (by omega) e')
set_option maxRecDepth 100000 in
theorem pAdd (a b c d r s : Nat) (h1 : floatBits .add .f64 a c = some r) (h2 : floatBits .add .f64 b d = some s) (w : World) :
    Calls Tryd.prog 67 #[.complex .f64 a b, .complex .f64 c d] w fun e w' => e = .returned (.complex .f64 r s) ∧ w' = w := by
  have ha := fun t w => run_float_arith (P := Tryd.prog) w .add t .f64 a c r h1
  have hb := fun t w => run_float_arith (P := Tryd.prog) w .add t .f64 b d s h2
  clear h1 h2
  go_enter Tryd.func67, Tryd.ntmps67
  go_wp2_with fail
  go_ret
  exact ⟨rfl, rfl⟩
set_option maxRecDepth 100000 in
theorem pMul (a b c d x1 x2 x3 x4 r s : Nat) (h1 : floatBits .mul .f64 a c = some x1) (h2 : floatBits .mul .f64 b d = some x2) (h3 : floatBits .mul .f64 a d = some x3) (h4 : floatBits .mul .f64 b c = some x4)
    (h5 : floatBits .sub .f64 x1 x2 = some r) (h6 : floatBits .add .f64 x3 x4 = some s) (w : World) :
    Calls Tryd.prog 68 #[.complex .f64 a b, .complex .f64 c d] w fun e w' => e = .returned (.complex .f64 r s) ∧ w' = w := by
  have e1 := fun t w => run_float_arith (P := Tryd.prog) w .mul t .f64 a c x1 h1
  have e2 := fun t w => run_float_arith (P := Tryd.prog) w .mul t .f64 b d x2 h2
  have e3 := fun t w => run_float_arith (P := Tryd.prog) w .mul t .f64 a d x3 h3
  have e4 := fun t w => run_float_arith (P := Tryd.prog) w .mul t .f64 b c x4 h4
  have e5 := fun t w => run_float_arith (P := Tryd.prog) w .sub t .f64 x1 x2 r h5
  have e6 := fun t w => run_float_arith (P := Tryd.prog) w .add t .f64 x3 x4 s h6
  clear h1 h2 h3 h4 h5 h6
  go_enter Tryd.func68, Tryd.ntmps68
  go_wp2_with fail
  go_ret
  exact ⟨rfl, rfl⟩
set_option maxRecDepth 100000 in
theorem pEqual (a b c d : Nat) (x y : Bool) (e1 : (FloatKind.f64.format.order a c == some Ordering.eq) = x) (e2 : (FloatKind.f64.format.order b d == some Ordering.eq) = y) (w : World) :
    Calls Tryd.prog 70 #[.complex .f64 a b, .complex .f64 c d] w fun e w' => e = .returned (.bool (x && y)) ∧ w' = w := by
  cases x <;> cases y
  all_goals
    go_enter Tryd.func70, Tryd.ntmps70
    go_wp2_with fail
    go_ret
    exact ⟨rfl, rfl⟩
/-- Add, exact. -/
theorem cx_add {p q : Nat × Nat} {a b : Int × Int} {e : Int} (h : Cx p a e) (k : Cx q b e) (ha : zle a 4503599627370496) (hb : zle b 4503599627370496) (he1 : -300 ≤ e) (he2 : e ≤ 300) :
    ∃ r : Nat × Nat, Cx r (zadd a b) e ∧ ∀ w, Calls Tryd.prog 67 #[.complex .f64 p.1 p.2, .complex .f64 q.1 q.2] w fun e w' => e = .returned (.complex .f64 r.1 r.2) ∧ w' = w := by
  obtain ⟨r1, e1, f1⟩ := fl_add (d := a.1 + b.1) (f := e) h.1 k.1 (by have := ha.1; omega) he1 he2 (by have := hb.1; omega) he1 he2 (by omega) (by rw [Int.add_mul])
  obtain ⟨r2, e2, f2⟩ := fl_add (d := a.2 + b.2) (f := e) h.2 k.2 (by have := ha.2; omega) he1 he2 (by have := hb.2; omega) he1 he2 (by omega) (by rw [Int.add_mul])
  exact ⟨(r1, r2), ⟨f1, f2⟩, fun w => pAdd _ _ _ _ _ _ e1 e2 w⟩
theorem natAbs_mul_le {a b : Int} {n m : Nat} (ha : a.natAbs ≤ n) (hb : b.natAbs ≤ m) : (a * b).natAbs ≤ n * m := by rw [Int.natAbs_mul]; exact Nat.mul_le_mul ha hb
theorem zmul_le {a b : Int × Int} {n m : Nat} (ha : zle a n) (hb : zle b m) : zle (zmul a b) (2 * (n * m)) := by
  have h1 := natAbs_mul_le ha.1 hb.1
  have h2 := natAbs_mul_le ha.2 hb.2
  have h3 := natAbs_mul_le ha.1 hb.2
  have h4 := natAbs_mul_le ha.2 hb.1
  unfold zmul zle
  dsimp only
  omega
theorem zadd_le {a b : Int × Int} {n m : Nat} (ha : zle a n) (hb : zle b m) : zle (zadd a b) (n + m) := by
  have h1 := ha.1; have h2 := ha.2; have h3 := hb.1; have h4 := hb.2
  unfold zadd zle
  dsimp only
  omega
/-- Mul, exact. -/
theorem cx_mul {p q : Nat × Nat} {a b : Int × Int} {e e' : Int} (h : Cx p a e) (k : Cx q b e') (ha : zle a 1048576) (hb : zle b 1048576) (he1 : -100 ≤ e) (he2 : e ≤ 100) (he1' : -100 ≤ e') (he2' : e' ≤ 100) :
    ∃ r : Nat × Nat, Cx r (zmul a b) (e + e') ∧ ∀ w, Calls Tryd.prog 68 #[.complex .f64 p.1 p.2, .complex .f64 q.1 q.2] w fun e w' => e = .returned (.complex .f64 r.1 r.2) ∧ w' = w := by
  have a1 := ha.1; have a2 := ha.2; have b1 := hb.1; have b2 := hb.2
  obtain ⟨x1, e1, f1⟩ := fl_mul h.1 k.1 (by omega) (by omega) (by omega) (by omega) (by omega) (by omega)
  obtain ⟨x2, e2, f2⟩ := fl_mul h.2 k.2 (by omega) (by omega) (by omega) (by omega) (by omega) (by omega)
  obtain ⟨x3, e3, f3⟩ := fl_mul h.1 k.2 (by omega) (by omega) (by omega) (by omega) (by omega) (by omega)
  obtain ⟨x4, e4, f4⟩ := fl_mul h.2 k.1 (by omega) (by omega) (by omega) (by omega) (by omega) (by omega)
  have m1 := natAbs_mul_le a1 b1
  have m2 := natAbs_mul_le a2 b2
  have m3 := natAbs_mul_le a1 b2
  have m4 := natAbs_mul_le a2 b1
  obtain ⟨r1, e5, f5⟩ := fl_sub (d := a.1 * b.1 - a.2 * b.2) (f := e + e') f1 f2 (by omega) (by omega) (by omega) (by omega) (by omega) (by omega) (by omega) (by rw [Int.sub_mul])
  obtain ⟨r2, e6, f6⟩ := fl_add (d := a.1 * b.2 + a.2 * b.1) (f := e + e') f3 f4 (by omega) (by omega) (by omega) (by omega) (by omega) (by omega) (by omega) (by rw [Int.add_mul])
  exact ⟨(r1, r2), ⟨f5, f6⟩, fun w => pMul _ _ _ _ _ _ _ _ _ _ e1 e2 e3 e4 e5 e6 w⟩
/-- Equal, of exact ones. -/
theorem cx_equal {p q : Nat × Nat} {a b : Int × Int} {e : Int} (h : Cx p a e) (k : Cx q b e) (ha : zle a 4503599627370496) (hb : zle b 4503599627370496) (he1 : -300 ≤ e) (he2 : e ≤ 300) (w : World) :
    Calls Tryd.prog 70 #[.complex .f64 p.1 p.2, .complex .f64 q.1 q.2] w fun e w' => e = .returned (.bool (decide (a = b))) ∧ w' = w := by
  have c := pEqual p.1 p.2 q.1 q.2 _ _ (fl_ord h.1 k.1 (by have := ha.1; omega) (by have := hb.1; omega) he1 he2) (fl_ord h.2 k.2 (by have := ha.2; omega) (by have := hb.2; omega) he1 he2) w
  have : (decide (a.1 = b.1) && decide (a.2 = b.2)) = decide (a = b) := by
    obtain ⟨a1, a2⟩ := a
    obtain ⟨b1, b2⟩ := b
    simp
  rw [this] at c
  exact c
end Go.Proofs.YtnhdgellckcnbaaDoor.Gt
