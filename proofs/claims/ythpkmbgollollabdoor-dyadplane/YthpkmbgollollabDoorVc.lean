/- Where dyads are not refused, the floats that they are made reckon as they do. -/
import Derived.Test.YthpkmbgollollabDoorVb
namespace Go.Proofs.YthpkmbgollollabDoor.Dy
open Go.RowKit Go.Lib Go.Shelf Go.Proofs.YthpkmbgollollabDoor.Sca

theorem sc_up (x e : Int) (h0 : 0 ≤ e) (h1 : e ≤ 60) : x * 2 ^ (-e + 1074).toNat = sc x e * 2 ^ 1014 := by
  unfold sc
  rw [Int.mul_assoc, ← Int.pow_add, show (-e + 1074).toNat = (60 - e).toNat + 1014 by omega]
abbrev feq (a b : Nat) : Prop := FloatKind.f64.format.order a b = some .eq
theorem add_one {x y z e f g : Int} (hx : x.natAbs ≤ 9007199254740992) (hy : y.natAbs ≤ 9007199254740992) (hz : z.natAbs ≤ 9007199254740992) (he0 : 0 ≤ e) (he : e ≤ 60) (hf0 : 0 ≤ f) (hf : f ≤ 60) (hg0 : 0 ≤ g) (hg : g ≤ 60)
    (h : sc z g = sc x e + sc y f) : ∃ r, floatBits .add .f64 (joinB x (-e)) (joinB y (-f)) = some r ∧ feq (joinB z (-g)) r := by
  obtain ⟨r, h1, h2⟩ := fl_add (d := z) (f := -g) (fl_join x (-e)) (fl_join y (-f)) hx (by omega) (by omega) hy (by omega) (by omega) (by omega) (by rw [sc_up x e he0 he, sc_up y f hf0 hf, sc_up z g hg0 hg, h, Int.add_mul])
  exact ⟨r, h1, fl_eq (fl_join z (-g)) h2 hz (by omega) (by omega)⟩
theorem sub_one {x y z e f g : Int} (hx : x.natAbs ≤ 9007199254740992) (hy : y.natAbs ≤ 9007199254740992) (hz : z.natAbs ≤ 9007199254740992) (he0 : 0 ≤ e) (he : e ≤ 60) (hf0 : 0 ≤ f) (hf : f ≤ 60) (hg0 : 0 ≤ g) (hg : g ≤ 60)
    (h : sc z g = sc x e - sc y f) : ∃ r, floatBits .sub .f64 (joinB x (-e)) (joinB y (-f)) = some r ∧ feq (joinB z (-g)) r := by
  obtain ⟨r, h1, h2⟩ := fl_sub (d := z) (f := -g) (fl_join x (-e)) (fl_join y (-f)) hx (by omega) (by omega) hy (by omega) (by omega) (by omega) (by rw [sc_up x e he0 he, sc_up y f hf0 hf, sc_up z g hg0 hg, h, Int.sub_mul])
  exact ⟨r, h1, fl_eq (fl_join z (-g)) h2 hz (by omega) (by omega)⟩
theorem Rt.bd {d : DD} (h : Rt d) : d.re.natAbs ≤ 9007199254740992 ∧ d.im.natAbs ≤ 9007199254740992 ∧ 0 ≤ d.ex ∧ d.ex ≤ 60 := by
  have := h.1
  unfold inR at this
  omega
theorem plane_add {a b p : DD} (h : addR a b = (p, 0)) : ∃ r s, floatBits .add .f64 (joinB a.re (-a.ex)) (joinB b.re (-b.ex)) = some r ∧ floatBits .add .f64 (joinB a.im (-a.ex)) (joinB b.im (-b.ex)) = some s ∧ feq (joinB p.re (-p.ex)) r ∧ feq (joinB p.im (-p.ex)) s := by
  obtain ⟨ha, hb, hp, hR⟩ := addR_ok h
  obtain ⟨e1, e2⟩ := addP_sc ha hb hp
  obtain ⟨a1, a2, a3, a4⟩ := ha.bd
  obtain ⟨b1, b2, b3, b4⟩ := hb.bd
  obtain ⟨p1, p2, p3, p4⟩ := hR.bd
  obtain ⟨r, r1, r2⟩ := add_one a1 b1 p1 a3 a4 b3 b4 p3 p4 e1
  obtain ⟨s, s1, s2⟩ := add_one a2 b2 p2 a3 a4 b3 b4 p3 p4 e2
  exact ⟨r, s, r1, s1, r2, s2⟩
theorem subR_ok {a b d : DD} (h : subR a b = (d, 0)) : Rt a ∧ Rt b ∧ addP a (negD b) = some d ∧ Rt d := by
  have h' : addR a (negD b) = (d, 0) := by
    unfold subR at h
    unfold addR
    by_cases c : Rt a ∧ Rt b
    · rw [if_pos c] at h
      rw [if_pos ⟨c.1, neg_right c.2⟩]
      exact h
    · rw [if_neg c] at h
      simp at h
  obtain ⟨h1, h2, h3, h4⟩ := addR_ok h'
  exact ⟨h1, neg_right'.1 h2, h3, h4⟩
theorem plane_sub {a b p : DD} (h : subR a b = (p, 0)) : ∃ r s, floatBits .sub .f64 (joinB a.re (-a.ex)) (joinB b.re (-b.ex)) = some r ∧ floatBits .sub .f64 (joinB a.im (-a.ex)) (joinB b.im (-b.ex)) = some s ∧ feq (joinB p.re (-p.ex)) r ∧ feq (joinB p.im (-p.ex)) s := by
  obtain ⟨ha, hb, hp, hR⟩ := subR_ok h
  obtain ⟨e1, e2⟩ := addP_sc ha (neg_right hb) hp
  have f1 : sc p.re p.ex = sc a.re a.ex - sc b.re b.ex := by rw [e1, Int.sub_eq_add_neg, ← sc_neg]; rfl
  have f2 : sc p.im p.ex = sc a.im a.ex - sc b.im b.ex := by rw [e2, Int.sub_eq_add_neg, ← sc_neg]; rfl
  obtain ⟨a1, a2, a3, a4⟩ := ha.bd
  obtain ⟨b1, b2, b3, b4⟩ := hb.bd
  obtain ⟨p1, p2, p3, p4⟩ := hR.bd
  obtain ⟨r, r1, r2⟩ := sub_one a1 b1 p1 a3 a4 b3 b4 p3 p4 f1
  obtain ⟨s, s1, s2⟩ := sub_one a2 b2 p2 a3 a4 b3 b4 p3 p4 f2
  exact ⟨r, s, r1, s1, r2, s2⟩
/-- Are a dyad's parts from -2^26 to 2^26? -/
def sm (d : DD) : Prop := -67108864 ≤ d.re ∧ d.re ≤ 67108864 ∧ -67108864 ≤ d.im ∧ d.im ≤ 67108864
theorem prod_sm {x y : Int} (hx : x.natAbs ≤ 67108864) (hy : y.natAbs ≤ 67108864) : (x * y).natAbs ≤ 4503599627370496 := by
  rw [Int.natAbs_mul]; exact Nat.mul_le_mul hx hy
theorem plane_mul {a b p : DD} (h : mulR a b = (p, 0)) (ha' : sm a) (hb' : sm b) : ∃ x1 x2 x3 x4 r s, floatBits .mul .f64 (joinB a.re (-a.ex)) (joinB b.re (-b.ex)) = some x1 ∧ floatBits .mul .f64 (joinB a.im (-a.ex)) (joinB b.im (-b.ex)) = some x2 ∧
    floatBits .mul .f64 (joinB a.re (-a.ex)) (joinB b.im (-b.ex)) = some x3 ∧ floatBits .mul .f64 (joinB a.im (-a.ex)) (joinB b.re (-b.ex)) = some x4 ∧ floatBits .sub .f64 x1 x2 = some r ∧ floatBits .add .f64 x3 x4 = some s ∧ feq (joinB p.re (-p.ex)) r ∧ feq (joinB p.im (-p.ex)) s := by
  obtain ⟨ha, hb, hp, hR⟩ := mulR_ok h
  obtain ⟨a1, a2, a3, a4⟩ := ha.bd
  obtain ⟨b1, b2, b3, b4⟩ := hb.bd
  obtain ⟨p1, p2, p3, p4⟩ := hR.bd
  unfold mulP at hp
  split at hp
  · cases hp
  obtain ⟨k, k1, k2, k3, k4⟩ := mkP_val hp
  unfold sm at ha' hb'
  have n1 := prod_sm (x := a.re) (y := b.re) (by omega) (by omega)
  have n2 := prod_sm (x := a.im) (y := b.im) (by omega) (by omega)
  have n3 := prod_sm (x := a.re) (y := b.im) (by omega) (by omega)
  have n4 := prod_sm (x := a.im) (y := b.re) (by omega) (by omega)
  obtain ⟨x1, f1, g1⟩ := fl_mul (fl_join a.re (-a.ex)) (fl_join b.re (-b.ex)) a1 (by omega) (by omega) b1 (by omega) (by omega)
  obtain ⟨x2, f2, g2⟩ := fl_mul (fl_join a.im (-a.ex)) (fl_join b.im (-b.ex)) a2 (by omega) (by omega) b2 (by omega) (by omega)
  obtain ⟨x3, f3, g3⟩ := fl_mul (fl_join a.re (-a.ex)) (fl_join b.im (-b.ex)) a1 (by omega) (by omega) b2 (by omega) (by omega)
  obtain ⟨x4, f4, g4⟩ := fl_mul (fl_join a.im (-a.ex)) (fl_join b.re (-b.ex)) a2 (by omega) (by omega) b1 (by omega) (by omega)
  generalize a.re * b.re = m1 at *
  generalize a.im * b.im = m2 at *
  generalize a.re * b.im = m3 at *
  generalize a.im * b.re = m4 at *
  obtain ⟨r, f5, g5⟩ := fl_sub (d := m1 - m2) (f := -a.ex + -b.ex) g1 g2 (by omega) (by omega) (by omega) (by omega) (by omega) (by omega) (by omega) (by rw [Int.sub_mul])
  obtain ⟨s, f6, g6⟩ := fl_add (d := m3 + m4) (f := -a.ex + -b.ex) g3 g4 (by omega) (by omega) (by omega) (by omega) (by omega) (by omega) (by omega) (by rw [Int.add_mul])
  rw [show -a.ex + -b.ex = -p.ex - (k : Int) by omega, k3] at g5
  rw [show -a.ex + -b.ex = -p.ex - (k : Int) by omega, k4] at g6
  exact ⟨x1, x2, x3, x4, r, s, f1, f2, f3, f4, f5, f6, fl_eq (fl_join _ _) (fl_scale k g5) p1 (by omega) (by omega), fl_eq (fl_join _ _) (fl_scale k g6) p2 (by omega) (by omega)⟩
set_option maxRecDepth 100000 in
set_option maxHeartbeats 1000000 in
theorem vSmall (d : DD) (w : World) : Calls Tryd.prog 13 #[dV d] w fun e w' => (∃ q, e = .returned (.bool q) ∧ (q = true → sm d)) ∧ Below w.heap.size w w' := by
  obtain ⟨re, im, ex⟩ := d
  unfold dV sm
  dsimp only
  by_cases c1 : -67108864 ≤ re
  · by_cases c2 : re ≤ 67108864
    · by_cases c3 : -67108864 ≤ im
      · have z1 : decide (-67108864 ≤ re) = true := decide_eq_true c1
        have z2 : decide (re ≤ 67108864) = true := decide_eq_true c2
        have z3 : decide (-67108864 ≤ im) = true := decide_eq_true c3
        go_enter Tryd.func13, Tryd.ntmps13
        go_wp2_with fail
        go_ret
        exact ⟨⟨_, rfl, fun h => ⟨c1, c2, c3, of_decide_eq_true h⟩⟩, below_new _ _⟩
      · have z1 : decide (-67108864 ≤ re) = true := decide_eq_true c1
        have z2 : decide (re ≤ 67108864) = true := decide_eq_true c2
        have z3 : decide (-67108864 ≤ im) = false := decide_eq_false c3
        go_enter Tryd.func13, Tryd.ntmps13
        go_wp2_with fail
        go_ret
        exact ⟨.inl rfl, below_new _ _⟩
    · have z1 : decide (-67108864 ≤ re) = true := decide_eq_true c1
      have z2 : decide (re ≤ 67108864) = false := decide_eq_false c2
      go_enter Tryd.func13, Tryd.ntmps13
      go_wp2_with fail
      go_ret
      exact ⟨.inl rfl, below_new _ _⟩
  · have z1 : decide (-67108864 ≤ re) = false := decide_eq_false c1
    go_enter Tryd.func13, Tryd.ntmps13
    go_wp2_with fail
    go_ret
    exact ⟨.inl rfl, below_new _ _⟩
end Go.Proofs.YthpkmbgollollabDoor.Dy
