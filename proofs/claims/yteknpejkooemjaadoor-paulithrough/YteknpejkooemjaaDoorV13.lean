/- Strings compared; the document's Commute, as it is walked. -/
import Derived.Test.YteknpejkooemjaaDoorU13
import Derived.Laws.StructEq
namespace Go.Proofs.YteknpejkooemjaaDoor.Pau
open Go.RowKit Go.Shelf Go.Proofs.YteknpejkooemjaaDoor.Oct Go.Proofs.YteknpejkooemjaaDoor.Gt

theorem hS24 : Tryd.prog.underlying 24 = some (.struct (Tryd.prog.fieldsOf 24)) := by kernel_rfl
theorem hP24 : Tryd.prog.stoodInHeld 24 = false := by kernel_rfl
theorem eqIn (a b c d a' b' c' d' : Int) (w : World) : (Op.equalIn 10000 24 (.agg #[.int .i64 a, .int .u64 b, .int .u64 c, .int .i64 d]) (.agg #[.int .i64 a', .int .u64 b', .int .u64 c', .int .i64 d'])).run Tryd.prog w = .ok (a == a' && b == b' && c == c' && d == d') w := by
  rw [show (10000 : Nat) = 9999 + 1 from rfl, run_equalIn_agg w 9999 24 _ _ hS24 hP24]
  simp only [Program.fieldsOf, Tryd.underlying24]
  go_simp
  by_cases h1 : a = a' <;> by_cases h2 : b = b' <;> by_cases h3 : c = c' <;> by_cases h4 : d = d' <;> simp [h1, h2, h3, h4]
theorem eql_pauli (a b c d a' b' c' d' : Int) (w : World) : (binOp .eql 24 (.agg #[.int .i64 a, .int .u64 b, .int .u64 c, .int .i64 d]) (.agg #[.int .i64 a', .int .u64 b', .int .u64 c', .int .i64 d'])).run Tryd.prog w = .ok (.bool (a == a' && b == b' && c == c' && d == d')) w := by
  rw [run_eql_struct, eqIn]
  rfl
theorem neq_pauli (a b c d a' b' c' d' : Int) (w : World) : (binOp .neq 24 (.agg #[.int .i64 a, .int .u64 b, .int .u64 c, .int .i64 d]) (.agg #[.int .i64 a', .int .u64 b', .int .u64 c', .int .i64 d'])).run Tryd.prog w = .ok (.bool (!(a == a' && b == b' && c == c' && d == d'))) w := by
  rw [run_neq_struct, eqIn]
  rfl
/-- The same string, compared. -/
theorem eql_same (a b c d : Int) (w : World) : (binOp .eql 24 (.agg #[.int .i64 a, .int .u64 b, .int .u64 c, .int .i64 d]) (.agg #[.int .i64 a, .int .u64 b, .int .u64 c, .int .i64 d])).run Tryd.prog w = .ok (.bool true) w := by
  rw [eql_pauli]
  simp
theorem neq_same (a b c d : Int) (w : World) : (binOp .neq 24 (.agg #[.int .i64 a, .int .u64 b, .int .u64 c, .int .i64 d]) (.agg #[.int .i64 a, .int .u64 b, .int .u64 c, .int .i64 d])).run Tryd.prog w = .ok (.bool false) w := by
  rw [neq_pauli]
  simp
theorem com_beq {a b : P} (h : fitP a b = true) : ((mulP a b).n == (mulP b a).n && ((mulP a b).x : Int) == ((mulP b a).x : Int) && ((mulP a b).z : Int) == ((mulP b a).z : Int) && (mulP a b).ph == (mulP b a).ph) = comB a b := by
  rw [Bool.eq_iff_iff, com_iff h]
  simp only [Bool.and_eq_true, beq_iff_eq, Int.ofNat_inj]
  constructor
  · rintro ⟨⟨⟨h1, h2⟩, h3⟩, h4⟩
    exact P.ext' h1 h2 h3 h4
  · intro e
    rw [e]
    exact ⟨⟨⟨rfl, rfl⟩, rfl⟩, rfl⟩
theorem fit_comm {a b : P} (h : fitP a b = true) : fitP b a = true := by
  obtain ⟨h1, h2, h3⟩ := fit_iff.1 h
  exact fit_iff.2 ⟨h2, h1, h3.symm⟩
set_option maxRecDepth 100000 in
set_option maxHeartbeats 4000000 in
theorem dCommute (a b : P) (ha : Wd a) (hb : Wd b) (w : World) : Calls Tryd.prog 11 #[pV a, pV b] w fun e w' => e = .returned (.tuple #[.bool (fitP a b && comB a b), .int .i64 (if fitP a b = true then 0 else 130)]) ∧ Below w.heap.size w w' := by
  have c1 := fun W => dMul a b ha hb W
  have c2 := fun W => dMul b a hb ha W
  unfold mulR at c1 c2
  cases hf : fitP a b
  · rw [hf] at c1
    simp only [Bool.false_eq_true, if_false, Bool.false_and] at c1 ⊢
    clear c2 hf ha hb
    obtain ⟨n, x, z, ph⟩ := a
    obtain ⟨n', x', z', ph'⟩ := b
    unfold oP pV at *
    simp only at *
    have HB := hide (bkp (bnew w (.cells #[.int .i64 n, .int .u64 (x : Int), .int .u64 (z : Int), .int .i64 ph] 24)) (bnew _ (.cells #[.int .i64 n', .int .u64 (x' : Int), .int .u64 (z' : Int), .int .i64 ph'] 24)))
    go_enter Tryd.func11, Tryd.ntmps11
    go_wp2_with fail
    refine (c1 _).mono ?_
    rintro e w1 ⟨rfl, hb1⟩
    have HB1 := hide (bkp (bkp HB.out hb1) (bnew w1 (.cells #[.int .i64 0, .int .u64 ((0 : Nat) : Int), .int .u64 ((0 : Nat) : Int), .int .i64 0] 24)))
    rw [show (((0 : Nat)) : Int) = 0 from rfl] at HB1
    clear hb1 HB
    go_wp2_with fail
    go_ret2
    exact ⟨rfl, HB1.out⟩
  · rw [hf] at c1
    rw [fit_comm hf] at c2
    have hcb := com_beq hf
    simp only [if_true, Bool.true_and] at c1 c2 ⊢
    generalize comB a b = r at *
    generalize mulP a b = m1 at *
    generalize mulP b a = m2 at *
    clear hf ha hb
    obtain ⟨n, x, z, ph⟩ := a
    obtain ⟨n', x', z', ph'⟩ := b
    obtain ⟨n1, x1, z1, p1⟩ := m1
    obtain ⟨n2, x2, z2, p2⟩ := m2
    unfold pV at *
    simp only at *
    have heq := fun W => eql_pauli n1 (x1 : Int) (z1 : Int) p1 n2 (x2 : Int) (z2 : Int) p2 W
    rw [hcb] at heq
    clear hcb
    obtain ⟨G1, G2⟩ := At4.two w (.int .i64 n) (.int .u64 (x : Int)) (.int .u64 (z : Int)) (.int .i64 ph) (.int .i64 n') (.int .u64 (x' : Int)) (.int .u64 (z' : Int)) (.int .i64 ph')
    have HG1 := hide G1
    have HG2 := hide G2
    have HB := hide (bkp (bnew w (.cells #[.int .i64 n, .int .u64 (x : Int), .int .u64 (z : Int), .int .i64 ph] 24)) (bnew _ (.cells #[.int .i64 n', .int .u64 (x' : Int), .int .u64 (z' : Int), .int .i64 ph'] 24)))
    clear G1 G2
    go_enter Tryd.func11, Tryd.ntmps11
    go_wp2_with fail
    refine (c1 _).mono ?_
    rintro e w1 ⟨rfl, hb1⟩
    have hn1 := bnew w1 (.cells #[.int .i64 n1, .int .u64 (x1 : Int), .int .u64 (z1 : Int), .int .i64 p1] 24)
    have HB1 := hide (bkp (bkp HB.out hb1) hn1)
    have K1 := hide ((HG1.out.below hb1).below hn1)
    have K2 := hide ((HG2.out.below hb1).below hn1)
    have K3 := hide (At4.new w1 (.int .i64 n1) (.int .u64 (x1 : Int)) (.int .u64 (z1 : Int)) (.int .i64 p1))
    clear hb1 HB HG1 HG2 c1 hn1
    obtain ⟨a0, a1, a2, a3, a4⟩ := K1.out.cells
    obtain ⟨b0, b1, b2, b3, b4⟩ := K2.out.cells
    go_wp2_with fail
    refine (c2 _).mono ?_
    rintro e w2 ⟨rfl, hb2⟩
    have hn2 := bnew w2 (.cells #[.int .i64 n2, .int .u64 (x2 : Int), .int .u64 (z2 : Int), .int .i64 p2] 24)
    have HB2 := hide (bkp (bkp HB1.out hb2) hn2)
    have L3 := hide ((K3.out.below hb2).below hn2)
    have L4 := hide (At4.new w2 (.int .i64 n2) (.int .u64 (x2 : Int)) (.int .u64 (z2 : Int)) (.int .i64 p2))
    clear hb2 HB1 K1 K2 K3 c2 hn2 a0 a1 a2 a3 a4 b0 b1 b2 b3 b4
    obtain ⟨a0, a1, a2, a3, a4⟩ := L3.out.cells
    obtain ⟨b0, b1, b2, b3, b4⟩ := L4.out.cells
    go_wp2_with fail
    go_ret2
    exact ⟨rfl, HB2.out⟩
end Go.Proofs.YteknpejkooemjaaDoor.Pau
