/- What the calls of DyadPlane answer. -/
import Derived.Test.YthpkmbgollollabDoorJa
import Derived.Test.YthpkmbgollollabDoorEa
import Derived.Test.YthpkmbgollollabDoorVc
namespace Go.Proofs.YthpkmbgollollabDoor.Dy
open Go.RowKit Go.Lib Go.Shelf Go.Proofs.YthpkmbgollollabDoor.Sca

/-- What a call answers, wherever it is called. -/
abbrev Ans (f : FuncId) (args : Array Value) (v : Value) : Prop := ∀ w, Calls Tryd.prog f args w fun e w' => e = .returned v ∧ Below w.heap.size w w'
abbrev AnsT (f : FuncId) (args : Array Value) (v : Value) : Prop := ∀ w, Tz w → Calls Tryd.prog f args w fun e w' => e = .returned v ∧ Below w.heap.size w w'
abbrev tri (a b c : Int) : Value := .agg #[.int .i64 a, .int .i64 b, .int .i64 c]
abbrev cpx (a b : Nat) : Value := .complex .f64 a b
theorem errno_no {z : DD × Int} (h : z.2 ≠ 0) : (z.2 == 0) = false := by rw [beq_eq_false_iff_ne]; exact h
theorem pair_eq {z : DD × Int} (h : z.2 = 0) : z = (⟨z.1.re, z.1.im, z.1.ex⟩, 0) := by rw [← h]
theorem packAdd (a b : DD) (ha : d64 a) (hb : d64 b) : ∃ p1 p2 p3 g, AnsT 7 #[dV a, dV b] (.tuple #[tri p1 p2 p3, .int .i64 g]) ∧ ((g == 0) = false ∨ (g = 0 ∧ ∃ z1 z2 r s, AnsT 4 #[tri p1 p2 p3] (.tuple #[cpx z1 z2, .int .i64 0]) ∧
    Ans 9 #[cpx (joinB a.re (-a.ex)) (joinB a.im (-a.ex)), cpx (joinB b.re (-b.ex)) (joinB b.im (-b.ex))] (cpx r s) ∧ Ans 8 #[cpx z1 z2, cpx r s] (.bool true))) := by
  refine ⟨(addR a b).1.re, (addR a b).1.im, (addR a b).1.ex, (addR a b).2, fun w hT => yAdd a b ha hb w hT, ?_⟩
  by_cases h : (addR a b).2 = 0
  · obtain ⟨r, s, h1, h2, h3, h4⟩ := plane_add (pair_eq h)
    have hR := (addR_ok (pair_eq h)).2.2.2
    exact .inr ⟨h, _, _, r, s, fun w hT => yTo _ hR w hT, fun w => pAdd _ _ _ _ r s h1 h2 w, fun w => pEqual _ _ _ _ h3 h4 w⟩
  · exact .inl (errno_no h)
theorem packSub (a b : DD) (ha : d64 a) (hb : d64 b) : ∃ p1 p2 p3 g, AnsT 10 #[dV a, dV b] (.tuple #[tri p1 p2 p3, .int .i64 g]) ∧ ((g == 0) = false ∨ (g = 0 ∧ ∃ z1 z2 r s, AnsT 4 #[tri p1 p2 p3] (.tuple #[cpx z1 z2, .int .i64 0]) ∧
    Ans 11 #[cpx (joinB a.re (-a.ex)) (joinB a.im (-a.ex)), cpx (joinB b.re (-b.ex)) (joinB b.im (-b.ex))] (cpx r s) ∧ Ans 8 #[cpx z1 z2, cpx r s] (.bool true))) := by
  refine ⟨(subR a b).1.re, (subR a b).1.im, (subR a b).1.ex, (subR a b).2, fun w hT => ySub a b ha hb w hT, ?_⟩
  by_cases h : (subR a b).2 = 0
  · obtain ⟨r, s, h1, h2, h3, h4⟩ := plane_sub (pair_eq h)
    have hR := (subR_ok (pair_eq h)).2.2.2
    exact .inr ⟨h, _, _, r, s, fun w hT => yTo _ hR w hT, fun w => pSub _ _ _ _ r s h1 h2 w, fun w => pEqual _ _ _ _ h3 h4 w⟩
  · exact .inl (errno_no h)
/-- What small answers. -/
def Sm (d : DD) (q : Bool) : Prop := q = true → sm d
theorem packMul (a b : DD) (ha : d64 a) (hb : d64 b) : ∃ p1 p2 p3 g, AnsT 12 #[dV a, dV b] (.tuple #[tri p1 p2 p3, .int .i64 g]) ∧ ((g == 0) = false ∨ (g = 0 ∧ ((¬ (sm a ∧ sm b)) ∨ ∃ z1 z2 r s, AnsT 4 #[tri p1 p2 p3] (.tuple #[cpx z1 z2, .int .i64 0]) ∧
    Ans 16 #[cpx (joinB a.re (-a.ex)) (joinB a.im (-a.ex)), cpx (joinB b.re (-b.ex)) (joinB b.im (-b.ex))] (cpx r s) ∧ Ans 15 #[cpx z1 z2] (.agg #[.float .f64 z1, .float .f64 z2]) ∧ Ans 15 #[cpx r s] (.agg #[.float .f64 r, .float .f64 s]) ∧
    Ans 14 #[.agg #[.float .f64 z1, .float .f64 z2], .agg #[.float .f64 r, .float .f64 s]] (.bool true)))) := by
  refine ⟨(mulR a b).1.re, (mulR a b).1.im, (mulR a b).1.ex, (mulR a b).2, fun w hT => yMul a b ha hb w hT, ?_⟩
  by_cases h : (mulR a b).2 = 0
  · refine .inr ⟨h, ?_⟩
    by_cases hs : sm a ∧ sm b
    · obtain ⟨x1, x2, x3, x4, r, s, h1, h2, h3, h4, h5, h6, h7, h8⟩ := plane_mul (pair_eq h) hs.1 hs.2
      have hR := (mulR_ok (pair_eq h)).2.2.2
      exact .inr ⟨_, _, r, s, fun w hT => yTo _ hR w hT, fun w => pMul _ _ _ _ x1 x2 x3 x4 r s h1 h2 h3 h4 h5 h6 w, fun w => lZ _ _ w, fun w => lZ _ _ w, fun w => rEqual _ _ _ _ h7 h8 w⟩
    · exact .inl hs
  · exact .inl (errno_no h)
end Go.Proofs.YthpkmbgollollabDoor.Dy
