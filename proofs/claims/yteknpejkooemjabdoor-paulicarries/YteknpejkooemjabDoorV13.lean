/- Strings compared; the document's Commute, as it is walked. -/
import Derived.Test.YteknpejkooemjabDoorU13
import Derived.Laws.StructEq
namespace Go.Proofs.YteknpejkooemjabDoor.Pau
open Go.RowKit Go.Shelf Go.Proofs.YteknpejkooemjabDoor.Oct Go.Proofs.YteknpejkooemjabDoor.Gt

theorem hS24 : Tryd.prog.underlying 24 = some (.struct (Tryd.prog.fieldsOf 24)) := by kernel_rfl
theorem hP24 : Tryd.prog.stoodInHeld 24 = false := by kernel_rfl
theorem eqIn (a b c d a' b' c' d' : Int) (w : World) : (Op.equalIn 10000 24 (.agg #[.int .i64 a, .int .u64 b, .int .u64 c, .int .i64 d]) (.agg #[.int .i64 a', .int .u64 b', .int .u64 c', .int .i64 d'])).run Tryd.prog w = .ok (a == a' && b == b' && c == c' && d == d') w := by
  rw [show (10000 : Nat) = 9999 + 1 from rfl, run_equalIn_agg w 9999 24 _ _ hS24 hP24]
  simp only [Program.fieldsOf, Tryd.underlying24]
  go_simp
  by_cases h1 : a = a' <;> by_cases h2 : b = b' <;> by_cases h3 : c = c' <;> by_cases h4 : d = d' <;> simp [h1, h2, h3, h4]
theorem eql_pauli (a b c d a' b' c' d' : Int) (w : World) : (binOp .eql 24 (.agg #[.int .i64 a, .int .u64 b, .int .u64 c, .int .i64 d]) (.agg #[.int .i64 a', .int .u64 b', .int .u64 c', .int .i64 d'])).run Tryd.prog w = .ok (.bool (a == a' && b == b' && c == c' && d == d')) w := by
  rw [run_eql_struct, eqIn]
  rfl
theorem neq_pauli (a b c d a' b' c' d' : Int) (w : World) : (binOp .neq 24 (.agg #[.int .i64 a, .int .u64 b, .int .u64 c, .int .i64 d]) (.agg #[.int .i64 a', .int .u64 b', .int .u64 c', .int .i64 d'])).run Tryd.prog w = .ok (.bool (!(a == a' && b == b' && c == c' && d == d'))) w := by
  rw [run_neq_struct, eqIn]
  rfl
/-- The same string, compared. -/
theorem eql_same (a b c d : Int) (w : World) : (binOp .eql 24 (.agg #[.int .i64 a, .int .u64 b, .int .u64 c, .int .i64 d]) (.agg #[.int .i64 a, .int .u64 b, .int .u64 c, .int .i64 d])).run Tryd.prog w = .ok (.bool true) w := by
  rw [eql_pauli]
  simp
theorem neq_same (a b c d : Int) (w : World) : (binOp .neq 24 (.agg #[.int .i64 a, .int .u64 b, .int .u64 c, .int .i64 d]) (.agg #[.int .i64 a, .int .u64 b, .int .u64 c, .int .i64 d])).run Tryd.prog w = .ok (.bool false) w := by
  rw [neq_pauli]
  simp
theorem com_beq {a b : P} (h : fitP a b = true) : ((mulP a b).n == (mulP b a).n && ((mulP a b).x : Int) == ((mulP b a).x : Int) && ((mulP a b).z : Int) == ((mulP b a).z : Int) && (mulP a b).ph == (mulP b a).ph) = comB a b := by
  rw [Bool.eq_iff_iff, com_iff h]
  simp only [Bool.and_eq_true, beq_iff_eq, Int.ofNat_inj]
  constructor
  · rintro ⟨⟨⟨h1, h2⟩, h3⟩, h4⟩
    exact P.ext' h1 h2 h3 h4
  · intro e
    rw [e]
    exact ⟨⟨⟨rfl, rfl⟩, rfl⟩, rfl⟩
theorem fit_comm {a b : P} (h : fitP a b = true) : fitP b a = true := by
  obtain ⟨h1, h2, h3⟩ := fit_iff.1 h
  exact fit_iff.2 ⟨h2, h1, h3.symm⟩
end Go.Proofs.YteknpejkooemjabDoor.Pau
