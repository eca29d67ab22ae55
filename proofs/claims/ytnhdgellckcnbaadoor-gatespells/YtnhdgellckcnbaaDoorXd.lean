/- The document's complex numbers as they are walked; Moves of what halves; what GateUnits leans on. -/
import Derived.Test.YtnhdgellckcnbaaDoorAy
import Derived.Test.YtnhdgellckcnbaaDoorXa
import Derived.Deep.RegionHeld2
namespace Go.Proofs.YtnhdgellckcnbaaDoor.Gt
open Go.RowKit Go.Proofs.YtnhdgellckcnbaaDoor.Oct Go.Proofs.YtnhdgellckcnbaaDoor.Dy Go.Proofs.YtnhdgellckcnbaaDoor.Sca

/-- A complex number of the document. -/
abbrev zV (p : Nat × Nat) : Value := .agg #[.float .f64 p.1, .float .f64 p.2]
theorem infoZ : (Tryd.prog.info? 66).map (·.size) = some 2 := by kernel_rfl
theorem allZ (a b : Nat) : (#[Value.float .f64 a, .float .f64 b]).all (·.oneCell') = true := by simp [Value.oneCell']
theorem heap3_2' (w : World) (A B C : Obj) : (((w.alloc A).alloc B).alloc C).heap[w.heap.size + 1 + 1]? = some C := heap3_2 w A B C
theorem below_three (w : World) (A B C : Obj) : Below w.heap.size w (((w.alloc A).alloc B).alloc C) := ((below_new w _).trans ((below_new _ _).mono (by simp))).trans ((below_new _ _).mono (by simp; omega))
set_option maxRecDepth 100000 in
theorem gMoves_hv (k : Int) (x : Int) (h : mnB (rw' k) = false) (w : World) (hT : Tb w) : Calls Tryd.prog 12 #[.int .i64 k, .int .i64 x] w fun e w' => e = .returned (.tuple #[.int .i64 0, .int .i64 0, .bool false]) ∧ Below w.heap.size w w' := by
  have cM := gMonomial k w hT
  rw [h] at cM
  clear h
  go_enter Tryd.func12, Tryd.ntmps12
  go_wp2_with fail
  refine cM.mono ?_
  rintro e w1 ⟨rfl, q1⟩
  go_wp2_with fail
  go_ret3
  exact ⟨rfl, q1⟩
/-- Where Moves leads. -/
def mvR (k x : Nat) : Nat × Nat × Bool := if mnB (rw' (k : Int)) then ((mvT k x).1, (mvT k x).2, true) else (0, 0, false)
theorem mv_in : ∀ (k : Fin 21) (x : Fin 8), 1 ≤ k.1 → x.1 < rowsN k.1 → mnB (rw' (k.1 : Int)) = true → (k.1, x.1) ∈ mvCases := by decide +kernel
theorem gMoves (k x : Nat) (h1 : 1 ≤ k) (h2 : k ≤ 20) (hx : x < rowsN k) (w : World) (hT : Tb w) (hD : Td w) : Calls Tryd.prog 12 #[.int .i64 (k : Int), .int .i64 (x : Int)] w fun e w' => e = .returned (.tuple #[.int .i64 ((mvR k x).1 : Int), .int .i64 ((mvR k x).2.1 : Int), .bool (mvR k x).2.2]) ∧ Below w.heap.size w w' := by
  unfold mvR
  cases hm : mnB (rw' (k : Int))
  · exact gMoves_hv k x hm w hT
  · have hx8 : x < 8 := by rcases rowsN_is k with e | e | e <;> omega
    exact gMoves_in k x (mv_in ⟨k, by omega⟩ ⟨x, hx8⟩ h1 hx hm) w hT hD
/-- The inverse kind's number. -/
def ivN (k : Nat) : Nat := (rw' (k : Int)).v.toNat
theorem iv_ok : ∀ k : Fin 21, 1 ≤ k.1 → 1 ≤ ivN k.1 ∧ ivN k.1 ≤ 20 ∧ rowsN (ivN k.1) = rowsN k.1 ∧ (rw' (k.1 : Int)).v = (ivN k.1 : Int) ∧ (rw' (ivN k.1 : Int)).v = (k.1 : Int) := by decide +kernel
/-- Turned about. -/
def ngB (b : Nat) : Nat := if b = 0 then 9223372036854775808 else if b = 4607182418800017408 then 13830554455654793216 else if b = 13830554455654793216 then 4607182418800017408 else if b = 4602678819172646912 then 13826050856027422720 else 4602678819172646912
theorem neg_ok (b : Nat) (h : okb b = true) (w : World) : (Op.unary .neg (.float .f64 b)).run Tryd.prog w = .ok (.float .f64 (ngB b)) w := by
  simp only [okb, Bool.or_eq_true, beq_iff_eq] at h
  rcases h with (((h | h) | h) | h) | h <;> (subst h; kernel_rfl)
theorem unit_2 : ∀ (k : Fin 21) (r c : Fin 2), 1 ≤ k.1 → rowsN k.1 = 2 → dotS 2 (mz k.1) (mz (ivN k.1)) r.1 c.1 2 = if r.1 = c.1 then (4, 0) else (0, 0) := by decide +kernel
theorem unit_4 : ∀ (k : Fin 21) (r c : Fin 4), 1 ≤ k.1 → rowsN k.1 = 4 → dotS 4 (mz k.1) (mz (ivN k.1)) r.1 c.1 4 = if r.1 = c.1 then (4, 0) else (0, 0) := by decide +kernel
theorem unit_8 : ∀ (k : Fin 21) (r c : Fin 8), 1 ≤ k.1 → rowsN k.1 = 8 → dotS 8 (mz k.1) (mz (ivN k.1)) r.1 c.1 8 = if r.1 = c.1 then (4, 0) else (0, 0) := by decide +kernel
def ordB (a b : Nat) : Bool := FloatKind.f64.format.order a b == some Ordering.eq
theorem conj_ok : ∀ (k : Fin 21) (r c : Fin 8), 1 ≤ k.1 → r.1 < rowsN k.1 → c.1 < rowsN k.1 → (ordB (mbs (ivN k.1) (rowsN k.1 * r.1 + c.1)).1 (mbs k.1 (rowsN k.1 * c.1 + r.1)).1 && ordB (mbs (ivN k.1) (rowsN k.1 * r.1 + c.1)).2 (ngB (mbs k.1 (rowsN k.1 * c.1 + r.1)).2)) = true := by decide +kernel
theorem cols_ok : ∀ (k : Fin 21) (r : Fin 8), 1 ≤ k.1 → r.1 < rowsN k.1 → mnB (rw' (k.1 : Int)) = true → (mvT k.1 r.1).1 < rowsN k.1 ∧ (mvT k.1 r.1).2 < 4 ∧ (ordB (mbs k.1 (rowsN k.1 * (mvT k.1 r.1).1 + r.1)).1 (ub (mvT k.1 r.1).2).1 && ordB (mbs k.1 (rowsN k.1 * (mvT k.1 r.1).1 + r.1)).2 (ub (mvT k.1 r.1).2).2) = true := by decide +kernel
theorem neq_c (a b c d : Nat) (h : (ordB a c && ordB b d) = true) (w : World) : (binOp .neq 34 (.complex .f64 a b) (.complex .f64 c d)).run Tryd.prog w = .ok (.bool false) w := by
  rw [Bool.and_eq_true] at h
  unfold ordB at h
  have h1 : (FloatKind.f64.format.order a c == some Ordering.eq) = true := h.1
  have h2 : (FloatKind.f64.format.order b d == some Ordering.eq) = true := h.2
  simp [binOp, Op.complexOp, Op.Complex.cmp, Op.floatCmp, asBool, h1, h2]
end Go.Proofs.YtnhdgellckcnbaaDoor.Gt
