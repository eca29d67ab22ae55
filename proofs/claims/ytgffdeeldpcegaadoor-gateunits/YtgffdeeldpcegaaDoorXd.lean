/- The document's complex numbers as they are walked; Moves of what halves; what GateUnits leans on. -/
import Derived.Test.YtgffdeeldpcegaaDoorAy
import Derived.Test.YtgffdeeldpcegaaDoorXa
import Derived.Deep.RegionHeld2
namespace Go.Proofs.YtgffdeeldpcegaaDoor.Gt
open Go.RowKit Go.Proofs.YtgffdeeldpcegaaDoor.Oct Go.Proofs.YtgffdeeldpcegaaDoor.Dy Go.Proofs.YtgffdeeldpcegaaDoor.Sca

/-- A complex number of the document. -/
abbrev zV (p : Nat × Nat) : Value := .agg #[.float .f64 p.1, .float .f64 p.2]
theorem infoZ : (Tryd.prog.info? 53).map (·.size) = some 2 := by kernel_rfl
theorem allZ (a b : Nat) : (#[Value.float .f64 a, .float .f64 b]).all (·.oneCell') = true := by simp [Value.oneCell']
set_option maxRecDepth 100000 in
theorem lZ (a b : Nat) (w : World) : Calls Tryd.prog 38 #[.complex .f64 a b] w fun e w' => e = .returned (.agg #[.float .f64 a, .float .f64 b]) ∧ Below w.heap.size w w' := by
  have hA : (w.alloc (.cells #[.float .f64 0, .float .f64 0] 53)).heap[w.heap.size]? = some (.cells #[.float .f64 0, .float .f64 0] 53) := heap_alloc_new _ _
  go_enter Tryd.func38, Tryd.ntmps38
  go_wp2_with (refine wpList_store_row rfl _ _ _ rfl w.heap.size _ rfl rfl _ _ hA (by exact infoZ) (by rfl) (allZ _ _) ?_)
  refine bodyPost_ret (results_c rfl _ _ w.heap.size _ _ _ _ rfl (setRow_heap _ _ _ _ _ _ hA) Tryd.underlying53 rfl (by exact infoZ)) rfl ?_
  exact ⟨rfl, below_setRow (below_new _ _) (Nat.le_refl _) _⟩
theorem heap3_2' (w : World) (A B C : Obj) : (((w.alloc A).alloc B).alloc C).heap[w.heap.size + 1 + 1]? = some C := heap3_2 w A B C
theorem below_three (w : World) (A B C : Obj) : Below w.heap.size w (((w.alloc A).alloc B).alloc C) := ((below_new w _).trans ((below_new _ _).mono (by simp))).trans ((below_new _ _).mono (by simp; omega))
set_option maxRecDepth 100000 in
theorem rAdd (a b c d r s : Nat) (h1 : floatBits .add .f64 a c = some r) (h2 : floatBits .add .f64 b d = some s) (w : World) :
    Calls Tryd.prog 36 #[.agg #[.float .f64 a, .float .f64 b], .agg #[.float .f64 c, .float .f64 d]] w fun e w' => e = .returned (.agg #[.float .f64 r, .float .f64 s]) ∧ Below w.heap.size w w' := by
  have ha := fun t w => run_float_arith (P := Tryd.prog) w .add t .f64 a c r h1
  have hb := fun t w => run_float_arith (P := Tryd.prog) w .add t .f64 b d s h2
  have hA := heap3_2' w (.cells #[.float .f64 a, .float .f64 b] 53) (.cells #[.float .f64 c, .float .f64 d] 53) (.cells #[.float .f64 0, .float .f64 0] 53)
  have hB := below_three w (.cells #[.float .f64 a, .float .f64 b] 53) (.cells #[.float .f64 c, .float .f64 d] 53) (.cells #[.float .f64 0, .float .f64 0] 53)
  clear h1 h2
  go_enter Tryd.func36, Tryd.ntmps36
  go_wp2_with (refine wpList_store_row rfl _ _ _ rfl (w.heap.size + 1 + 1) _ rfl rfl _ _ hA (by exact infoZ) (by rfl) (allZ _ _) ?_)
  refine bodyPost_ret (results_c rfl _ _ (w.heap.size + 1 + 1) _ _ _ _ rfl (setRow_heap _ _ _ _ _ _ hA) Tryd.underlying53 rfl (by exact infoZ)) rfl ?_
  exact ⟨rfl, below_setRow hB (by omega) _⟩
set_option maxRecDepth 100000 in
theorem rMul (a b c d x1 x2 x3 x4 r s : Nat) (h1 : floatBits .mul .f64 a c = some x1) (h2 : floatBits .mul .f64 b d = some x2) (h3 : floatBits .mul .f64 a d = some x3) (h4 : floatBits .mul .f64 b c = some x4)
    (h5 : floatBits .sub .f64 x1 x2 = some r) (h6 : floatBits .add .f64 x3 x4 = some s) (w : World) :
    Calls Tryd.prog 37 #[.agg #[.float .f64 a, .float .f64 b], .agg #[.float .f64 c, .float .f64 d]] w fun e w' => e = .returned (.agg #[.float .f64 r, .float .f64 s]) ∧ Below w.heap.size w w' := by
  have e1 := fun t w => run_float_arith (P := Tryd.prog) w .mul t .f64 a c x1 h1
  have e2 := fun t w => run_float_arith (P := Tryd.prog) w .mul t .f64 b d x2 h2
  have e3 := fun t w => run_float_arith (P := Tryd.prog) w .mul t .f64 a d x3 h3
  have e4 := fun t w => run_float_arith (P := Tryd.prog) w .mul t .f64 b c x4 h4
  have e5 := fun t w => run_float_arith (P := Tryd.prog) w .sub t .f64 x1 x2 r h5
  have e6 := fun t w => run_float_arith (P := Tryd.prog) w .add t .f64 x3 x4 s h6
  have hA := heap3_2' w (.cells #[.float .f64 a, .float .f64 b] 53) (.cells #[.float .f64 c, .float .f64 d] 53) (.cells #[.float .f64 0, .float .f64 0] 53)
  have hB := below_three w (.cells #[.float .f64 a, .float .f64 b] 53) (.cells #[.float .f64 c, .float .f64 d] 53) (.cells #[.float .f64 0, .float .f64 0] 53)
  clear h1 h2 h3 h4 h5 h6
  go_enter Tryd.func37, Tryd.ntmps37
  go_wp2_with (refine wpList_store_row rfl _ _ _ rfl (w.heap.size + 1 + 1) _ rfl rfl _ _ hA (by exact infoZ) (by rfl) (allZ _ _) ?_)
  refine bodyPost_ret (results_c rfl _ _ (w.heap.size + 1 + 1) _ _ _ _ rfl (setRow_heap _ _ _ _ _ _ hA) Tryd.underlying53 rfl (by exact infoZ)) rfl ?_
  exact ⟨rfl, below_setRow hB (by omega) _⟩
set_option maxRecDepth 100000 in
theorem rEqual (a b c d : Nat) (x y : Bool) (e1 : (FloatKind.f64.format.order a c == some Ordering.eq) = x) (e2 : (FloatKind.f64.format.order b d == some Ordering.eq) = y) (w : World) :
    Calls Tryd.prog 39 #[.agg #[.float .f64 a, .float .f64 b], .agg #[.float .f64 c, .float .f64 d]] w fun e w' => e = .returned (.bool (x && y)) ∧ Below w.heap.size w w' := by
  cases x <;> cases y
  all_goals
    go_enter Tryd.func39, Tryd.ntmps39
    go_wp2_with fail
    go_ret
    exact ⟨rfl, below_two _ _ _⟩
theorem zx_add {p q : Nat × Nat} {a b : Int × Int} {e : Int} (h : Cx p a e) (k : Cx q b e) (ha : zle a 4503599627370496) (hb : zle b 4503599627370496) (he1 : -300 ≤ e) (he2 : e ≤ 300) :
    ∃ r : Nat × Nat, Cx r (zadd a b) e ∧ ∀ w, Calls Tryd.prog 36 #[.agg #[.float .f64 p.1, .float .f64 p.2], .agg #[.float .f64 q.1, .float .f64 q.2]] w fun e w' => e = .returned (.agg #[.float .f64 r.1, .float .f64 r.2]) ∧ Below w.heap.size w w' := by
  obtain ⟨r1, e1, f1⟩ := fl_add (d := a.1 + b.1) (f := e) h.1 k.1 (by have := ha.1; omega) he1 he2 (by have := hb.1; omega) he1 he2 (by omega) (by rw [Int.add_mul])
  obtain ⟨r2, e2, f2⟩ := fl_add (d := a.2 + b.2) (f := e) h.2 k.2 (by have := ha.2; omega) he1 he2 (by have := hb.2; omega) he1 he2 (by omega) (by rw [Int.add_mul])
  exact ⟨(r1, r2), ⟨f1, f2⟩, fun w => rAdd _ _ _ _ _ _ e1 e2 w⟩
theorem zx_mul {p q : Nat × Nat} {a b : Int × Int} {e e' : Int} (h : Cx p a e) (k : Cx q b e') (ha : zle a 1048576) (hb : zle b 1048576) (he1 : -100 ≤ e) (he2 : e ≤ 100) (he1' : -100 ≤ e') (he2' : e' ≤ 100) :
    ∃ r : Nat × Nat, Cx r (zmul a b) (e + e') ∧ ∀ w, Calls Tryd.prog 37 #[.agg #[.float .f64 p.1, .float .f64 p.2], .agg #[.float .f64 q.1, .float .f64 q.2]] w fun e w' => e = .returned (.agg #[.float .f64 r.1, .float .f64 r.2]) ∧ Below w.heap.size w w' := by
  have a1 := ha.1; have a2 := ha.2; have b1 := hb.1; have b2 := hb.2
  obtain ⟨x1, e1, f1⟩ := fl_mul h.1 k.1 (by omega) (by omega) (by omega) (by omega) (by omega) (by omega)
  obtain ⟨x2, e2, f2⟩ := fl_mul h.2 k.2 (by omega) (by omega) (by omega) (by omega) (by omega) (by omega)
  obtain ⟨x3, e3, f3⟩ := fl_mul h.1 k.2 (by omega) (by omega) (by omega) (by omega) (by omega) (by omega)
  obtain ⟨x4, e4, f4⟩ := fl_mul h.2 k.1 (by omega) (by omega) (by omega) (by omega) (by omega) (by omega)
  have m1 := natAbs_mul_le a1 b1
  have m2 := natAbs_mul_le a2 b2
  have m3 := natAbs_mul_le a1 b2
  have m4 := natAbs_mul_le a2 b1
  obtain ⟨r1, e5, f5⟩ := fl_sub (d := a.1 * b.1 - a.2 * b.2) (f := e + e') f1 f2 (by omega) (by omega) (by omega) (by omega) (by omega) (by omega) (by omega) (by rw [Int.sub_mul])
  obtain ⟨r2, e6, f6⟩ := fl_add (d := a.1 * b.2 + a.2 * b.1) (f := e + e') f3 f4 (by omega) (by omega) (by omega) (by omega) (by omega) (by omega) (by omega) (by rw [Int.add_mul])
  exact ⟨(r1, r2), ⟨f5, f6⟩, fun w => rMul _ _ _ _ _ _ _ _ _ _ e1 e2 e3 e4 e5 e6 w⟩
theorem zx_equal {p q : Nat × Nat} {a b : Int × Int} {e : Int} (h : Cx p a e) (k : Cx q b e) (ha : zle a 4503599627370496) (hb : zle b 4503599627370496) (he1 : -300 ≤ e) (he2 : e ≤ 300) (w : World) :
    Calls Tryd.prog 39 #[.agg #[.float .f64 p.1, .float .f64 p.2], .agg #[.float .f64 q.1, .float .f64 q.2]] w fun e w' => e = .returned (.bool (decide (a = b))) ∧ Below w.heap.size w w' := by
  have c := rEqual p.1 p.2 q.1 q.2 _ _ (fl_ord h.1 k.1 (by have := ha.1; omega) (by have := hb.1; omega) he1 he2) (fl_ord h.2 k.2 (by have := ha.2; omega) (by have := hb.2; omega) he1 he2) w
  have : (decide (a.1 = b.1) && decide (a.2 = b.2)) = decide (a = b) := by
    obtain ⟨a1, a2⟩ := a
    obtain ⟨b1, b2⟩ := b
    simp
  rw [this] at c
  exact c
set_option maxRecDepth 100000 in
theorem gMoves_hv (k : Int) (x : Int) (h : mnB (rw' k) = false) (w : World) (hT : Tb w) : Calls Tryd.prog 34 #[.int .i64 k, .int .i64 x] w fun e w' => e = .returned (.tuple #[.int .i64 0, .int .i64 0, .bool false]) ∧ Below w.heap.size w w' := by
  have cM := gMonomial k w hT
  rw [h] at cM
  clear h
  go_enter Tryd.func34, Tryd.ntmps34
  go_wp2_with fail
  refine cM.mono ?_
  rintro e w1 ⟨rfl, q1⟩
  go_wp2_with fail
  go_ret3
  exact ⟨rfl, q1⟩
/-- Where Moves leads. -/
def mvR (k x : Nat) : Nat × Nat × Bool := if mnB (rw' (k : Int)) then ((mvT k x).1, (mvT k x).2, true) else (0, 0, false)
theorem mv_in : ∀ (k : Fin 21) (x : Fin 8), 1 ≤ k.1 → x.1 < rowsN k.1 → mnB (rw' (k.1 : Int)) = true → (k.1, x.1) ∈ mvCases := by decide +kernel
theorem gMoves (k x : Nat) (h1 : 1 ≤ k) (h2 : k ≤ 20) (hx : x < rowsN k) (w : World) (hT : Tb w) (hD : Td w) : Calls Tryd.prog 34 #[.int .i64 (k : Int), .int .i64 (x : Int)] w fun e w' => e = .returned (.tuple #[.int .i64 ((mvR k x).1 : Int), .int .i64 ((mvR k x).2.1 : Int), .bool (mvR k x).2.2]) ∧ Below w.heap.size w w' := by
  unfold mvR
  cases hm : mnB (rw' (k : Int))
  · exact gMoves_hv k x hm w hT
  · have hx8 : x < 8 := by rcases rowsN_is k with e | e | e <;> omega
    exact gMoves_in k x (mv_in ⟨k, by omega⟩ ⟨x, hx8⟩ h1 hx hm) w hT hD
/-- The inverse kind's number. -/
def ivN (k : Nat) : Nat := (rw' (k : Int)).v.toNat
theorem iv_ok : ∀ k : Fin 21, 1 ≤ k.1 → 1 ≤ ivN k.1 ∧ ivN k.1 ≤ 20 ∧ rowsN (ivN k.1) = rowsN k.1 ∧ (rw' (k.1 : Int)).v = (ivN k.1 : Int) ∧ (rw' (ivN k.1 : Int)).v = (k.1 : Int) := by decide +kernel
/-- Turned about. -/
def ngB (b : Nat) : Nat := if b = 0 then 9223372036854775808 else if b = 4607182418800017408 then 13830554455654793216 else if b = 13830554455654793216 then 4607182418800017408 else if b = 4602678819172646912 then 13826050856027422720 else 4602678819172646912
theorem neg_ok (b : Nat) (h : okb b = true) (w : World) : (Op.unary .neg (.float .f64 b)).run Tryd.prog w = .ok (.float .f64 (ngB b)) w := by
  simp only [okb, Bool.or_eq_true, beq_iff_eq] at h
  rcases h with (((h | h) | h) | h) | h <;> (subst h; kernel_rfl)
theorem unit_2 : ∀ (k : Fin 21) (r c : Fin 2), 1 ≤ k.1 → rowsN k.1 = 2 → dotS 2 (mz k.1) (mz (ivN k.1)) r.1 c.1 2 = if r.1 = c.1 then (4, 0) else (0, 0) := by decide +kernel
theorem unit_4 : ∀ (k : Fin 21) (r c : Fin 4), 1 ≤ k.1 → rowsN k.1 = 4 → dotS 4 (mz k.1) (mz (ivN k.1)) r.1 c.1 4 = if r.1 = c.1 then (4, 0) else (0, 0) := by decide +kernel
theorem unit_8 : ∀ (k : Fin 21) (r c : Fin 8), 1 ≤ k.1 → rowsN k.1 = 8 → dotS 8 (mz k.1) (mz (ivN k.1)) r.1 c.1 8 = if r.1 = c.1 then (4, 0) else (0, 0) := by decide +kernel
def ordB (a b : Nat) : Bool := FloatKind.f64.format.order a b == some Ordering.eq
theorem conj_ok : ∀ (k : Fin 21) (r c : Fin 8), 1 ≤ k.1 → r.1 < rowsN k.1 → c.1 < rowsN k.1 → (ordB (mbs (ivN k.1) (rowsN k.1 * r.1 + c.1)).1 (mbs k.1 (rowsN k.1 * c.1 + r.1)).1 && ordB (mbs (ivN k.1) (rowsN k.1 * r.1 + c.1)).2 (ngB (mbs k.1 (rowsN k.1 * c.1 + r.1)).2)) = true := by decide +kernel
theorem cols_ok : ∀ (k : Fin 21) (r : Fin 8), 1 ≤ k.1 → r.1 < rowsN k.1 → mnB (rw' (k.1 : Int)) = true → (mvT k.1 r.1).1 < rowsN k.1 ∧ (mvT k.1 r.1).2 < 4 ∧ (ordB (mbs k.1 (rowsN k.1 * (mvT k.1 r.1).1 + r.1)).1 (ub (mvT k.1 r.1).2).1 && ordB (mbs k.1 (rowsN k.1 * (mvT k.1 r.1).1 + r.1)).2 (ub (mvT k.1 r.1).2).2) = true := by decide +kernel
theorem neq_c (a b c d : Nat) (h : (ordB a c && ordB b d) = true) (w : World) : (binOp .neq 46 (.complex .f64 a b) (.complex .f64 c d)).run Tryd.prog w = .ok (.bool false) w := by
  rw [Bool.and_eq_true] at h
  unfold ordB at h
  have h1 : (FloatKind.f64.format.order a c == some Ordering.eq) = true := h.1
  have h2 : (FloatKind.f64.format.order b d == some Ordering.eq) = true := h.2
  simp [binOp, Op.complexOp, Op.Complex.cmp, Op.floatCmp, asBool, h1, h2]
end Go.Proofs.YtgffdeeldpcegaaDoor.Gt
