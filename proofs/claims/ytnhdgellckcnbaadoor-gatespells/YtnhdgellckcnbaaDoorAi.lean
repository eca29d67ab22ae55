/- Package gate: Moves by its table; Turn and Clean of 1; Matrix. -/
import Derived.Test.YtnhdgellckcnbaaDoorAe0
import Derived.Test.YtnhdgellckcnbaaDoorAe1
import Derived.Test.YtnhdgellckcnbaaDoorAe2
import Derived.Test.YtnhdgellckcnbaaDoorAe3
import Derived.Test.YtnhdgellckcnbaaDoorAe4
import Derived.Test.YtnhdgellckcnbaaDoorAe5
import Derived.Test.YtnhdgellckcnbaaDoorAg
import Derived.Laws.FloatArith
namespace Go.Proofs.YtnhdgellckcnbaaDoor.Gt
open Go.RowKit Go.Proofs.YtnhdgellckcnbaaDoor.Oct

/-- Where a kind moves an index, and by how many quarters it is turned. -/
def mvT (k x : Nat) : Nat × Nat :=
  let r := tab.getD k r0
  let a := (r.q - (tab.getD r.o.toNat r0).q).toNat
  let ones := 2 ^ a - 1
  let d := dds.getD r.o.toNat []
  if x &&& ones ≠ ones then (x, 0) else ((d.getD (x >>> a) 0).toNat <<< a ||| ones, (d.getD (4 + (x >>> a)) 0).toNat)
def mvCases : List (Nat × Nat) := [(1, 0), (1, 1), (2, 0), (2, 1), (3, 0), (3, 1), (4, 0), (4, 1), (5, 0), (5, 1), (6, 0), (6, 1), (11, 0), (11, 1), (11, 2), (11, 3), (12, 0), (12, 1), (12, 2), (12, 3), (13, 0), (13, 1), (13, 2), (13, 3), (14, 0), (14, 1), (14, 2), (14, 3), (15, 0), (15, 1), (15, 2), (15, 3), (16, 0), (16, 1), (16, 2), (16, 3), (18, 0), (18, 1), (18, 2), (18, 3), (18, 4), (18, 5), (18, 6), (18, 7), (19, 0), (19, 1), (19, 2), (19, 3), (19, 4), (19, 5), (19, 6), (19, 7), (20, 0), (20, 1), (20, 2), (20, 3), (20, 4), (20, 5), (20, 6), (20, 7)]
set_option maxRecDepth 100000 in
theorem gMoves_in (k x : Nat) (h : (k, x) ∈ mvCases) (w : World) (hT : Tb w) (hD : Td w) : Calls Tryd.prog 12 #[.int .i64 (k : Int), .int .i64 (x : Int)] w fun e w' => e = .returned (.tuple #[.int .i64 ((mvT k x).1 : Int), .int .i64 ((mvT k x).2 : Int), .bool true]) ∧ Below w.heap.size w w' := by
  simp only [mvCases, List.mem_cons, Prod.mk.injEq, List.not_mem_nil, or_false] at h
  rcases h with ⟨rfl, rfl⟩ | ⟨rfl, rfl⟩ | ⟨rfl, rfl⟩ | ⟨rfl, rfl⟩ | ⟨rfl, rfl⟩ | ⟨rfl, rfl⟩ | ⟨rfl, rfl⟩ | ⟨rfl, rfl⟩ | ⟨rfl, rfl⟩ | ⟨rfl, rfl⟩ | ⟨rfl, rfl⟩ | ⟨rfl, rfl⟩ | ⟨rfl, rfl⟩ | ⟨rfl, rfl⟩ | ⟨rfl, rfl⟩ | ⟨rfl, rfl⟩ | ⟨rfl, rfl⟩ | ⟨rfl, rfl⟩ | ⟨rfl, rfl⟩ | ⟨rfl, rfl⟩ | ⟨rfl, rfl⟩ | ⟨rfl, rfl⟩ | ⟨rfl, rfl⟩ | ⟨rfl, rfl⟩ | ⟨rfl, rfl⟩ | ⟨rfl, rfl⟩ | ⟨rfl, rfl⟩ | ⟨rfl, rfl⟩ | ⟨rfl, rfl⟩ | ⟨rfl, rfl⟩ | ⟨rfl, rfl⟩ | ⟨rfl, rfl⟩ | ⟨rfl, rfl⟩ | ⟨rfl, rfl⟩ | ⟨rfl, rfl⟩ | ⟨rfl, rfl⟩ | ⟨rfl, rfl⟩ | ⟨rfl, rfl⟩ | ⟨rfl, rfl⟩ | ⟨rfl, rfl⟩ | ⟨rfl, rfl⟩ | ⟨rfl, rfl⟩ | ⟨rfl, rfl⟩ | ⟨rfl, rfl⟩ | ⟨rfl, rfl⟩ | ⟨rfl, rfl⟩ | ⟨rfl, rfl⟩ | ⟨rfl, rfl⟩ | ⟨rfl, rfl⟩ | ⟨rfl, rfl⟩ | ⟨rfl, rfl⟩ | ⟨rfl, rfl⟩ | ⟨rfl, rfl⟩ | ⟨rfl, rfl⟩ | ⟨rfl, rfl⟩ | ⟨rfl, rfl⟩ | ⟨rfl, rfl⟩ | ⟨rfl, rfl⟩ | ⟨rfl, rfl⟩ | ⟨rfl, rfl⟩
  · exact gMv_1_0 w hT hD
  · exact gMv_1_1 w hT hD
  · exact gMv_2_0 w hT hD
  · exact gMv_2_1 w hT hD
  · exact gMv_3_0 w hT hD
  · exact gMv_3_1 w hT hD
  · exact gMv_4_0 w hT hD
  · exact gMv_4_1 w hT hD
  · exact gMv_5_0 w hT hD
  · exact gMv_5_1 w hT hD
  · exact gMv_6_0 w hT hD
  · exact gMv_6_1 w hT hD
  · exact gMv_11_0 w hT hD
  · exact gMv_11_1 w hT hD
  · exact gMv_11_2 w hT hD
  · exact gMv_11_3 w hT hD
  · exact gMv_12_0 w hT hD
  · exact gMv_12_1 w hT hD
  · exact gMv_12_2 w hT hD
  · exact gMv_12_3 w hT hD
  · exact gMv_13_0 w hT hD
  · exact gMv_13_1 w hT hD
  · exact gMv_13_2 w hT hD
  · exact gMv_13_3 w hT hD
  · exact gMv_14_0 w hT hD
  · exact gMv_14_1 w hT hD
  · exact gMv_14_2 w hT hD
  · exact gMv_14_3 w hT hD
  · exact gMv_15_0 w hT hD
  · exact gMv_15_1 w hT hD
  · exact gMv_15_2 w hT hD
  · exact gMv_15_3 w hT hD
  · exact gMv_16_0 w hT hD
  · exact gMv_16_1 w hT hD
  · exact gMv_16_2 w hT hD
  · exact gMv_16_3 w hT hD
  · exact gMv_18_0 w hT hD
  · exact gMv_18_1 w hT hD
  · exact gMv_18_2 w hT hD
  · exact gMv_18_3 w hT hD
  · exact gMv_18_4 w hT hD
  · exact gMv_18_5 w hT hD
  · exact gMv_18_6 w hT hD
  · exact gMv_18_7 w hT hD
  · exact gMv_19_0 w hT hD
  · exact gMv_19_1 w hT hD
  · exact gMv_19_2 w hT hD
  · exact gMv_19_3 w hT hD
  · exact gMv_19_4 w hT hD
  · exact gMv_19_5 w hT hD
  · exact gMv_19_6 w hT hD
  · exact gMv_19_7 w hT hD
  · exact gMv_20_0 w hT hD
  · exact gMv_20_1 w hT hD
  · exact gMv_20_2 w hT hD
  · exact gMv_20_3 w hT hD
  · exact gMv_20_4 w hT hD
  · exact gMv_20_5 w hT hD
  · exact gMv_20_6 w hT hD
  · exact gMv_20_7 w hT hD
/-- A power of i, its noughts without signs. -/
def ub (t : Nat) : Nat × Nat := match t with
  | 0 => (4607182418800017408, 0)
  | 1 => (0, 4607182418800017408)
  | 2 => (13830554455654793216, 0)
  | _ => (0, 13830554455654793216)
/-- The same, as Turn leaves it. -/
def ut (t : Nat) : Nat × Nat := match t with
  | 0 => (4607182418800017408, 0)
  | 1 => (9223372036854775808, 4607182418800017408)
  | 2 => (13830554455654793216, 9223372036854775808)
  | _ => (0, 13830554455654793216)
theorem neg0 (w : World) : (Op.unary .neg (.float .f64 0)).run Tryd.prog w = .ok (.float .f64 9223372036854775808) w := by kernel_rfl
theorem neg1 (w : World) : (Op.unary .neg (.float .f64 4607182418800017408)).run Tryd.prog w = .ok (.float .f64 13830554455654793216) w := by kernel_rfl
set_option maxRecDepth 100000 in
theorem pNeg1 (w : World) : Calls Tryd.prog 61 #[.complex .f64 4607182418800017408 0] w fun e w' => e = .returned (.complex .f64 13830554455654793216 9223372036854775808) ∧ w' = w := by
  have n0 := neg0
  have n1 := neg1
  go_enter Tryd.func61, Tryd.ntmps61
  go_wp2_with fail
  go_ret
  exact ⟨rfl, rfl⟩
set_option maxRecDepth 100000 in
theorem pTurn1 (t : Nat) (h : t < 4) (w : World) : Calls Tryd.prog 30 #[.complex .f64 4607182418800017408 0, .int .i64 (t : Int)] w fun e w' => e = .returned (.complex .f64 (ut t).1 (ut t).2) ∧ w' = w := by
  have n0 := neg0
  have n1 := neg1
  have cN := pNeg1
  have ht : t = 0 ∨ t = 1 ∨ t = 2 ∨ t = 3 := by omega
  rcases ht with rfl | rfl | rfl | rfl
  all_goals
    unfold ut
    go_enter Tryd.func30, Tryd.ntmps30
    go_wp2_with (first | (go_at_call 61; refine (cN _).mono ?_; rintro e' w' ⟨rfl, hw⟩; obtain rfl := hw.symm))
    go_ret
    exact ⟨rfl, rfl⟩
set_option maxRecDepth 100000 in
theorem sPlus (x y : Nat) (h : floatBits .add .f64 x 0 = some y) (w : World) : Calls Tryd.prog 60 #[.float .f64 x] w fun e w' => e = .returned (.float .f64 y) ∧ w' = w := by
  have ha := fun t w => run_float_arith (P := Tryd.prog) w .add t .f64 x 0 y h
  clear h
  go_enter Tryd.func60, Tryd.ntmps60
  go_wp2_with fail
  go_ret
  exact ⟨rfl, rfl⟩
set_option maxRecDepth 100000 in
theorem pClean (a b x y : Nat) (h1 : floatBits .add .f64 a 0 = some x) (h2 : floatBits .add .f64 b 0 = some y) (w : World) : Calls Tryd.prog 29 #[.complex .f64 a b] w fun e w' => e = .returned (.complex .f64 x y) ∧ w' = w := by
  have c1 := sPlus a x h1
  have c2 := sPlus b y h2
  go_enter Tryd.func29, Tryd.ntmps29
  go_wp2_with fail
  refine (c1 _).mono ?_
  rintro e w1 ⟨rfl, rfl⟩
  go_wp2_with fail
  refine (c2 _).mono ?_
  rintro e w2 ⟨rfl, rfl⟩
  go_wp2_with fail
  go_ret
  exact ⟨rfl, rfl⟩
theorem pClean1 (t : Nat) (h : t < 4) (w : World) : Calls Tryd.prog 29 #[.complex .f64 (ut t).1 (ut t).2] w fun e w' => e = .returned (.complex .f64 (ub t).1 (ub t).2) ∧ w' = w := by
  have ht : t = 0 ∨ t = 1 ∨ t = 2 ∨ t = 3 := by omega
  rcases ht with rfl | rfl | rfl | rfl
  all_goals exact pClean _ _ _ _ (by decide +kernel) (by decide +kernel) w
/-- An entry of a monomial kind's matrix. -/
def mbit (k row col : Nat) : Nat × Nat := if (mvT k col).1 = row then ub (mvT k col).2 else (0, 0)
theorem mv_lt : ∀ x ∈ mvCases, (mvT x.1 x.2).2 < 4 := by decide +kernel
set_option maxRecDepth 100000 in
set_option maxHeartbeats 1000000 in
theorem gMatrix1 (k row col b : Nat) (hin : (k, col) ∈ mvCases) (w : World) (hT : Tb w) (hD : Td w) (hk : w.cell? ⟨b, 0, none⟩ = some (.int .i64 (k : Int))) :
    Calls Tryd.prog 28 #[.int .i64 (row : Int), .int .i64 (col : Int), .pointer (some ⟨b, 0, none⟩)] w fun e w' => e = .returned (.complex .f64 (mbit k row col).1 (mbit k row col).2) ∧ Below w.heap.size w w' := by
  have cM := gMoves_in k col hin w hT hD
  have hlt := mv_lt _ hin
  unfold mbit
  dsimp only at hlt
  have cT := fun w => pTurn1 (mvT k col).2 hlt w
  have cC := fun w => pClean1 (mvT k col).2 hlt w
  generalize (mvT k col).2 = t at *
  generalize (mvT k col).1 = to at *
  generalize ut t = u at *
  clear hin hlt hT hD
  by_cases he : to = row
  · rw [if_pos he]
    have hne : ((to : Int) != (row : Int)) = false := by simp [he]
    clear he
    go_enter Tryd.func28, Tryd.ntmps28
    go_wp2_with fail
    refine cM.mono ?_
    rintro e w1 ⟨rfl, hb⟩
    clear cM hk
    go_wp2_with fail
    refine (cT _).mono ?_
    rintro e w2 ⟨rfl, rfl⟩
    go_wp2_with fail
    refine (cC _).mono ?_
    rintro e w3 ⟨rfl, rfl⟩
    go_wp2_with fail
    go_ret
    exact ⟨rfl, hb⟩
  · rw [if_neg he]
    have hne : ((to : Int) != (row : Int)) = true := by simp; omega
    clear he cT cC
    go_enter Tryd.func28, Tryd.ntmps28
    go_wp2_with fail
    refine cM.mono ?_
    rintro e w1 ⟨rfl, hb⟩
    clear cM hk
    go_wp2_with fail
    go_ret
    exact ⟨rfl, hb⟩

/-- The entries of a halving kind. -/
def hvL (k : Nat) : List (Nat × Nat) := match k with
  | 7 => [(4602678819172646912, 4602678819172646912), (4602678819172646912, 13826050856027422720), (4602678819172646912, 13826050856027422720), (4602678819172646912, 4602678819172646912)]
  | 8 => [(4602678819172646912, 13826050856027422720), (4602678819172646912, 4602678819172646912), (4602678819172646912, 4602678819172646912), (4602678819172646912, 13826050856027422720)]
  | 9 => [(4602678819172646912, 4602678819172646912), (13826050856027422720, 13826050856027422720), (4602678819172646912, 4602678819172646912), (4602678819172646912, 4602678819172646912)]
  | 10 => [(4602678819172646912, 13826050856027422720), (4602678819172646912, 13826050856027422720), (13826050856027422720, 4602678819172646912), (4602678819172646912, 13826050856027422720)]
  | _ => [(4602678819172646912, 0), (4602678819172646912, 0), (4602678819172646912, 0), (4602678819172646912, 0), (4602678819172646912, 0), (13826050856027422720, 0), (4602678819172646912, 0), (13826050856027422720, 0), (4602678819172646912, 0), (4602678819172646912, 0), (13826050856027422720, 0), (13826050856027422720, 0), (4602678819172646912, 0), (13826050856027422720, 0), (13826050856027422720, 0), (4602678819172646912, 0)]
/-- The entries of a kind's matrix, row behind row. -/
def mbs (k : Nat) (j : Nat) : Nat × Nat := if hvB (rw' k) then (hvL k).getD j (0, 0) else mbit k (j / 2 ^ (rw' k).q.toNat) (j % 2 ^ (rw' k).q.toNat)
def MPost (w : World) (k n N : Nat) (e : Ending) (w' : World) : Prop := ∃ g, e = .returned (.tuple #[.agg #[.int .i64 (n : Int), .slice (some ⟨g, 0, none⟩) N N], .int .i64 0]) ∧ Rk w' g 34 N (fun j => cx (mbs k j)) ∧ w.heap.size ≤ g ∧ Below w.heap.size w w'
theorem heap2_0 (w : World) (A B : Obj) : ((w.alloc A).alloc B).heap[w.heap.size]? = some A := (Below.heap_alloc _ _ _ (by simp)).trans (heap_alloc_new w A)
theorem heap2_1 (w : World) (A B : Obj) : ((w.alloc A).alloc B).heap[w.heap.size + 1]? = some B := by
  have := heap_alloc_new (w.alloc A) B
  rw [size_alloc] at this
  exact this

end Go.Proofs.YtnhdgellckcnbaaDoor.Gt
