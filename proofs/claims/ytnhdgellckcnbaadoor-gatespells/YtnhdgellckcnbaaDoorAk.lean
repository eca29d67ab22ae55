/- Package gate: product. -/
import Derived.Test.YtnhdgellckcnbaaDoorAf
import Derived.Test.YtnhdgellckcnbaaDoorAh
import Derived.Test.YtnhdgellckcnbaaDoorAj
namespace Go.Proofs.YtnhdgellckcnbaaDoor.Gt
open Go.RowKit Go.Proofs.YtnhdgellckcnbaaDoor.Oct Go.Proofs.YtnhdgellckcnbaaDoor.Dy

/-- The sum of the first m products of a row and a column. -/
def dotS (n : Nat) (A B : Nat → Int × Int) (row col : Nat) : Nat → Int × Int
  | 0 => (0, 0)
  | m + 1 => zadd (dotS n A B row col m) (zmul (A (n * row + m)) (B (n * m + col)))
theorem dotS_le {n : Nat} {A B : Nat → Int × Int} {row col : Nat} {N : Nat} (hA : ∀ j, j < N → zle (A j) 1024) (hB : ∀ j, j < N → zle (B j) 1024) : ∀ m, (∀ i, i < m → n * row + i < N ∧ n * i + col < N) → zle (dotS n A B row col m) (m * 2097152)
  | 0, _ => ⟨by simp [dotS], by simp [dotS]⟩
  | m + 1, h => by
    have ih := dotS_le hA hB m (fun i hi => h i (by omega))
    have hb := zmul_le (hA _ (h m (by omega)).1) (hB _ (h m (by omega)).2)
    have := zadd_le ih hb
    rw [dotS]
    refine ⟨Nat.le_trans this.1 (by omega), Nat.le_trans this.2 (by omega)⟩
theorem heap3_1 (w : World) (A B C : Obj) : (((w.alloc A).alloc B).alloc C).heap[w.heap.size + 1]? = some B :=
  (Below.heap_alloc _ _ _ (by simp)).trans (heap2_1 w A B)
theorem zle_mono {a : Int × Int} {n m : Nat} (h : zle a n) (hm : n ≤ m) : zle a m := ⟨Nat.le_trans h.1 hm, Nat.le_trans h.2 hm⟩
theorem cx_zero (e : Int) : Cx (0, 0) (0, 0) e := ⟨.inr ⟨rfl, false, rfl⟩, .inr ⟨rfl, false, rfl⟩⟩
/-- A matrix's row of numbers. -/
structure Mv (w : World) (N : Nat) (A : Nat → Int × Int) (e : Int) (g : Nat) (p : Nat → Nat × Nat) : Prop where
  row : Rk w g 34 N (fun j => cx (p j))
  val : ∀ j, j < N → Cx (p j) (A j) e
  le : ∀ j, j < N → zle (A j) 1024
theorem Mv.below {w w' : World} {N : Nat} {A : Nat → Int × Int} {e : Int} {g : Nat} {p : Nat → Nat × Nat} (h : Mv w N A e g p) (hb : Below w.heap.size w w') : Mv w' N A e g p := ⟨h.row.below hb, h.val, h.le⟩
/-- A matrix that lies in memory: its block of two cells, its row of numbers. -/
structure Mt (w : World) (b n N : Nat) (A : Nat → Int × Int) (e : Int) (g : Nat) (p : Nat → Nat × Nat) : Prop where
  c0 : w.cell? ⟨b, 0, none⟩ = some (.int .i64 (n : Int))
  c1 : w.cell? ⟨b, 1, none⟩ = some (.slice (some ⟨g, 0, none⟩) N N)
  row : Rk w g 34 N (fun j => cx (p j))
  val : ∀ j, j < N → Cx (p j) (A j) e
  le : ∀ j, j < N → zle (A j) 1024
theorem Mt.below {w w' : World} {b n N : Nat} {A : Nat → Int × Int} {e : Int} {g : Nat} {p : Nat → Nat × Nat} (h : Mt w b n N A e g p) (hb : Below w.heap.size w w') : Mt w' b n N A e g p :=
  ⟨(hb.cell (World.block_lt_of_cell? w _ h.c0)).trans h.c0, (hb.cell (World.block_lt_of_cell? w _ h.c1)).trans h.c1, h.row.below hb, h.val, h.le⟩

set_option maxRecDepth 100000 in
set_option maxHeartbeats 2000000 in
theorem gProd1_2 (row col ba bb ga gb : Nat) (A B : Nat → Int × Int) (pa pb : Nat → Nat × Nat) (ea eb : Int) (hr : row < 2) (hc : col < 2) (he1 : -100 ≤ ea) (he2 : ea ≤ 100) (he1' : -100 ≤ eb) (he2' : eb ≤ 100) (w : World)
    (hA : Mt w ba 2 4 A ea ga pa) (hB : Mt w bb 2 4 B eb gb pb) :
    Calls Tryd.prog 66 #[.int .i64 (row : Int), .int .i64 (col : Int), .pointer (some ⟨ba, 0, none⟩), .pointer (some ⟨bb, 0, none⟩)] w fun e w' => ∃ p : Nat × Nat, e = .returned (.complex .f64 p.1 p.2) ∧ Cx p (dotS 2 A B row col 2) (ea + eb) ∧ Below w.heap.size w w' := by
  have a0 := hA.c0
  have a1 := hA.c1
  have b0 := hB.c0
  have b1 := hB.c1
  go_enter Tryd.func66, Tryd.ntmps66
  go_wp2_with fail
  go_loopw [7, 8, 11] (fun vs _ vi wr => ∃ (i : Nat) (p : Nat × Nat), vs = .complex .f64 p.1 p.2 ∧ vi = .int .i64 (i : Int) ∧ i ≤ 2 ∧ Cx p (dotS 2 A B row col i) (ea + eb) ∧ Below w.heap.size w wr) (fun _ _ vi _ => 2 - (Go.RowKit.intOf vi).toNat)
  case atStart => exact ⟨0, (0, 0), rfl, rfl, by omega, cx_zero _, Below.refl _ _⟩
  case round =>
    obtain ⟨i, p, rfl, rfl, hi, hp, hb⟩ := hrel
    replace hA := hA.below hb
    replace hB := hB.below hb
    clear a0 a1 b0 b1
    have a0 := hA.c0
    have a1 := hA.c1
    have b0 := hB.c0
    have b1 := hB.c1
    by_cases h : i < 2
    · have hd : decide ((i : Int) < 2) = true := decide_eq_true (by omega)
      obtain ⟨J, hJ⟩ : ∃ J, 2 * row + i = J := ⟨_, rfl⟩
      obtain ⟨L, hL⟩ : ∃ L, 2 * i + col = L := ⟨_, rfl⟩
      have hJN : J < 4 := by omega
      have hLN : L < 4 := by omega
      have hJZ : (J : Int) < 4 := by omega
      have hLZ : (L : Int) < 4 := by omega
      have hla := hA.le J hJN
      have hlb := hB.le L hLN
      have hw1 : IntKind.i64.wrap (2 * (row : Int)) = 2 * (row : Int) := wrap_small _ (by omega) (by omega)
      have hw2 : IntKind.i64.wrap (2 * (row : Int) + (i : Int)) = (J : Int) := by rw [wrap_small _ (by omega) (by omega)]; omega
      have hw3 : IntKind.i64.wrap (2 * (i : Int)) = 2 * (i : Int) := wrap_small _ (by omega) (by omega)
      have hw4 : IntKind.i64.wrap (2 * (i : Int) + (col : Int)) = (L : Int) := by rw [wrap_small _ (by omega) (by omega)]; omega
      obtain ⟨q, hq, cM⟩ := cx_mul (hA.val J hJN) (hB.val L hLN) (zle_mono hla (by decide)) (zle_mono hlb (by decide)) he1 he2 he1' he2'
      have hz := dotS_le (n := 2) (row := row) (col := col) hA.le hB.le i (fun j hj => by omega)
      obtain ⟨r, hr', cA⟩ := cx_add hp hq (zle_mono hz (by omega)) (zle_mono (zmul_le hla hlb) (by decide)) (by omega) (by omega)
      have hsucc : Hid (zadd (dotS 2 A B row col i) (zmul (A J) (B L)) = dotS 2 A B row col (i + 1)) := hide (by rw [← hJ, ← hL]; rfl)
      rw [hsucc.out] at hr'
      have xa : wr.cell? ⟨ga, J, none⟩ = some (.complex .f64 (pa J).1 (pa J).2) := hA.row.cell J hJN
      have xb : wr.cell? ⟨gb, L, none⟩ = some (.complex .f64 (pb L).1 (pb L).2) := hB.row.cell L hLN
      generalize pa J = PA at *
      generalize pb L = PB at *
      clear hla hlb hz hq hp hsucc hA hB hJ hL
      go_wp2_with fail
      go_quiet (first | (go_at_call 68; exact Calls.quiet_of_same (cM _)) | (go_at_call 67; exact Calls.quiet_of_same (cA _)))
      go_wp2_with fail
      exact ⟨⟨i + 1, r, rfl, by go_num, by omega, hr', below_drewN hb _⟩, by simp [Go.RowKit.intOf]; omega⟩
    · obtain rfl : i = 2 := by omega
      go_wp2_with fail
      go_ret
      exact ⟨p, rfl, hp, hb⟩

set_option maxRecDepth 100000 in
set_option maxHeartbeats 2000000 in
theorem gProd1_4 (row col ba bb ga gb : Nat) (A B : Nat → Int × Int) (pa pb : Nat → Nat × Nat) (ea eb : Int) (hr : row < 4) (hc : col < 4) (he1 : -100 ≤ ea) (he2 : ea ≤ 100) (he1' : -100 ≤ eb) (he2' : eb ≤ 100) (w : World)
    (hA : Mt w ba 4 16 A ea ga pa) (hB : Mt w bb 4 16 B eb gb pb) :
    Calls Tryd.prog 66 #[.int .i64 (row : Int), .int .i64 (col : Int), .pointer (some ⟨ba, 0, none⟩), .pointer (some ⟨bb, 0, none⟩)] w fun e w' => ∃ p : Nat × Nat, e = .returned (.complex .f64 p.1 p.2) ∧ Cx p (dotS 4 A B row col 4) (ea + eb) ∧ Below w.heap.size w w' := by
  have a0 := hA.c0
  have a1 := hA.c1
  have b0 := hB.c0
  have b1 := hB.c1
  go_enter Tryd.func66, Tryd.ntmps66
  go_wp2_with fail
  go_loopw [7, 8, 11] (fun vs _ vi wr => ∃ (i : Nat) (p : Nat × Nat), vs = .complex .f64 p.1 p.2 ∧ vi = .int .i64 (i : Int) ∧ i ≤ 4 ∧ Cx p (dotS 4 A B row col i) (ea + eb) ∧ Below w.heap.size w wr) (fun _ _ vi _ => 4 - (Go.RowKit.intOf vi).toNat)
  case atStart => exact ⟨0, (0, 0), rfl, rfl, by omega, cx_zero _, Below.refl _ _⟩
  case round =>
    obtain ⟨i, p, rfl, rfl, hi, hp, hb⟩ := hrel
    replace hA := hA.below hb
    replace hB := hB.below hb
    clear a0 a1 b0 b1
    have a0 := hA.c0
    have a1 := hA.c1
    have b0 := hB.c0
    have b1 := hB.c1
    by_cases h : i < 4
    · have hd : decide ((i : Int) < 4) = true := decide_eq_true (by omega)
      obtain ⟨J, hJ⟩ : ∃ J, 4 * row + i = J := ⟨_, rfl⟩
      obtain ⟨L, hL⟩ : ∃ L, 4 * i + col = L := ⟨_, rfl⟩
      have hJN : J < 16 := by omega
      have hLN : L < 16 := by omega
      have hJZ : (J : Int) < 16 := by omega
      have hLZ : (L : Int) < 16 := by omega
      have hla := hA.le J hJN
      have hlb := hB.le L hLN
      have hw1 : IntKind.i64.wrap (4 * (row : Int)) = 4 * (row : Int) := wrap_small _ (by omega) (by omega)
      have hw2 : IntKind.i64.wrap (4 * (row : Int) + (i : Int)) = (J : Int) := by rw [wrap_small _ (by omega) (by omega)]; omega
      have hw3 : IntKind.i64.wrap (4 * (i : Int)) = 4 * (i : Int) := wrap_small _ (by omega) (by omega)
      have hw4 : IntKind.i64.wrap (4 * (i : Int) + (col : Int)) = (L : Int) := by rw [wrap_small _ (by omega) (by omega)]; omega
      obtain ⟨q, hq, cM⟩ := cx_mul (hA.val J hJN) (hB.val L hLN) (zle_mono hla (by decide)) (zle_mono hlb (by decide)) he1 he2 he1' he2'
      have hz := dotS_le (n := 4) (row := row) (col := col) hA.le hB.le i (fun j hj => by omega)
      obtain ⟨r, hr', cA⟩ := cx_add hp hq (zle_mono hz (by omega)) (zle_mono (zmul_le hla hlb) (by decide)) (by omega) (by omega)
      have hsucc : Hid (zadd (dotS 4 A B row col i) (zmul (A J) (B L)) = dotS 4 A B row col (i + 1)) := hide (by rw [← hJ, ← hL]; rfl)
      rw [hsucc.out] at hr'
      have xa : wr.cell? ⟨ga, J, none⟩ = some (.complex .f64 (pa J).1 (pa J).2) := hA.row.cell J hJN
      have xb : wr.cell? ⟨gb, L, none⟩ = some (.complex .f64 (pb L).1 (pb L).2) := hB.row.cell L hLN
      generalize pa J = PA at *
      generalize pb L = PB at *
      clear hla hlb hz hq hp hsucc hA hB hJ hL
      go_wp2_with fail
      go_quiet (first | (go_at_call 68; exact Calls.quiet_of_same (cM _)) | (go_at_call 67; exact Calls.quiet_of_same (cA _)))
      go_wp2_with fail
      exact ⟨⟨i + 1, r, rfl, by go_num, by omega, hr', below_drewN hb _⟩, by simp [Go.RowKit.intOf]; omega⟩
    · obtain rfl : i = 4 := by omega
      go_wp2_with fail
      go_ret
      exact ⟨p, rfl, hp, hb⟩

set_option maxRecDepth 100000 in
set_option maxHeartbeats 2000000 in
theorem gProd1_8 (row col ba bb ga gb : Nat) (A B : Nat → Int × Int) (pa pb : Nat → Nat × Nat) (ea eb : Int) (hr : row < 8) (hc : col < 8) (he1 : -100 ≤ ea) (he2 : ea ≤ 100) (he1' : -100 ≤ eb) (he2' : eb ≤ 100) (w : World)
    (hA : Mt w ba 8 64 A ea ga pa) (hB : Mt w bb 8 64 B eb gb pb) :
    Calls Tryd.prog 66 #[.int .i64 (row : Int), .int .i64 (col : Int), .pointer (some ⟨ba, 0, none⟩), .pointer (some ⟨bb, 0, none⟩)] w fun e w' => ∃ p : Nat × Nat, e = .returned (.complex .f64 p.1 p.2) ∧ Cx p (dotS 8 A B row col 8) (ea + eb) ∧ Below w.heap.size w w' := by
  have a0 := hA.c0
  have a1 := hA.c1
  have b0 := hB.c0
  have b1 := hB.c1
  go_enter Tryd.func66, Tryd.ntmps66
  go_wp2_with fail
  go_loopw [7, 8, 11] (fun vs _ vi wr => ∃ (i : Nat) (p : Nat × Nat), vs = .complex .f64 p.1 p.2 ∧ vi = .int .i64 (i : Int) ∧ i ≤ 8 ∧ Cx p (dotS 8 A B row col i) (ea + eb) ∧ Below w.heap.size w wr) (fun _ _ vi _ => 8 - (Go.RowKit.intOf vi).toNat)
  case atStart => exact ⟨0, (0, 0), rfl, rfl, by omega, cx_zero _, Below.refl _ _⟩
  case round =>
    obtain ⟨i, p, rfl, rfl, hi, hp, hb⟩ := hrel
    replace hA := hA.below hb
    replace hB := hB.below hb
    clear a0 a1 b0 b1
    have a0 := hA.c0
    have a1 := hA.c1
    have b0 := hB.c0
    have b1 := hB.c1
    by_cases h : i < 8
    · have hd : decide ((i : Int) < 8) = true := decide_eq_true (by omega)
      obtain ⟨J, hJ⟩ : ∃ J, 8 * row + i = J := ⟨_, rfl⟩
      obtain ⟨L, hL⟩ : ∃ L, 8 * i + col = L := ⟨_, rfl⟩
      have hJN : J < 64 := by omega
      have hLN : L < 64 := by omega
      have hJZ : (J : Int) < 64 := by omega
      have hLZ : (L : Int) < 64 := by omega
      have hla := hA.le J hJN
      have hlb := hB.le L hLN
      have hw1 : IntKind.i64.wrap (8 * (row : Int)) = 8 * (row : Int) := wrap_small _ (by omega) (by omega)
      have hw2 : IntKind.i64.wrap (8 * (row : Int) + (i : Int)) = (J : Int) := by rw [wrap_small _ (by omega) (by omega)]; omega
      have hw3 : IntKind.i64.wrap (8 * (i : Int)) = 8 * (i : Int) := wrap_small _ (by omega) (by omega)
      have hw4 : IntKind.i64.wrap (8 * (i : Int) + (col : Int)) = (L : Int) := by rw [wrap_small _ (by omega) (by omega)]; omega
      obtain ⟨q, hq, cM⟩ := cx_mul (hA.val J hJN) (hB.val L hLN) (zle_mono hla (by decide)) (zle_mono hlb (by decide)) he1 he2 he1' he2'
      have hz := dotS_le (n := 8) (row := row) (col := col) hA.le hB.le i (fun j hj => by omega)
      obtain ⟨r, hr', cA⟩ := cx_add hp hq (zle_mono hz (by omega)) (zle_mono (zmul_le hla hlb) (by decide)) (by omega) (by omega)
      have hsucc : Hid (zadd (dotS 8 A B row col i) (zmul (A J) (B L)) = dotS 8 A B row col (i + 1)) := hide (by rw [← hJ, ← hL]; rfl)
      rw [hsucc.out] at hr'
      have xa : wr.cell? ⟨ga, J, none⟩ = some (.complex .f64 (pa J).1 (pa J).2) := hA.row.cell J hJN
      have xb : wr.cell? ⟨gb, L, none⟩ = some (.complex .f64 (pb L).1 (pb L).2) := hB.row.cell L hLN
      generalize pa J = PA at *
      generalize pb L = PB at *
      clear hla hlb hz hq hp hsucc hA hB hJ hL
      go_wp2_with fail
      go_quiet (first | (go_at_call 68; exact Calls.quiet_of_same (cM _)) | (go_at_call 67; exact Calls.quiet_of_same (cA _)))
      go_wp2_with fail
      exact ⟨⟨i + 1, r, rfl, by go_num, by omega, hr', below_drewN hb _⟩, by simp [Go.RowKit.intOf]; omega⟩
    · obtain rfl : i = 8 := by omega
      go_wp2_with fail
      go_ret
      exact ⟨p, rfl, hp, hb⟩

set_option maxRecDepth 100000 in
set_option maxHeartbeats 2000000 in
theorem gProduct_2 (ga gb : Nat) (A B : Nat → Int × Int) (pa pb : Nat → Nat × Nat) (ea eb : Int) (he1 : -100 ≤ ea) (he2 : ea ≤ 100) (he1' : -100 ≤ eb) (he2' : eb ≤ 100) (w : World) (hA : Mv w 4 A ea ga pa) (hB : Mv w 4 B eb gb pb) :
    Calls Tryd.prog 44 #[.agg #[.int .i64 2, .slice (some ⟨ga, 0, none⟩) 4 4], .agg #[.int .i64 2, .slice (some ⟨gb, 0, none⟩) 4 4]] w fun e w' => ∃ (g : Nat) (f : Nat → Nat × Nat), e = .returned (.agg #[.int .i64 2, .slice (some ⟨g, 0, none⟩) 4 4]) ∧ Rk w' g 34 4 (fun j => cx (f j)) ∧ (∀ j, j < 4 → Cx (f j) (dotS 2 A B (j / 2) (j % 2) 2) (ea + eb)) ∧ w.heap.size ≤ g ∧ Below w.heap.size w w' := by
  have h0 := heap3_0 w (.cells #[.int .i64 2, .slice (some ⟨ga, 0, none⟩) 4 4] 25) (.cells #[.int .i64 2, .slice (some ⟨gb, 0, none⟩) 4 4] 25) (.cells #[.int .i64 0, .slice none 0 0] 25)
  have h1 := heap3_1 w (.cells #[.int .i64 2, .slice (some ⟨ga, 0, none⟩) 4 4] 25) (.cells #[.int .i64 2, .slice (some ⟨gb, 0, none⟩) 4 4] 25) (.cells #[.int .i64 0, .slice none 0 0] 25)
  have h2 := heap3_2 w (.cells #[.int .i64 2, .slice (some ⟨ga, 0, none⟩) 4 4] 25) (.cells #[.int .i64 2, .slice (some ⟨gb, 0, none⟩) 4 4] 25) (.cells #[.int .i64 0, .slice none 0 0] 25)
  have b0 : Below w.heap.size w (((w.alloc (.cells #[.int .i64 2, .slice (some ⟨ga, 0, none⟩) 4 4] 25)).alloc (.cells #[.int .i64 2, .slice (some ⟨gb, 0, none⟩) 4 4] 25)).alloc (.cells #[.int .i64 0, .slice none 0 0] 25)) := ((below_new w _).trans ((below_new _ _).mono (by simp))).trans ((below_new _ _).mono (by simp; omega))
  have hs0 : (((w.alloc (.cells #[.int .i64 2, .slice (some ⟨ga, 0, none⟩) 4 4] 25)).alloc (.cells #[.int .i64 2, .slice (some ⟨gb, 0, none⟩) 4 4] 25)).alloc (.cells #[.int .i64 0, .slice none 0 0] 25)).heap.size = w.heap.size + 1 + 1 + 1 := by simp
  replace hA := hA.below b0
  replace hB := hB.below b0
  have k0 := cell_of_row _ _ 0 _ _ _ h0
  simp only [List.getElem?_toArray, List.getElem?_cons_zero] at k0
  go_enter Tryd.func44, Tryd.ntmps44
  go_wp2_with fail
  generalize ((w.alloc (.cells #[.int .i64 2, .slice (some ⟨ga, 0, none⟩) 4 4] 25)).alloc (.cells #[.int .i64 2, .slice (some ⟨gb, 0, none⟩) 4 4] 25)).alloc (.cells #[.int .i64 0, .slice none 0 0] 25) = W0 at *
  have mA : Mt W0 w.heap.size 2 4 A ea ga pa := ⟨cell_of_row _ _ 0 _ _ _ h0, cell_of_row _ _ 1 _ _ _ h0, hA.row, hA.val, hA.le⟩
  have mB : Mt W0 (w.heap.size + 1) 2 4 B eb gb pb := ⟨cell_of_row _ _ 0 _ _ _ h1, cell_of_row _ _ 1 _ _ _ h1, hB.row, hB.val, hB.le⟩
  have cF := gFill_p2 w.heap.size (w.heap.size + 1) (fun j p => Cx p (dotS 2 A B (j / 2) (j % 2) 2) (ea + eb)) W0 (fun wr hb row col hr hc => by
    have := gProd1_2 row col w.heap.size (w.heap.size + 1) ga gb A B pa pb ea eb hr hc he1 he2 he1' he2' wr (mA.below hb) (mB.below hb)
    refine this.mono ?_
    rintro e w' ⟨p, rfl, hp, hb'⟩
    refine ⟨p, rfl, ?_, hb'⟩
    rw [show (row * 2 + col) / 2 = row by omega, show (row * 2 + col) % 2 = col by omega]
    exact hp)
  clear mA mB hA hB
  go_wp2_with fail
  refine cF.mono ?_
  rintro e w4 ⟨g, f, rfl, hR, hf, hg, q4⟩
  have h4 := (q4.block (w.heap.size + 1 + 1) (by omega)).trans h2
  clear cF h0 h1 k0
  go_wp2_with (refine wpList_store_row rfl _ _ _ rfl (w.heap.size + 1 + 1) _ rfl rfl _ _ h4 (by exact infoM) (by rfl) (allM _ _ _ _) ?_)
  refine bodyPost_ret (results_c rfl _ _ (w.heap.size + 1 + 1) _ _ _ _ rfl (setRow_heap _ _ _ _ _ _ h4) Tryd.underlying25 rfl (by exact infoM)) rfl ?_
  exact ⟨g, f, rfl, hR.of_block (setRow_other _ _ _ _ (by omega)), hf, by omega, below_setRow (b0.trans (q4.mono b0.size)) (by omega) _⟩

set_option maxRecDepth 100000 in
set_option maxHeartbeats 2000000 in
theorem gProduct_4 (ga gb : Nat) (A B : Nat → Int × Int) (pa pb : Nat → Nat × Nat) (ea eb : Int) (he1 : -100 ≤ ea) (he2 : ea ≤ 100) (he1' : -100 ≤ eb) (he2' : eb ≤ 100) (w : World) (hA : Mv w 16 A ea ga pa) (hB : Mv w 16 B eb gb pb) :
    Calls Tryd.prog 44 #[.agg #[.int .i64 4, .slice (some ⟨ga, 0, none⟩) 16 16], .agg #[.int .i64 4, .slice (some ⟨gb, 0, none⟩) 16 16]] w fun e w' => ∃ (g : Nat) (f : Nat → Nat × Nat), e = .returned (.agg #[.int .i64 4, .slice (some ⟨g, 0, none⟩) 16 16]) ∧ Rk w' g 34 16 (fun j => cx (f j)) ∧ (∀ j, j < 16 → Cx (f j) (dotS 4 A B (j / 4) (j % 4) 4) (ea + eb)) ∧ w.heap.size ≤ g ∧ Below w.heap.size w w' := by
  have h0 := heap3_0 w (.cells #[.int .i64 4, .slice (some ⟨ga, 0, none⟩) 16 16] 25) (.cells #[.int .i64 4, .slice (some ⟨gb, 0, none⟩) 16 16] 25) (.cells #[.int .i64 0, .slice none 0 0] 25)
  have h1 := heap3_1 w (.cells #[.int .i64 4, .slice (some ⟨ga, 0, none⟩) 16 16] 25) (.cells #[.int .i64 4, .slice (some ⟨gb, 0, none⟩) 16 16] 25) (.cells #[.int .i64 0, .slice none 0 0] 25)
  have h2 := heap3_2 w (.cells #[.int .i64 4, .slice (some ⟨ga, 0, none⟩) 16 16] 25) (.cells #[.int .i64 4, .slice (some ⟨gb, 0, none⟩) 16 16] 25) (.cells #[.int .i64 0, .slice none 0 0] 25)
  have b0 : Below w.heap.size w (((w.alloc (.cells #[.int .i64 4, .slice (some ⟨ga, 0, none⟩) 16 16] 25)).alloc (.cells #[.int .i64 4, .slice (some ⟨gb, 0, none⟩) 16 16] 25)).alloc (.cells #[.int .i64 0, .slice none 0 0] 25)) := ((below_new w _).trans ((below_new _ _).mono (by simp))).trans ((below_new _ _).mono (by simp; omega))
  have hs0 : (((w.alloc (.cells #[.int .i64 4, .slice (some ⟨ga, 0, none⟩) 16 16] 25)).alloc (.cells #[.int .i64 4, .slice (some ⟨gb, 0, none⟩) 16 16] 25)).alloc (.cells #[.int .i64 0, .slice none 0 0] 25)).heap.size = w.heap.size + 1 + 1 + 1 := by simp
  replace hA := hA.below b0
  replace hB := hB.below b0
  have k0 := cell_of_row _ _ 0 _ _ _ h0
  simp only [List.getElem?_toArray, List.getElem?_cons_zero] at k0
  go_enter Tryd.func44, Tryd.ntmps44
  go_wp2_with fail
  generalize ((w.alloc (.cells #[.int .i64 4, .slice (some ⟨ga, 0, none⟩) 16 16] 25)).alloc (.cells #[.int .i64 4, .slice (some ⟨gb, 0, none⟩) 16 16] 25)).alloc (.cells #[.int .i64 0, .slice none 0 0] 25) = W0 at *
  have mA : Mt W0 w.heap.size 4 16 A ea ga pa := ⟨cell_of_row _ _ 0 _ _ _ h0, cell_of_row _ _ 1 _ _ _ h0, hA.row, hA.val, hA.le⟩
  have mB : Mt W0 (w.heap.size + 1) 4 16 B eb gb pb := ⟨cell_of_row _ _ 0 _ _ _ h1, cell_of_row _ _ 1 _ _ _ h1, hB.row, hB.val, hB.le⟩
  have cF := gFill_p4 w.heap.size (w.heap.size + 1) (fun j p => Cx p (dotS 4 A B (j / 4) (j % 4) 4) (ea + eb)) W0 (fun wr hb row col hr hc => by
    have := gProd1_4 row col w.heap.size (w.heap.size + 1) ga gb A B pa pb ea eb hr hc he1 he2 he1' he2' wr (mA.below hb) (mB.below hb)
    refine this.mono ?_
    rintro e w' ⟨p, rfl, hp, hb'⟩
    refine ⟨p, rfl, ?_, hb'⟩
    rw [show (row * 4 + col) / 4 = row by omega, show (row * 4 + col) % 4 = col by omega]
    exact hp)
  clear mA mB hA hB
  go_wp2_with fail
  refine cF.mono ?_
  rintro e w4 ⟨g, f, rfl, hR, hf, hg, q4⟩
  have h4 := (q4.block (w.heap.size + 1 + 1) (by omega)).trans h2
  clear cF h0 h1 k0
  go_wp2_with (refine wpList_store_row rfl _ _ _ rfl (w.heap.size + 1 + 1) _ rfl rfl _ _ h4 (by exact infoM) (by rfl) (allM _ _ _ _) ?_)
  refine bodyPost_ret (results_c rfl _ _ (w.heap.size + 1 + 1) _ _ _ _ rfl (setRow_heap _ _ _ _ _ _ h4) Tryd.underlying25 rfl (by exact infoM)) rfl ?_
  exact ⟨g, f, rfl, hR.of_block (setRow_other _ _ _ _ (by omega)), hf, by omega, below_setRow (b0.trans (q4.mono b0.size)) (by omega) _⟩

set_option maxRecDepth 100000 in
set_option maxHeartbeats 2000000 in
theorem gProduct_8 (ga gb : Nat) (A B : Nat → Int × Int) (pa pb : Nat → Nat × Nat) (ea eb : Int) (he1 : -100 ≤ ea) (he2 : ea ≤ 100) (he1' : -100 ≤ eb) (he2' : eb ≤ 100) (w : World) (hA : Mv w 64 A ea ga pa) (hB : Mv w 64 B eb gb pb) :
    Calls Tryd.prog 44 #[.agg #[.int .i64 8, .slice (some ⟨ga, 0, none⟩) 64 64], .agg #[.int .i64 8, .slice (some ⟨gb, 0, none⟩) 64 64]] w fun e w' => ∃ (g : Nat) (f : Nat → Nat × Nat), e = .returned (.agg #[.int .i64 8, .slice (some ⟨g, 0, none⟩) 64 64]) ∧ Rk w' g 34 64 (fun j => cx (f j)) ∧ (∀ j, j < 64 → Cx (f j) (dotS 8 A B (j / 8) (j % 8) 8) (ea + eb)) ∧ w.heap.size ≤ g ∧ Below w.heap.size w w' := by
  have h0 := heap3_0 w (.cells #[.int .i64 8, .slice (some ⟨ga, 0, none⟩) 64 64] 25) (.cells #[.int .i64 8, .slice (some ⟨gb, 0, none⟩) 64 64] 25) (.cells #[.int .i64 0, .slice none 0 0] 25)
  have h1 := heap3_1 w (.cells #[.int .i64 8, .slice (some ⟨ga, 0, none⟩) 64 64] 25) (.cells #[.int .i64 8, .slice (some ⟨gb, 0, none⟩) 64 64] 25) (.cells #[.int .i64 0, .slice none 0 0] 25)
  have h2 := heap3_2 w (.cells #[.int .i64 8, .slice (some ⟨ga, 0, none⟩) 64 64] 25) (.cells #[.int .i64 8, .slice (some ⟨gb, 0, none⟩) 64 64] 25) (.cells #[.int .i64 0, .slice none 0 0] 25)
  have b0 : Below w.heap.size w (((w.alloc (.cells #[.int .i64 8, .slice (some ⟨ga, 0, none⟩) 64 64] 25)).alloc (.cells #[.int .i64 8, .slice (some ⟨gb, 0, none⟩) 64 64] 25)).alloc (.cells #[.int .i64 0, .slice none 0 0] 25)) := ((below_new w _).trans ((below_new _ _).mono (by simp))).trans ((below_new _ _).mono (by simp; omega))
  have hs0 : (((w.alloc (.cells #[.int .i64 8, .slice (some ⟨ga, 0, none⟩) 64 64] 25)).alloc (.cells #[.int .i64 8, .slice (some ⟨gb, 0, none⟩) 64 64] 25)).alloc (.cells #[.int .i64 0, .slice none 0 0] 25)).heap.size = w.heap.size + 1 + 1 + 1 := by simp
  replace hA := hA.below b0
  replace hB := hB.below b0
  have k0 := cell_of_row _ _ 0 _ _ _ h0
  simp only [List.getElem?_toArray, List.getElem?_cons_zero] at k0
  go_enter Tryd.func44, Tryd.ntmps44
  go_wp2_with fail
  generalize ((w.alloc (.cells #[.int .i64 8, .slice (some ⟨ga, 0, none⟩) 64 64] 25)).alloc (.cells #[.int .i64 8, .slice (some ⟨gb, 0, none⟩) 64 64] 25)).alloc (.cells #[.int .i64 0, .slice none 0 0] 25) = W0 at *
  have mA : Mt W0 w.heap.size 8 64 A ea ga pa := ⟨cell_of_row _ _ 0 _ _ _ h0, cell_of_row _ _ 1 _ _ _ h0, hA.row, hA.val, hA.le⟩
  have mB : Mt W0 (w.heap.size + 1) 8 64 B eb gb pb := ⟨cell_of_row _ _ 0 _ _ _ h1, cell_of_row _ _ 1 _ _ _ h1, hB.row, hB.val, hB.le⟩
  have cF := gFill_p8 w.heap.size (w.heap.size + 1) (fun j p => Cx p (dotS 8 A B (j / 8) (j % 8) 8) (ea + eb)) W0 (fun wr hb row col hr hc => by
    have := gProd1_8 row col w.heap.size (w.heap.size + 1) ga gb A B pa pb ea eb hr hc he1 he2 he1' he2' wr (mA.below hb) (mB.below hb)
    refine this.mono ?_
    rintro e w' ⟨p, rfl, hp, hb'⟩
    refine ⟨p, rfl, ?_, hb'⟩
    rw [show (row * 8 + col) / 8 = row by omega, show (row * 8 + col) % 8 = col by omega]
    exact hp)
  clear mA mB hA hB
  go_wp2_with fail
  refine cF.mono ?_
  rintro e w4 ⟨g, f, rfl, hR, hf, hg, q4⟩
  have h4 := (q4.block (w.heap.size + 1 + 1) (by omega)).trans h2
  clear cF h0 h1 k0
  go_wp2_with (refine wpList_store_row rfl _ _ _ rfl (w.heap.size + 1 + 1) _ rfl rfl _ _ h4 (by exact infoM) (by rfl) (allM _ _ _ _) ?_)
  refine bodyPost_ret (results_c rfl _ _ (w.heap.size + 1 + 1) _ _ _ _ rfl (setRow_heap _ _ _ _ _ _ h4) Tryd.underlying25 rfl (by exact infoM)) rfl ?_
  exact ⟨g, f, rfl, hR.of_block (setRow_other _ _ _ _ (by omega)), hf, by omega, below_setRow (b0.trans (q4.mono b0.size)) (by omega) _⟩

end Go.Proofs.YtnhdgellckcnbaaDoor.Gt
