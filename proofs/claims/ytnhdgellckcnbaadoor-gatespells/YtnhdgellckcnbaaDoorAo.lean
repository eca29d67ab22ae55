/- Package gate: Compose. -/
import Derived.Test.YtnhdgellckcnbaaDoorAn
namespace Go.Proofs.YtnhdgellckcnbaaDoor.Gt
open Go.RowKit Go.Proofs.YtnhdgellckcnbaaDoor.Oct Go.Proofs.YtnhdgellckcnbaaDoor.Dy

/-- An entry of the product of two kinds' matrices, in quarters: the second's and the first's. -/
def prodP (n a b j : Nat) : Int × Int := dotS n (mz b) (mz a) (j / n) (j % n) n
/-- Is a kind's matrix that product? -/
def isP (n a b k : Nat) : Bool := eqB (fun j => zdbl (mz k j)) (prodP n a b) (n * n)
/-- The first kind of a row that is it. -/
def fnd (n a b : Nat) : List Nat → Int × Bool
  | [] => (0, false)
  | k :: r => if isP n a b k then ((k : Int), true) else fnd n a b r
theorem fnd_hit {n a b : Nat} : ∀ {l : List Nat} {i k : Nat}, l[i]? = some k → (∀ j x, j < i → l[j]? = some x → isP n a b x = false) → isP n a b k = true → fnd n a b l = ((k : Int), true)
  | [], i, k, h, _, _ => by simp at h
  | x :: r, 0, k, h, _, hk => by simp at h; subst h; rw [fnd, if_pos hk]
  | x :: r, i + 1, k, h, hn, hk => by
    rw [fnd, if_neg (by rw [hn 0 x (by omega) rfl]; decide)]
    exact fnd_hit (l := r) (i := i) (by simpa using h) (fun j y hj hy => hn (j + 1) y (by omega) (by simpa using hy)) hk
theorem fnd_none {n a b : Nat} : ∀ {l : List Nat}, (∀ (j x : Nat), l[j]? = some x → isP n a b x = false) → fnd n a b l = (0, false)
  | [], _ => rfl
  | x :: r, hn => by
    rw [fnd, if_neg (by rw [hn 0 x rfl]; decide)]
    exact fnd_none (fun j y hy => hn (j + 1) y (by simpa using hy))
theorem rows_q : ∀ k : Fin 21, ((rw' (k.1 : Int)).q = 1 → rowsN k.1 = 2) ∧ ((rw' (k.1 : Int)).q = 2 → rowsN k.1 = 4) ∧ ((rw' (k.1 : Int)).q = 3 → rowsN k.1 = 8) := by decide +kernel
theorem q_rows : ∀ k : Fin 21, 1 ≤ k.1 → (rowsN k.1 = 2 → (rw' (k.1 : Int)).q = 1) ∧ (rowsN k.1 = 4 → (rw' (k.1 : Int)).q = 2) ∧ (rowsN k.1 = 8 → (rw' (k.1 : Int)).q = 3) := by decide +kernel
theorem kq_mem {q : Int} {k : Nat} (h : k ∈ kq q 20) : k ≤ 20 ∧ (rw' (k : Int)).q = q := by
  unfold kq at h
  rw [List.mem_filter] at h
  obtain ⟨h1, h2⟩ := h
  simp at h1
  obtain ⟨m, hm, rfl⟩ := h1
  exact ⟨by omega, by simpa using h2⟩
theorem flatW : ∀ (ws : List Wk) (i : Nat) (x : Wk), ws[i]? = some x → ∀ (j : Nat) (v : Value), x.cells[j]? = some v → (ws.flatMap Wk.cells)[i * 3 + j]? = some v
  | [], i, x, h, _, _, _ => by simp at h
  | a :: r, 0, x, h, j, v, hv => by
    simp at h
    subst h
    rw [List.flatMap_cons, Nat.zero_mul, Nat.zero_add, List.getElem?_append_left ((List.getElem?_eq_some_iff.1 hv).1)]
    exact hv
  | a :: r, i + 1, x, h, j, v, hv => by
    have hl : a.cells.length = 3 := rfl
    rw [List.flatMap_cons, List.getElem?_append_right (by omega), hl, show (i + 1) * 3 + j - 3 = i * 3 + j by omega]
    exact flatW r i x (by simpa using h) j v hv
theorem own_word {w : World} {B g n c : Nat} {ws : List Wk} (h : w.ownsRow B 84 3 (.slice (some ⟨g, 0, none⟩) n c) n (ws.flatMap Wk.cells)) (i : Nat) (x : Wk) (hx : ws[i]? = some x) (j : Nat) (v : Value) (hv : x.cells[j]? = some v) : w.cell? ⟨g, i * 3 + j, none⟩ = some v := by
  have hc := h.cells (g := g) (by rw [ob_eq]; rfl) (i * 3 + j) v (flatW ws i x hx j v hv)
  rw [Addr.add_lit, Nat.zero_add] at hc
  exact hc
theorem mz_cx2 (k j : Nat) (hk : k ≤ 20) (hj : j < 64) : Cx (mbs k j) (zdbl (mz k j)) (-2) := by
  have := cx_down (mz_cx k j hk hj)
  rwa [show (-1 - 1 : Int) = -2 from rfl] at this
/-- What Matrix says of a number: how many rows, which error. -/
def mInf (k : Int) : Int × Int := if 1 ≤ k ∧ k ≤ 20 then ((rowsN k.toNat : Int), 0) else (0, 60)
theorem gMatAny (k : Int) (w : World) (hT : Tb w) (hD : Td w) : Calls Tryd.prog 8 #[.int .i64 k] w fun e w' => ∃ ao l c, e = .returned (.tuple #[.agg #[.int .i64 (mInf k).1, .slice ao l c], .int .i64 (mInf k).2]) ∧ Below w.heap.size w w' := by
  by_cases h : 1 ≤ k ∧ k ≤ 20
  · have c := gMat k.toNat (by omega) (by omega) w hT hD
    rw [Int.toNat_of_nonneg (by omega)] at c
    refine c.mono ?_
    rintro e w' ⟨g, rfl, _, _, hb⟩
    exact ⟨_, _, _, by rw [mInf, if_pos h], hb⟩
  · refine (gMat_no k h w hT).mono ?_
    rintro e w' ⟨rfl, hb⟩
    exact ⟨_, _, _, by rw [mInf, if_neg h], hb⟩
set_option maxRecDepth 100000 in
set_option maxHeartbeats 1000000 in
theorem gCompose_no (a b : Int) (hn : (mInf a).2 ≠ 0 ∨ (mInf b).2 ≠ 0 ∨ (mInf a).1 ≠ (mInf b).1) (w : World) (hT : Tb w) (hD : Td w) : Calls Tryd.prog 15 #[.int .i64 a, .int .i64 b] w fun e w' => e = .returned (.tuple #[.int .i64 0, .bool false]) ∧ Below w.heap.size w w' := by
  have c1 := gMatAny a w hT hD
  have c2 := fun w hT hD => gMatAny b w hT hD
  generalize mInf a = A at *
  generalize mInf b = B at *
  obtain ⟨na, ea⟩ := A
  obtain ⟨nb, eb⟩ := B
  dsimp only at *
  have h3 : ((ea != 0) = true) ∨ ((ea != 0) = false ∧ (eb != 0) = true) ∨ ((ea != 0) = false ∧ (eb != 0) = false ∧ (na != nb) = true) := by
    by_cases x : ea = 0
    · by_cases y : eb = 0
      · simp only [x, y, ne_eq, not_true_eq_false, false_or] at hn
        right; right
        refine ⟨by simp [x], by simp [y], by simpa using hn⟩
      · right; left
        exact ⟨by simp [x], by simpa using y⟩
    · left; simpa using x
  clear hn
  have tail : ∀ w1 w2 : World, True := fun _ _ => trivial
  clear tail
  rcases h3 with x | ⟨x, y⟩ | ⟨x, y, z⟩
  all_goals
    go_enter Tryd.func15, Tryd.ntmps15
    go_wp2_with fail
    refine c1.mono ?_
    rintro e w1 ⟨ao, l, c, rfl, q1⟩
    have q2 := q1.trans ((below_new w1 (.cells #[.int .i64 na, .slice ao l c] 25)).mono q1.size)
    go_wp2_with fail
    refine (c2 _ (hT.below q2) (hD.below q2)).mono ?_
    rintro e w3 ⟨ao', l', c', rfl, q3⟩
    have k1 : w3.cell? ⟨w1.heap.size, 0, none⟩ = some (.int .i64 na) := (q3.cell (by simp)).trans (cell_of_row _ _ 0 _ _ _ (heap_alloc_new w1 _))
    replace q3 := q2.trans (q3.mono q2.size)
    have q4 := q3.trans ((below_new w3 (.cells #[.int .i64 nb, .slice ao' l' c'] 25)).mono q3.size)
    have k2 : ∀ o, (w3.alloc o).cell? ⟨w1.heap.size, 0, none⟩ = some (.int .i64 na) := fun o => ((below_new w3 o).cell (World.block_lt_of_cell? w3 _ k1)).trans k1
    go_wp2_with fail
    go_ret2
    exact ⟨rfl, q4⟩

theorem mv_2 {w : World} {k g : Nat} (hk : k ≤ 20) (_hn : rowsN k = 2) (h : Rk w g 34 4 (fun j => cx (mbs k j))) : Mv w 4 (mz k) (-1) g (mbs k) :=
  ⟨h, fun j hj => mz_cx k j hk (by omega), fun j _ => zle_mono (mz_le k j) (by decide)⟩
theorem isP_2 (a b k : Nat) : isP 2 a b k = eqB (fun j => zdbl (mz k j)) (prodP 2 a b) 4 := by
  unfold isP
  rw [show 2 * 2 = 4 from rfl]
theorem eqWord_2 (a b k gm gp : Nat) (f : Nat → Nat × Nat) (hk : k ≤ 20) (W : World) (hm : Rk W gm 34 4 (fun j => cx (mbs k j))) (hp : Rk W gp 34 4 (fun j => cx (f j))) (hf : ∀ j, j < 4 → Cx (f j) (prodP 2 a b j) (-2)) :
    Calls Tryd.prog 46 #[.agg #[.int .i64 2, .slice (some ⟨gm, 0, none⟩) 4 4], .agg #[.int .i64 2, .slice (some ⟨gp, 0, none⟩) 4 4]] W fun e w' => e = .returned (.bool (isP 2 a b k)) ∧ Below W.heap.size W w' := by
  have lp : ∀ j, j < 4 → zle (prodP 2 a b j) 4503599627370496 := fun j hj => zle_mono (dotS_le (N := 4) (fun j _ => zle_mono (mz_le b j) (by decide)) (fun j _ => zle_mono (mz_le a j) (by decide)) 2 (fun i hi => by omega)) (by decide)
  have la : ∀ j, j < 4 → zle (zdbl (mz k j)) 4503599627370496 := fun j _ => by
    have := mz_le k j
    unfold zle zdbl at *
    dsimp only
    omega
  have va : ∀ j, j < 4 → Cx (mbs k j) (zdbl (mz k j)) (-2) := fun j hj => mz_cx2 k j hk (by omega)
  rw [isP_2]
  generalize prodP 2 a b = B at *
  exact gEqual 2 2 gm gp 4 (fun j => zdbl (mz k j)) B (mbs k) f (-2) (by decide) (by decide) (by decide) W hm hp va hf la lp
set_option maxRecDepth 100000 in
set_option maxHeartbeats 4000000 in
theorem gCompose_2 (a b : Nat) (ha1 : 1 ≤ a) (ha2 : a ≤ 20) (hb1 : 1 ≤ b) (hb2 : b ≤ 20) (hra : rowsN a = 2) (hrb : rowsN b = 2) (w : World) (hT : Tb w) (hD : Td w) :
    Calls Tryd.prog 15 #[.int .i64 (a : Int), .int .i64 (b : Int)] w fun e w' => e = .returned (.tuple #[.int .i64 (fnd 2 a b (kq 1 20)).1, .bool (fnd 2 a b (kq 1 20)).2]) ∧ Below w.heap.size w w' := by
  have c1 := gMat a ha1 ha2 w hT hD
  have c2 := fun w hT hD => gMat b hb1 hb2 w hT hD
  have cA := fun w hT => gArity (a : Int) w hT
  have cG := fun w hT hD => gGatesOf 1 w hT hD
  rw [((q_rows ⟨a, by omega⟩ ha1).1 hra : (rw' (a : Int)).q = 1)] at cA
  rw [hra] at c1
  rw [hrb] at c2
  unfold MPost at c1 c2
  unfold GPost at cG
  generalize hF : fnd 2 a b (kq 1 20) = F at *
  have HF := hide hF
  clear hF
  go_enter Tryd.func15, Tryd.ntmps15
  go_wp2_with fail
  refine c1.mono ?_
  rintro e w1 ⟨ga, rfl, hRa, hga, q1⟩
  have q2 := q1.trans ((below_new w1 (.cells #[.int .i64 2, .slice (some ⟨ga, 0, none⟩) 4 4] 25)).mono q1.size)
  have h6 := heap_alloc_new w1 (.cells #[.int .i64 2, .slice (some ⟨ga, 0, none⟩) 4 4] 25)
  have hRa2 := hRa.below (below_new w1 (.cells #[.int .i64 2, .slice (some ⟨ga, 0, none⟩) 4 4] 25))
  clear hRa c1 q1
  go_wp2_with fail
  generalize w1.alloc (.cells #[.int .i64 2, .slice (some ⟨ga, 0, none⟩) 4 4] 25) = W2 at *
  refine (c2 _ (hT.below q2) (hD.below q2)).mono ?_
  rintro e w3 ⟨gb, rfl, hRb, hgb, q3⟩
  replace h6 := (q3.block _ (Array.getElem?_eq_some_iff.1 h6).1).trans h6
  replace hRa2 := hRa2.below q3
  replace q3 := q2.trans (q3.mono q2.size)
  have q4 := q3.trans ((below_new w3 (.cells #[.int .i64 2, .slice (some ⟨gb, 0, none⟩) 4 4] 25)).mono q3.size)
  have h8 := heap_alloc_new w3 (.cells #[.int .i64 2, .slice (some ⟨gb, 0, none⟩) 4 4] 25)
  have hRb2 := hRb.below (below_new w3 (.cells #[.int .i64 2, .slice (some ⟨gb, 0, none⟩) 4 4] 25))
  replace hRa2 := hRa2.below (below_new w3 (.cells #[.int .i64 2, .slice (some ⟨gb, 0, none⟩) 4 4] 25))
  replace h6 := ((below_new w3 (.cells #[.int .i64 2, .slice (some ⟨gb, 0, none⟩) 4 4] 25)).block _ (Array.getElem?_eq_some_iff.1 h6).1).trans h6
  clear hRb c2 q3 q2
  have k6 := cell_of_row _ _ 0 _ _ _ h6
  have k8 := cell_of_row _ _ 0 _ _ _ h8
  simp only [List.getElem?_toArray, List.getElem?_cons_zero] at k6 k8
  have cP := gProduct_2 gb ga (mz b) (mz a) (mbs b) (mbs a) (-1) (-1) (by decide) (by decide) (by decide) (by decide) _ (mv_2 hb2 hrb hRb2) (mv_2 ha2 hra hRa2)
  go_wp2_with (first
    | refine wpList_load_row rfl 25 _ rfl w3.heap.size rfl 25 _ (0, 0) _ h8 Tryd.underlying25 rfl (by exact infoM) ?_
    | refine wpList_load_row rfl 25 _ rfl w1.heap.size rfl 25 _ (0, 0) _ h6 Tryd.underlying25 rfl (by exact infoM) ?_)
  clear k6 k8 h6 h8 hRa2 hRb2
  generalize w3.alloc (.cells #[.int .i64 2, .slice (some ⟨gb, 0, none⟩) 4 4] 25) = W4 at *
  refine cP.mono ?_
  rintro e w5 ⟨gp, f, rfl, hRp, hf, hgp, q5⟩
  replace q5 := q4.trans (q5.mono q4.size)
  have q6 := q5.trans ((below_new w5 (.cells #[.int .i64 2, .slice (some ⟨gp, 0, none⟩) 4 4] 25)).mono q5.size)
  have h10 := heap_alloc_new w5 (.cells #[.int .i64 2, .slice (some ⟨gp, 0, none⟩) 4 4] 25)
  have hRp6 := hRp.below (below_new w5 (.cells #[.int .i64 2, .slice (some ⟨gp, 0, none⟩) 4 4] 25))
  have hf2 : ∀ j, j < 4 → Cx (f j) (prodP 2 a b j) (-2) := hf
  clear cP hRp q4 q5 hf
  go_wp2_with fail
  generalize w5.alloc (.cells #[.int .i64 2, .slice (some ⟨gp, 0, none⟩) 4 4] 25) = W6 at *
  refine (cA _ (hT.below q6)).mono ?_
  rintro e w7 ⟨rfl, q7⟩
  replace h10 := (q7.block _ (Array.getElem?_eq_some_iff.1 h10).1).trans h10
  replace hRp6 := hRp6.below q7
  replace q7 := q6.trans (q7.mono q6.size)
  clear q6 cA
  go_wp2_with fail
  refine (cG _ (hT.below q7) (hD.below q7)).mono ?_
  rintro e w8 ⟨ao, c, ws, rfl, hown, hW, hks, q8⟩
  replace h10 := (q8.block _ (Array.getElem?_eq_some_iff.1 h10).1).trans h10
  replace hRp6 := hRp6.below q8
  replace q8 := q7.trans (q8.mono q7.size)
  clear q7 cG hT hD
  have hws : ws.length ≤ 20 := by
    have := congrArg List.length hks
    rw [List.length_map, show (kq 1 20).length = 10 from by decide +kernel] at this
    omega
  have HKS := hide hks
  clear hks
  go_wp2_with fail
  go_loopw [12, 43] (fun _ vi wr => ∃ i : Nat, vi = .int .i64 (i : Int) ∧ i ≤ ws.length ∧ Hid (∀ j x, j < i → (kq 1 20)[j]? = some x → isP 2 a b x = false) ∧ wr.ownsRow w7.heap.size 84 3 (.slice ao ws.length c) ws.length (ws.flatMap Wk.cells) ∧ (∀ x ∈ ws, Wd wr x) ∧ wr.heap[w5.heap.size]? = some (.cells #[.int .i64 2, .slice (some ⟨gp, 0, none⟩) 4 4] 25) ∧ Rk wr gp 34 4 (fun j => cx (f j)) ∧ Below w.heap.size w wr) (fun _ vi _ => ws.length - (Go.RowKit.intOf vi).toNat)
  case atStart => exact ⟨0, rfl, by omega, hide (fun j x hj => absurd hj (by omega)), hown, hW, h10, hRp6, q8⟩
  case round =>
    clear hown hW h10 hRp6 q8
    obtain ⟨i, rfl, hi, HN, hown, hW, h10, hRp, hb⟩ := hrel
    by_cases h : i < ws.length
    · have hd : decide ((i : Int) < (ws.length : Int)) = true := decide_eq_true (by omega)
      obtain ⟨x, hx⟩ : ∃ x, ws[i]? = some x := ⟨_, List.getElem?_eq_getElem h⟩
      have hxk : (kq 1 20)[i]? = some x.k := by rw [← HKS.out, List.getElem?_map, hx]; rfl
      obtain ⟨hk20, hkq⟩ := kq_mem (List.mem_of_getElem? hxk)
      have hrn : rowsN x.k = 2 := (rows_q ⟨x.k, by omega⟩).1 hkq
      have hwd := hW x (List.mem_of_getElem? hx)
      have hxN : x.N = 4 := by unfold Wk.N; rw [hrn]
      have hmat := hwd.mat
      rw [hxN] at hmat
      obtain ⟨g, rfl⟩ : ∃ g, ao = some ⟨g, 0, none⟩ := by
        rcases hown.2 with ⟨_, h0⟩ | ⟨g, cap, cur, hv, _⟩
        · omega
        · simp only [Value.slice.injEq] at hv
          exact ⟨g, hv.1⟩
      have hcells : ∀ j v, [Value.slice (some ⟨x.gk, 0, none⟩) 1 1, .int .i64 2, .slice (some ⟨x.gm, 0, none⟩) 4 4][j]? = some v → wr.cell? ⟨g, i * 3 + j, none⟩ = some v := by
        intro j v hv
        refine own_word hown i x hx j v ?_
        unfold Wk.cells
        rw [hxN, hrn]
        exact hv
      have cE : ∀ W, Below wr.heap.size wr W → Calls Tryd.prog 46 #[.agg #[.int .i64 2, .slice (some ⟨x.gm, 0, none⟩) 4 4], .agg #[.int .i64 2, .slice (some ⟨gp, 0, none⟩) 4 4]] W fun e w' => e = .returned (.bool (isP 2 a b x.k)) ∧ Below W.heap.size W w' := by
        intro W hW'
        exact eqWord_2 a b x.k x.gm gp f hk20 W (hmat.below hW') (hRp.below hW') hf2
      have hkc := hwd.kind.cell 0 (by decide)
      have k10 := cell_of_row _ _ 0 _ _ _ h10
      have hob := below_new wr (.cells #[.slice (some ⟨x.gk, 0, none⟩) 1 1, .int .i64 2, .slice (some ⟨x.gm, 0, none⟩) 4 4] 84)
      have hnb := heap_alloc_new wr (.cells #[.slice (some ⟨x.gk, 0, none⟩) 1 1, .int .i64 2, .slice (some ⟨x.gm, 0, none⟩) 4 4] 84)
      have h10b := (hob.block _ (Array.getElem?_eq_some_iff.1 h10).1).trans h10
      have cE1 := cE _ hob
      have hmid := run_loadVar_at (P := Tryd.prog) (wr.alloc (.cells #[.slice (some ⟨x.gk, 0, none⟩) 1 1, .int .i64 2, .slice (some ⟨x.gm, 0, none⟩) 4 4] 84)) wr.heap.size 1 25 [.int .i64 2, .slice (some ⟨x.gm, 0, none⟩) 4 4] _ (fun j v hv => by
        rw [cell_of_row _ _ _ _ _ _ hnb]
        match j, hv with
        | 0, hv => simpa using hv
        | 1, hv => simpa using hv) Tryd.underlying25 rfl (by exact infoM)
      have hl3 : ∀ j v, [Value.int .i64 2, .slice (some ⟨x.gm, 0, none⟩) 4 4][j]? = some v → (wr.alloc (.cells #[.slice (some ⟨x.gk, 0, none⟩) 1 1, .int .i64 2, .slice (some ⟨x.gm, 0, none⟩) 4 4] 84)).cell? ⟨wr.heap.size, 1 + j, none⟩ = some v := by
        intro j v hv
        rw [cell_of_row _ _ _ _ _ _ hnb]
        match j, hv with
        | 0, hv => simpa using hv
        | 1, hv => simpa using hv
      clear hmid
      have hown1 := own_below hown hob
      have hW1 : ∀ x ∈ ws, Wd _ x := fun x hx => (hW x hx).below hob
      have hRp1 := hRp.below hob
      have hb1 := hb.trans (hob.mono hb.size)
      have hkc1 := (hob.cell hwd.kind.lt).trans hkc
      clear cE hown hW hRp hb hkc k10 hmat h10
      go_wp2_with (first
        | refine wpList_load_at rfl _ _ rfl g (i * 3) rfl [.slice (some ⟨x.gk, 0, none⟩) 1 1, .int .i64 2, .slice (some ⟨x.gm, 0, none⟩) 4 4] _ hcells Tryd.underlying84 rfl (by kernel_rfl) ?_
        | refine wpList_load_at rfl _ _ rfl wr.heap.size 1 rfl [.int .i64 2, .slice (some ⟨x.gm, 0, none⟩) 4 4] _ hl3 Tryd.underlying25 rfl (by exact infoM) ?_
        | refine wpList_load_row rfl 25 _ rfl w5.heap.size rfl 25 _ (0, 0) _ h10b Tryd.underlying25 rfl (by exact infoM) ?_)
      obtain ⟨P, hP⟩ : ∃ P, isP 2 a b x.k = P := ⟨_, rfl⟩
      rw [hP] at cE1
      refine cE1.mono ?_
      rintro e w9 ⟨rfl, q9⟩
      have n0 := (q9.cell (p := ⟨wr.heap.size, 0, none⟩) (by simp)).trans (cell_of_row _ _ 0 _ _ _ hnb)
      simp only [List.getElem?_toArray, List.getElem?_cons_zero] at n0
      have hkc9 := (q9.cell (World.block_lt_of_cell? _ _ hkc1)).trans hkc1
      have hb9 := hb1.trans (q9.mono hb1.size)
      have hown9 := own_below hown1 q9
      have hW9 : ∀ x ∈ ws, Wd w9 x := fun x hx => (hW1 x hx).below q9
      have hRp9 := hRp1.below q9
      have h109 := (q9.block _ (Array.getElem?_eq_some_iff.1 h10b).1).trans h10b
      clear hown1 hW1 hRp1 h10b q9 hb1 hkc1 hnb hl3 hcells cE1 hob hwd
      cases P
      · have HN2 : Hid (∀ j x, j < i + 1 → (kq 1 20)[j]? = some x → isP 2 a b x = false) := hide (fun j y hj hy => by
          by_cases e : j = i
          · rw [e, hxk] at hy
            cases hy
            exact hP
          · exact HN.out j y (by omega) hy)
        clear HN n0 hkc9
        go_wp2_with fail
        exact ⟨⟨i + 1, by go_num, by omega, HN2, hown9, hW9, h109, hRp9, hb9⟩, by simp [Go.RowKit.intOf]; omega⟩
      · have HF2 : Hid (F = ((x.k : Int), true)) := hide (by rw [← HF.out]; exact fnd_hit hxk HN.out hP)
        clear HN HF hown9 hW9 h109 hRp9
        go_wp2_with fail
        go_ret2
        exact ⟨by rw [HF2.out]; rfl, hb9⟩
    · obtain rfl : i = ws.length := by omega
      have HF2 : Hid (F = (0, false)) := hide (by
        rw [← HF.out]
        refine fnd_none (fun j x hx => HN.out j x ?_ hx)
        have := (List.getElem?_eq_some_iff.1 hx).1
        rw [← HKS.out, List.length_map] at this
        exact this)
      clear HF HN HKS
      go_wp2_with fail
      go_ret2
      exact ⟨by rw [HF2.out]; rfl, hb⟩

theorem mv_4 {w : World} {k g : Nat} (hk : k ≤ 20) (_hn : rowsN k = 4) (h : Rk w g 34 16 (fun j => cx (mbs k j))) : Mv w 16 (mz k) (-1) g (mbs k) :=
  ⟨h, fun j hj => mz_cx k j hk (by omega), fun j _ => zle_mono (mz_le k j) (by decide)⟩
theorem isP_4 (a b k : Nat) : isP 4 a b k = eqB (fun j => zdbl (mz k j)) (prodP 4 a b) 16 := by
  unfold isP
  rw [show 4 * 4 = 16 from rfl]
theorem eqWord_4 (a b k gm gp : Nat) (f : Nat → Nat × Nat) (hk : k ≤ 20) (W : World) (hm : Rk W gm 34 16 (fun j => cx (mbs k j))) (hp : Rk W gp 34 16 (fun j => cx (f j))) (hf : ∀ j, j < 16 → Cx (f j) (prodP 4 a b j) (-2)) :
    Calls Tryd.prog 46 #[.agg #[.int .i64 4, .slice (some ⟨gm, 0, none⟩) 16 16], .agg #[.int .i64 4, .slice (some ⟨gp, 0, none⟩) 16 16]] W fun e w' => e = .returned (.bool (isP 4 a b k)) ∧ Below W.heap.size W w' := by
  have lp : ∀ j, j < 16 → zle (prodP 4 a b j) 4503599627370496 := fun j hj => zle_mono (dotS_le (N := 16) (fun j _ => zle_mono (mz_le b j) (by decide)) (fun j _ => zle_mono (mz_le a j) (by decide)) 4 (fun i hi => by omega)) (by decide)
  have la : ∀ j, j < 16 → zle (zdbl (mz k j)) 4503599627370496 := fun j _ => by
    have := mz_le k j
    unfold zle zdbl at *
    dsimp only
    omega
  have va : ∀ j, j < 16 → Cx (mbs k j) (zdbl (mz k j)) (-2) := fun j hj => mz_cx2 k j hk (by omega)
  rw [isP_4]
  generalize prodP 4 a b = B at *
  exact gEqual 4 4 gm gp 16 (fun j => zdbl (mz k j)) B (mbs k) f (-2) (by decide) (by decide) (by decide) W hm hp va hf la lp
set_option maxRecDepth 100000 in
set_option maxHeartbeats 4000000 in
theorem gCompose_4 (a b : Nat) (ha1 : 1 ≤ a) (ha2 : a ≤ 20) (hb1 : 1 ≤ b) (hb2 : b ≤ 20) (hra : rowsN a = 4) (hrb : rowsN b = 4) (w : World) (hT : Tb w) (hD : Td w) :
    Calls Tryd.prog 15 #[.int .i64 (a : Int), .int .i64 (b : Int)] w fun e w' => e = .returned (.tuple #[.int .i64 (fnd 4 a b (kq 2 20)).1, .bool (fnd 4 a b (kq 2 20)).2]) ∧ Below w.heap.size w w' := by
  have c1 := gMat a ha1 ha2 w hT hD
  have c2 := fun w hT hD => gMat b hb1 hb2 w hT hD
  have cA := fun w hT => gArity (a : Int) w hT
  have cG := fun w hT hD => gGatesOf 2 w hT hD
  rw [((q_rows ⟨a, by omega⟩ ha1).2.1 hra : (rw' (a : Int)).q = 2)] at cA
  rw [hra] at c1
  rw [hrb] at c2
  unfold MPost at c1 c2
  unfold GPost at cG
  generalize hF : fnd 4 a b (kq 2 20) = F at *
  have HF := hide hF
  clear hF
  go_enter Tryd.func15, Tryd.ntmps15
  go_wp2_with fail
  refine c1.mono ?_
  rintro e w1 ⟨ga, rfl, hRa, hga, q1⟩
  have q2 := q1.trans ((below_new w1 (.cells #[.int .i64 4, .slice (some ⟨ga, 0, none⟩) 16 16] 25)).mono q1.size)
  have h6 := heap_alloc_new w1 (.cells #[.int .i64 4, .slice (some ⟨ga, 0, none⟩) 16 16] 25)
  have hRa2 := hRa.below (below_new w1 (.cells #[.int .i64 4, .slice (some ⟨ga, 0, none⟩) 16 16] 25))
  clear hRa c1 q1
  go_wp2_with fail
  generalize w1.alloc (.cells #[.int .i64 4, .slice (some ⟨ga, 0, none⟩) 16 16] 25) = W2 at *
  refine (c2 _ (hT.below q2) (hD.below q2)).mono ?_
  rintro e w3 ⟨gb, rfl, hRb, hgb, q3⟩
  replace h6 := (q3.block _ (Array.getElem?_eq_some_iff.1 h6).1).trans h6
  replace hRa2 := hRa2.below q3
  replace q3 := q2.trans (q3.mono q2.size)
  have q4 := q3.trans ((below_new w3 (.cells #[.int .i64 4, .slice (some ⟨gb, 0, none⟩) 16 16] 25)).mono q3.size)
  have h8 := heap_alloc_new w3 (.cells #[.int .i64 4, .slice (some ⟨gb, 0, none⟩) 16 16] 25)
  have hRb2 := hRb.below (below_new w3 (.cells #[.int .i64 4, .slice (some ⟨gb, 0, none⟩) 16 16] 25))
  replace hRa2 := hRa2.below (below_new w3 (.cells #[.int .i64 4, .slice (some ⟨gb, 0, none⟩) 16 16] 25))
  replace h6 := ((below_new w3 (.cells #[.int .i64 4, .slice (some ⟨gb, 0, none⟩) 16 16] 25)).block _ (Array.getElem?_eq_some_iff.1 h6).1).trans h6
  clear hRb c2 q3 q2
  have k6 := cell_of_row _ _ 0 _ _ _ h6
  have k8 := cell_of_row _ _ 0 _ _ _ h8
  simp only [List.getElem?_toArray, List.getElem?_cons_zero] at k6 k8
  have cP := gProduct_4 gb ga (mz b) (mz a) (mbs b) (mbs a) (-1) (-1) (by decide) (by decide) (by decide) (by decide) _ (mv_4 hb2 hrb hRb2) (mv_4 ha2 hra hRa2)
  go_wp2_with (first
    | refine wpList_load_row rfl 25 _ rfl w3.heap.size rfl 25 _ (0, 0) _ h8 Tryd.underlying25 rfl (by exact infoM) ?_
    | refine wpList_load_row rfl 25 _ rfl w1.heap.size rfl 25 _ (0, 0) _ h6 Tryd.underlying25 rfl (by exact infoM) ?_)
  clear k6 k8 h6 h8 hRa2 hRb2
  generalize w3.alloc (.cells #[.int .i64 4, .slice (some ⟨gb, 0, none⟩) 16 16] 25) = W4 at *
  refine cP.mono ?_
  rintro e w5 ⟨gp, f, rfl, hRp, hf, hgp, q5⟩
  replace q5 := q4.trans (q5.mono q4.size)
  have q6 := q5.trans ((below_new w5 (.cells #[.int .i64 4, .slice (some ⟨gp, 0, none⟩) 16 16] 25)).mono q5.size)
  have h10 := heap_alloc_new w5 (.cells #[.int .i64 4, .slice (some ⟨gp, 0, none⟩) 16 16] 25)
  have hRp6 := hRp.below (below_new w5 (.cells #[.int .i64 4, .slice (some ⟨gp, 0, none⟩) 16 16] 25))
  have hf2 : ∀ j, j < 16 → Cx (f j) (prodP 4 a b j) (-2) := hf
  clear cP hRp q4 q5 hf
  go_wp2_with fail
  generalize w5.alloc (.cells #[.int .i64 4, .slice (some ⟨gp, 0, none⟩) 16 16] 25) = W6 at *
  refine (cA _ (hT.below q6)).mono ?_
  rintro e w7 ⟨rfl, q7⟩
  replace h10 := (q7.block _ (Array.getElem?_eq_some_iff.1 h10).1).trans h10
  replace hRp6 := hRp6.below q7
  replace q7 := q6.trans (q7.mono q6.size)
  clear q6 cA
  go_wp2_with fail
  refine (cG _ (hT.below q7) (hD.below q7)).mono ?_
  rintro e w8 ⟨ao, c, ws, rfl, hown, hW, hks, q8⟩
  replace h10 := (q8.block _ (Array.getElem?_eq_some_iff.1 h10).1).trans h10
  replace hRp6 := hRp6.below q8
  replace q8 := q7.trans (q8.mono q7.size)
  clear q7 cG hT hD
  have hws : ws.length ≤ 20 := by
    have := congrArg List.length hks
    rw [List.length_map, show (kq 2 20).length = 7 from by decide +kernel] at this
    omega
  have HKS := hide hks
  clear hks
  go_wp2_with fail
  go_loopw [12, 43] (fun _ vi wr => ∃ i : Nat, vi = .int .i64 (i : Int) ∧ i ≤ ws.length ∧ Hid (∀ j x, j < i → (kq 2 20)[j]? = some x → isP 4 a b x = false) ∧ wr.ownsRow w7.heap.size 84 3 (.slice ao ws.length c) ws.length (ws.flatMap Wk.cells) ∧ (∀ x ∈ ws, Wd wr x) ∧ wr.heap[w5.heap.size]? = some (.cells #[.int .i64 4, .slice (some ⟨gp, 0, none⟩) 16 16] 25) ∧ Rk wr gp 34 16 (fun j => cx (f j)) ∧ Below w.heap.size w wr) (fun _ vi _ => ws.length - (Go.RowKit.intOf vi).toNat)
  case atStart => exact ⟨0, rfl, by omega, hide (fun j x hj => absurd hj (by omega)), hown, hW, h10, hRp6, q8⟩
  case round =>
    clear hown hW h10 hRp6 q8
    obtain ⟨i, rfl, hi, HN, hown, hW, h10, hRp, hb⟩ := hrel
    by_cases h : i < ws.length
    · have hd : decide ((i : Int) < (ws.length : Int)) = true := decide_eq_true (by omega)
      obtain ⟨x, hx⟩ : ∃ x, ws[i]? = some x := ⟨_, List.getElem?_eq_getElem h⟩
      have hxk : (kq 2 20)[i]? = some x.k := by rw [← HKS.out, List.getElem?_map, hx]; rfl
      obtain ⟨hk20, hkq⟩ := kq_mem (List.mem_of_getElem? hxk)
      have hrn : rowsN x.k = 4 := (rows_q ⟨x.k, by omega⟩).2.1 hkq
      have hwd := hW x (List.mem_of_getElem? hx)
      have hxN : x.N = 16 := by unfold Wk.N; rw [hrn]
      have hmat := hwd.mat
      rw [hxN] at hmat
      obtain ⟨g, rfl⟩ : ∃ g, ao = some ⟨g, 0, none⟩ := by
        rcases hown.2 with ⟨_, h0⟩ | ⟨g, cap, cur, hv, _⟩
        · omega
        · simp only [Value.slice.injEq] at hv
          exact ⟨g, hv.1⟩
      have hcells : ∀ j v, [Value.slice (some ⟨x.gk, 0, none⟩) 1 1, .int .i64 4, .slice (some ⟨x.gm, 0, none⟩) 16 16][j]? = some v → wr.cell? ⟨g, i * 3 + j, none⟩ = some v := by
        intro j v hv
        refine own_word hown i x hx j v ?_
        unfold Wk.cells
        rw [hxN, hrn]
        exact hv
      have cE : ∀ W, Below wr.heap.size wr W → Calls Tryd.prog 46 #[.agg #[.int .i64 4, .slice (some ⟨x.gm, 0, none⟩) 16 16], .agg #[.int .i64 4, .slice (some ⟨gp, 0, none⟩) 16 16]] W fun e w' => e = .returned (.bool (isP 4 a b x.k)) ∧ Below W.heap.size W w' := by
        intro W hW'
        exact eqWord_4 a b x.k x.gm gp f hk20 W (hmat.below hW') (hRp.below hW') hf2
      have hkc := hwd.kind.cell 0 (by decide)
      have k10 := cell_of_row _ _ 0 _ _ _ h10
      have hob := below_new wr (.cells #[.slice (some ⟨x.gk, 0, none⟩) 1 1, .int .i64 4, .slice (some ⟨x.gm, 0, none⟩) 16 16] 84)
      have hnb := heap_alloc_new wr (.cells #[.slice (some ⟨x.gk, 0, none⟩) 1 1, .int .i64 4, .slice (some ⟨x.gm, 0, none⟩) 16 16] 84)
      have h10b := (hob.block _ (Array.getElem?_eq_some_iff.1 h10).1).trans h10
      have cE1 := cE _ hob
      have hmid := run_loadVar_at (P := Tryd.prog) (wr.alloc (.cells #[.slice (some ⟨x.gk, 0, none⟩) 1 1, .int .i64 4, .slice (some ⟨x.gm, 0, none⟩) 16 16] 84)) wr.heap.size 1 25 [.int .i64 4, .slice (some ⟨x.gm, 0, none⟩) 16 16] _ (fun j v hv => by
        rw [cell_of_row _ _ _ _ _ _ hnb]
        match j, hv with
        | 0, hv => simpa using hv
        | 1, hv => simpa using hv) Tryd.underlying25 rfl (by exact infoM)
      have hl3 : ∀ j v, [Value.int .i64 4, .slice (some ⟨x.gm, 0, none⟩) 16 16][j]? = some v → (wr.alloc (.cells #[.slice (some ⟨x.gk, 0, none⟩) 1 1, .int .i64 4, .slice (some ⟨x.gm, 0, none⟩) 16 16] 84)).cell? ⟨wr.heap.size, 1 + j, none⟩ = some v := by
        intro j v hv
        rw [cell_of_row _ _ _ _ _ _ hnb]
        match j, hv with
        | 0, hv => simpa using hv
        | 1, hv => simpa using hv
      clear hmid
      have hown1 := own_below hown hob
      have hW1 : ∀ x ∈ ws, Wd _ x := fun x hx => (hW x hx).below hob
      have hRp1 := hRp.below hob
      have hb1 := hb.trans (hob.mono hb.size)
      have hkc1 := (hob.cell hwd.kind.lt).trans hkc
      clear cE hown hW hRp hb hkc k10 hmat h10
      go_wp2_with (first
        | refine wpList_load_at rfl _ _ rfl g (i * 3) rfl [.slice (some ⟨x.gk, 0, none⟩) 1 1, .int .i64 4, .slice (some ⟨x.gm, 0, none⟩) 16 16] _ hcells Tryd.underlying84 rfl (by kernel_rfl) ?_
        | refine wpList_load_at rfl _ _ rfl wr.heap.size 1 rfl [.int .i64 4, .slice (some ⟨x.gm, 0, none⟩) 16 16] _ hl3 Tryd.underlying25 rfl (by exact infoM) ?_
        | refine wpList_load_row rfl 25 _ rfl w5.heap.size rfl 25 _ (0, 0) _ h10b Tryd.underlying25 rfl (by exact infoM) ?_)
      obtain ⟨P, hP⟩ : ∃ P, isP 4 a b x.k = P := ⟨_, rfl⟩
      rw [hP] at cE1
      refine cE1.mono ?_
      rintro e w9 ⟨rfl, q9⟩
      have n0 := (q9.cell (p := ⟨wr.heap.size, 0, none⟩) (by simp)).trans (cell_of_row _ _ 0 _ _ _ hnb)
      simp only [List.getElem?_toArray, List.getElem?_cons_zero] at n0
      have hkc9 := (q9.cell (World.block_lt_of_cell? _ _ hkc1)).trans hkc1
      have hb9 := hb1.trans (q9.mono hb1.size)
      have hown9 := own_below hown1 q9
      have hW9 : ∀ x ∈ ws, Wd w9 x := fun x hx => (hW1 x hx).below q9
      have hRp9 := hRp1.below q9
      have h109 := (q9.block _ (Array.getElem?_eq_some_iff.1 h10b).1).trans h10b
      clear hown1 hW1 hRp1 h10b q9 hb1 hkc1 hnb hl3 hcells cE1 hob hwd
      cases P
      · have HN2 : Hid (∀ j x, j < i + 1 → (kq 2 20)[j]? = some x → isP 4 a b x = false) := hide (fun j y hj hy => by
          by_cases e : j = i
          · rw [e, hxk] at hy
            cases hy
            exact hP
          · exact HN.out j y (by omega) hy)
        clear HN n0 hkc9
        go_wp2_with fail
        exact ⟨⟨i + 1, by go_num, by omega, HN2, hown9, hW9, h109, hRp9, hb9⟩, by simp [Go.RowKit.intOf]; omega⟩
      · have HF2 : Hid (F = ((x.k : Int), true)) := hide (by rw [← HF.out]; exact fnd_hit hxk HN.out hP)
        clear HN HF hown9 hW9 h109 hRp9
        go_wp2_with fail
        go_ret2
        exact ⟨by rw [HF2.out]; rfl, hb9⟩
    · obtain rfl : i = ws.length := by omega
      have HF2 : Hid (F = (0, false)) := hide (by
        rw [← HF.out]
        refine fnd_none (fun j x hx => HN.out j x ?_ hx)
        have := (List.getElem?_eq_some_iff.1 hx).1
        rw [← HKS.out, List.length_map] at this
        exact this)
      clear HF HN HKS
      go_wp2_with fail
      go_ret2
      exact ⟨by rw [HF2.out]; rfl, hb⟩

theorem mv_8 {w : World} {k g : Nat} (hk : k ≤ 20) (_hn : rowsN k = 8) (h : Rk w g 34 64 (fun j => cx (mbs k j))) : Mv w 64 (mz k) (-1) g (mbs k) :=
  ⟨h, fun j hj => mz_cx k j hk (by omega), fun j _ => zle_mono (mz_le k j) (by decide)⟩
theorem isP_8 (a b k : Nat) : isP 8 a b k = eqB (fun j => zdbl (mz k j)) (prodP 8 a b) 64 := by
  unfold isP
  rw [show 8 * 8 = 64 from rfl]
theorem eqWord_8 (a b k gm gp : Nat) (f : Nat → Nat × Nat) (hk : k ≤ 20) (W : World) (hm : Rk W gm 34 64 (fun j => cx (mbs k j))) (hp : Rk W gp 34 64 (fun j => cx (f j))) (hf : ∀ j, j < 64 → Cx (f j) (prodP 8 a b j) (-2)) :
    Calls Tryd.prog 46 #[.agg #[.int .i64 8, .slice (some ⟨gm, 0, none⟩) 64 64], .agg #[.int .i64 8, .slice (some ⟨gp, 0, none⟩) 64 64]] W fun e w' => e = .returned (.bool (isP 8 a b k)) ∧ Below W.heap.size W w' := by
  have lp : ∀ j, j < 64 → zle (prodP 8 a b j) 4503599627370496 := fun j hj => zle_mono (dotS_le (N := 64) (fun j _ => zle_mono (mz_le b j) (by decide)) (fun j _ => zle_mono (mz_le a j) (by decide)) 8 (fun i hi => by omega)) (by decide)
  have la : ∀ j, j < 64 → zle (zdbl (mz k j)) 4503599627370496 := fun j _ => by
    have := mz_le k j
    unfold zle zdbl at *
    dsimp only
    omega
  have va : ∀ j, j < 64 → Cx (mbs k j) (zdbl (mz k j)) (-2) := fun j hj => mz_cx2 k j hk (by omega)
  rw [isP_8]
  generalize prodP 8 a b = B at *
  exact gEqual 8 8 gm gp 64 (fun j => zdbl (mz k j)) B (mbs k) f (-2) (by decide) (by decide) (by decide) W hm hp va hf la lp
set_option maxRecDepth 100000 in
set_option maxHeartbeats 4000000 in
theorem gCompose_8 (a b : Nat) (ha1 : 1 ≤ a) (ha2 : a ≤ 20) (hb1 : 1 ≤ b) (hb2 : b ≤ 20) (hra : rowsN a = 8) (hrb : rowsN b = 8) (w : World) (hT : Tb w) (hD : Td w) :
    Calls Tryd.prog 15 #[.int .i64 (a : Int), .int .i64 (b : Int)] w fun e w' => e = .returned (.tuple #[.int .i64 (fnd 8 a b (kq 3 20)).1, .bool (fnd 8 a b (kq 3 20)).2]) ∧ Below w.heap.size w w' := by
  have c1 := gMat a ha1 ha2 w hT hD
  have c2 := fun w hT hD => gMat b hb1 hb2 w hT hD
  have cA := fun w hT => gArity (a : Int) w hT
  have cG := fun w hT hD => gGatesOf 3 w hT hD
  rw [((q_rows ⟨a, by omega⟩ ha1).2.2 hra : (rw' (a : Int)).q = 3)] at cA
  rw [hra] at c1
  rw [hrb] at c2
  unfold MPost at c1 c2
  unfold GPost at cG
  generalize hF : fnd 8 a b (kq 3 20) = F at *
  have HF := hide hF
  clear hF
  go_enter Tryd.func15, Tryd.ntmps15
  go_wp2_with fail
  refine c1.mono ?_
  rintro e w1 ⟨ga, rfl, hRa, hga, q1⟩
  have q2 := q1.trans ((below_new w1 (.cells #[.int .i64 8, .slice (some ⟨ga, 0, none⟩) 64 64] 25)).mono q1.size)
  have h6 := heap_alloc_new w1 (.cells #[.int .i64 8, .slice (some ⟨ga, 0, none⟩) 64 64] 25)
  have hRa2 := hRa.below (below_new w1 (.cells #[.int .i64 8, .slice (some ⟨ga, 0, none⟩) 64 64] 25))
  clear hRa c1 q1
  go_wp2_with fail
  generalize w1.alloc (.cells #[.int .i64 8, .slice (some ⟨ga, 0, none⟩) 64 64] 25) = W2 at *
  refine (c2 _ (hT.below q2) (hD.below q2)).mono ?_
  rintro e w3 ⟨gb, rfl, hRb, hgb, q3⟩
  replace h6 := (q3.block _ (Array.getElem?_eq_some_iff.1 h6).1).trans h6
  replace hRa2 := hRa2.below q3
  replace q3 := q2.trans (q3.mono q2.size)
  have q4 := q3.trans ((below_new w3 (.cells #[.int .i64 8, .slice (some ⟨gb, 0, none⟩) 64 64] 25)).mono q3.size)
  have h8 := heap_alloc_new w3 (.cells #[.int .i64 8, .slice (some ⟨gb, 0, none⟩) 64 64] 25)
  have hRb2 := hRb.below (below_new w3 (.cells #[.int .i64 8, .slice (some ⟨gb, 0, none⟩) 64 64] 25))
  replace hRa2 := hRa2.below (below_new w3 (.cells #[.int .i64 8, .slice (some ⟨gb, 0, none⟩) 64 64] 25))
  replace h6 := ((below_new w3 (.cells #[.int .i64 8, .slice (some ⟨gb, 0, none⟩) 64 64] 25)).block _ (Array.getElem?_eq_some_iff.1 h6).1).trans h6
  clear hRb c2 q3 q2
  have k6 := cell_of_row _ _ 0 _ _ _ h6
  have k8 := cell_of_row _ _ 0 _ _ _ h8
  simp only [List.getElem?_toArray, List.getElem?_cons_zero] at k6 k8
  have cP := gProduct_8 gb ga (mz b) (mz a) (mbs b) (mbs a) (-1) (-1) (by decide) (by decide) (by decide) (by decide) _ (mv_8 hb2 hrb hRb2) (mv_8 ha2 hra hRa2)
  go_wp2_with (first
    | refine wpList_load_row rfl 25 _ rfl w3.heap.size rfl 25 _ (0, 0) _ h8 Tryd.underlying25 rfl (by exact infoM) ?_
    | refine wpList_load_row rfl 25 _ rfl w1.heap.size rfl 25 _ (0, 0) _ h6 Tryd.underlying25 rfl (by exact infoM) ?_)
  clear k6 k8 h6 h8 hRa2 hRb2
  generalize w3.alloc (.cells #[.int .i64 8, .slice (some ⟨gb, 0, none⟩) 64 64] 25) = W4 at *
  refine cP.mono ?_
  rintro e w5 ⟨gp, f, rfl, hRp, hf, hgp, q5⟩
  replace q5 := q4.trans (q5.mono q4.size)
  have q6 := q5.trans ((below_new w5 (.cells #[.int .i64 8, .slice (some ⟨gp, 0, none⟩) 64 64] 25)).mono q5.size)
  have h10 := heap_alloc_new w5 (.cells #[.int .i64 8, .slice (some ⟨gp, 0, none⟩) 64 64] 25)
  have hRp6 := hRp.below (below_new w5 (.cells #[.int .i64 8, .slice (some ⟨gp, 0, none⟩) 64 64] 25))
  have hf2 : ∀ j, j < 64 → Cx (f j) (prodP 8 a b j) (-2) := hf
  clear cP hRp q4 q5 hf
  go_wp2_with fail
  generalize w5.alloc (.cells #[.int .i64 8, .slice (some ⟨gp, 0, none⟩) 64 64] 25) = W6 at *
  refine (cA _ (hT.below q6)).mono ?_
  rintro e w7 ⟨rfl, q7⟩
  replace h10 := (q7.block _ (Array.getElem?_eq_some_iff.1 h10).1).trans h10
  replace hRp6 := hRp6.below q7
  replace q7 := q6.trans (q7.mono q6.size)
  clear q6 cA
  go_wp2_with fail
  refine (cG _ (hT.below q7) (hD.below q7)).mono ?_
  rintro e w8 ⟨ao, c, ws, rfl, hown, hW, hks, q8⟩
  replace h10 := (q8.block _ (Array.getElem?_eq_some_iff.1 h10).1).trans h10
  replace hRp6 := hRp6.below q8
  replace q8 := q7.trans (q8.mono q7.size)
  clear q7 cG hT hD
  have hws : ws.length ≤ 20 := by
    have := congrArg List.length hks
    rw [List.length_map, show (kq 3 20).length = 3 from by decide +kernel] at this
    omega
  have HKS := hide hks
  clear hks
  go_wp2_with fail
  go_loopw [12, 43] (fun _ vi wr => ∃ i : Nat, vi = .int .i64 (i : Int) ∧ i ≤ ws.length ∧ Hid (∀ j x, j < i → (kq 3 20)[j]? = some x → isP 8 a b x = false) ∧ wr.ownsRow w7.heap.size 84 3 (.slice ao ws.length c) ws.length (ws.flatMap Wk.cells) ∧ (∀ x ∈ ws, Wd wr x) ∧ wr.heap[w5.heap.size]? = some (.cells #[.int .i64 8, .slice (some ⟨gp, 0, none⟩) 64 64] 25) ∧ Rk wr gp 34 64 (fun j => cx (f j)) ∧ Below w.heap.size w wr) (fun _ vi _ => ws.length - (Go.RowKit.intOf vi).toNat)
  case atStart => exact ⟨0, rfl, by omega, hide (fun j x hj => absurd hj (by omega)), hown, hW, h10, hRp6, q8⟩
  case round =>
    clear hown hW h10 hRp6 q8
    obtain ⟨i, rfl, hi, HN, hown, hW, h10, hRp, hb⟩ := hrel
    by_cases h : i < ws.length
    · have hd : decide ((i : Int) < (ws.length : Int)) = true := decide_eq_true (by omega)
      obtain ⟨x, hx⟩ : ∃ x, ws[i]? = some x := ⟨_, List.getElem?_eq_getElem h⟩
      have hxk : (kq 3 20)[i]? = some x.k := by rw [← HKS.out, List.getElem?_map, hx]; rfl
      obtain ⟨hk20, hkq⟩ := kq_mem (List.mem_of_getElem? hxk)
      have hrn : rowsN x.k = 8 := (rows_q ⟨x.k, by omega⟩).2.2 hkq
      have hwd := hW x (List.mem_of_getElem? hx)
      have hxN : x.N = 64 := by unfold Wk.N; rw [hrn]
      have hmat := hwd.mat
      rw [hxN] at hmat
      obtain ⟨g, rfl⟩ : ∃ g, ao = some ⟨g, 0, none⟩ := by
        rcases hown.2 with ⟨_, h0⟩ | ⟨g, cap, cur, hv, _⟩
        · omega
        · simp only [Value.slice.injEq] at hv
          exact ⟨g, hv.1⟩
      have hcells : ∀ j v, [Value.slice (some ⟨x.gk, 0, none⟩) 1 1, .int .i64 8, .slice (some ⟨x.gm, 0, none⟩) 64 64][j]? = some v → wr.cell? ⟨g, i * 3 + j, none⟩ = some v := by
        intro j v hv
        refine own_word hown i x hx j v ?_
        unfold Wk.cells
        rw [hxN, hrn]
        exact hv
      have cE : ∀ W, Below wr.heap.size wr W → Calls Tryd.prog 46 #[.agg #[.int .i64 8, .slice (some ⟨x.gm, 0, none⟩) 64 64], .agg #[.int .i64 8, .slice (some ⟨gp, 0, none⟩) 64 64]] W fun e w' => e = .returned (.bool (isP 8 a b x.k)) ∧ Below W.heap.size W w' := by
        intro W hW'
        exact eqWord_8 a b x.k x.gm gp f hk20 W (hmat.below hW') (hRp.below hW') hf2
      have hkc := hwd.kind.cell 0 (by decide)
      have k10 := cell_of_row _ _ 0 _ _ _ h10
      have hob := below_new wr (.cells #[.slice (some ⟨x.gk, 0, none⟩) 1 1, .int .i64 8, .slice (some ⟨x.gm, 0, none⟩) 64 64] 84)
      have hnb := heap_alloc_new wr (.cells #[.slice (some ⟨x.gk, 0, none⟩) 1 1, .int .i64 8, .slice (some ⟨x.gm, 0, none⟩) 64 64] 84)
      have h10b := (hob.block _ (Array.getElem?_eq_some_iff.1 h10).1).trans h10
      have cE1 := cE _ hob
      have hmid := run_loadVar_at (P := Tryd.prog) (wr.alloc (.cells #[.slice (some ⟨x.gk, 0, none⟩) 1 1, .int .i64 8, .slice (some ⟨x.gm, 0, none⟩) 64 64] 84)) wr.heap.size 1 25 [.int .i64 8, .slice (some ⟨x.gm, 0, none⟩) 64 64] _ (fun j v hv => by
        rw [cell_of_row _ _ _ _ _ _ hnb]
        match j, hv with
        | 0, hv => simpa using hv
        | 1, hv => simpa using hv) Tryd.underlying25 rfl (by exact infoM)
      have hl3 : ∀ j v, [Value.int .i64 8, .slice (some ⟨x.gm, 0, none⟩) 64 64][j]? = some v → (wr.alloc (.cells #[.slice (some ⟨x.gk, 0, none⟩) 1 1, .int .i64 8, .slice (some ⟨x.gm, 0, none⟩) 64 64] 84)).cell? ⟨wr.heap.size, 1 + j, none⟩ = some v := by
        intro j v hv
        rw [cell_of_row _ _ _ _ _ _ hnb]
        match j, hv with
        | 0, hv => simpa using hv
        | 1, hv => simpa using hv
      clear hmid
      have hown1 := own_below hown hob
      have hW1 : ∀ x ∈ ws, Wd _ x := fun x hx => (hW x hx).below hob
      have hRp1 := hRp.below hob
      have hb1 := hb.trans (hob.mono hb.size)
      have hkc1 := (hob.cell hwd.kind.lt).trans hkc
      clear cE hown hW hRp hb hkc k10 hmat h10
      go_wp2_with (first
        | refine wpList_load_at rfl _ _ rfl g (i * 3) rfl [.slice (some ⟨x.gk, 0, none⟩) 1 1, .int .i64 8, .slice (some ⟨x.gm, 0, none⟩) 64 64] _ hcells Tryd.underlying84 rfl (by kernel_rfl) ?_
        | refine wpList_load_at rfl _ _ rfl wr.heap.size 1 rfl [.int .i64 8, .slice (some ⟨x.gm, 0, none⟩) 64 64] _ hl3 Tryd.underlying25 rfl (by exact infoM) ?_
        | refine wpList_load_row rfl 25 _ rfl w5.heap.size rfl 25 _ (0, 0) _ h10b Tryd.underlying25 rfl (by exact infoM) ?_)
      obtain ⟨P, hP⟩ : ∃ P, isP 8 a b x.k = P := ⟨_, rfl⟩
      rw [hP] at cE1
      refine cE1.mono ?_
      rintro e w9 ⟨rfl, q9⟩
      have n0 := (q9.cell (p := ⟨wr.heap.size, 0, none⟩) (by simp)).trans (cell_of_row _ _ 0 _ _ _ hnb)
      simp only [List.getElem?_toArray, List.getElem?_cons_zero] at n0
      have hkc9 := (q9.cell (World.block_lt_of_cell? _ _ hkc1)).trans hkc1
      have hb9 := hb1.trans (q9.mono hb1.size)
      have hown9 := own_below hown1 q9
      have hW9 : ∀ x ∈ ws, Wd w9 x := fun x hx => (hW1 x hx).below q9
      have hRp9 := hRp1.below q9
      have h109 := (q9.block _ (Array.getElem?_eq_some_iff.1 h10b).1).trans h10b
      clear hown1 hW1 hRp1 h10b q9 hb1 hkc1 hnb hl3 hcells cE1 hob hwd
      cases P
      · have HN2 : Hid (∀ j x, j < i + 1 → (kq 3 20)[j]? = some x → isP 8 a b x = false) := hide (fun j y hj hy => by
          by_cases e : j = i
          · rw [e, hxk] at hy
            cases hy
            exact hP
          · exact HN.out j y (by omega) hy)
        clear HN n0 hkc9
        go_wp2_with fail
        exact ⟨⟨i + 1, by go_num, by omega, HN2, hown9, hW9, h109, hRp9, hb9⟩, by simp [Go.RowKit.intOf]; omega⟩
      · have HF2 : Hid (F = ((x.k : Int), true)) := hide (by rw [← HF.out]; exact fnd_hit hxk HN.out hP)
        clear HN HF hown9 hW9 h109 hRp9
        go_wp2_with fail
        go_ret2
        exact ⟨by rw [HF2.out]; rfl, hb9⟩
    · obtain rfl : i = ws.length := by omega
      have HF2 : Hid (F = (0, false)) := hide (by
        rw [← HF.out]
        refine fnd_none (fun j x hx => HN.out j x ?_ hx)
        have := (List.getElem?_eq_some_iff.1 hx).1
        rw [← HKS.out, List.length_map] at this
        exact this)
      clear HF HN HKS
      go_wp2_with fail
      go_ret2
      exact ⟨by rw [HF2.out]; rfl, hb⟩

/-- What Compose answers. -/
def cmpP (a b : Int) : Int × Bool := if (1 ≤ a ∧ a ≤ 20) ∧ (1 ≤ b ∧ b ≤ 20) ∧ rowsN a.toNat = rowsN b.toNat then fnd (rowsN a.toNat) a.toNat b.toNat (kq (rw' a).q 20) else (0, false)
theorem rowsN_is (k : Nat) : rowsN k = 2 ∨ rowsN k = 4 ∨ rowsN k = 8 := by
  unfold rowsN
  repeat' split
  all_goals simp
theorem gCompose (a b : Int) (w : World) (hT : Tb w) (hD : Td w) : Calls Tryd.prog 15 #[.int .i64 a, .int .i64 b] w fun e w' => e = .returned (.tuple #[.int .i64 (cmpP a b).1, .bool (cmpP a b).2]) ∧ Below w.heap.size w w' := by
  by_cases h : (1 ≤ a ∧ a ≤ 20) ∧ (1 ≤ b ∧ b ≤ 20) ∧ rowsN a.toNat = rowsN b.toNat
  · unfold cmpP
    rw [if_pos h]
    obtain ⟨h1, h2, h3⟩ := h
    obtain ⟨n, rfl⟩ : ∃ n : Nat, a = (n : Int) := ⟨a.toNat, by omega⟩
    obtain ⟨m, rfl⟩ : ∃ m : Nat, b = (m : Int) := ⟨b.toNat, by omega⟩
    simp only [Int.toNat_natCast] at *
    have hq := q_rows ⟨n, by omega⟩ (by show 1 ≤ n; omega)
    rcases rowsN_is n with e | e | e
    · rw [e, hq.1 e]
      exact gCompose_2 n m (by omega) (by omega) (by omega) (by omega) e (h3 ▸ e) w hT hD
    · rw [e, hq.2.1 e]
      exact gCompose_4 n m (by omega) (by omega) (by omega) (by omega) e (h3 ▸ e) w hT hD
    · rw [e, hq.2.2 e]
      exact gCompose_8 n m (by omega) (by omega) (by omega) (by omega) e (h3 ▸ e) w hT hD
  · unfold cmpP
    rw [if_neg h]
    refine gCompose_no a b ?_ w hT hD
    by_cases x : 1 ≤ a ∧ a ≤ 20
    · by_cases y : 1 ≤ b ∧ b ≤ 20
      · right; right
        unfold mInf
        rw [if_pos x, if_pos y]
        intro e
        exact h ⟨x, y, by exact Int.ofNat.inj e⟩
      · right; left
        unfold mInf
        rw [if_neg y]
        decide
    · left
      unfold mInf
      rw [if_neg x]
      decide
end Go.Proofs.YtnhdgellckcnbaaDoor.Gt
