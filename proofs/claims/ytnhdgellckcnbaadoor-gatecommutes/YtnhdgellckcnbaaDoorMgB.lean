/- The document's units; its matrices as they lie. -/
import Derived.Test.YtnhdgellckcnbaaDoorMgA
import Derived.Test.YtnhdgellckcnbaaDoorXe
import Derived.Test.YtnhdgellckcnbaaDoorXq
/- The document's units; its matrices as they lie. -/
namespace Go.Proofs.YtnhdgellckcnbaaDoor.Gt
open Go.RowKit Go.Proofs.YtnhdgellckcnbaaDoor.Oct Go.Proofs.YtnhdgellckcnbaaDoor.Dy

/-- A unit of the document, as it lies. -/
def uz (t : Nat) : Nat × Nat := if t = 1 then (0, 4607182418800017408) else if t = 2 then (13830554455654793216, 0) else if t = 3 then (0, 13830554455654793216) else (4607182418800017408, 0)
set_option maxRecDepth 100000 in
theorem hUnit (t : Nat) (ht : t < 4) (w : World) : Calls Tryd.prog 35 #[.int .i64 (t : Int)] w fun e w' => e = .returned (.agg #[.float .f64 (uz t).1, .float .f64 (uz t).2]) ∧ Below w.heap.size w w' := by
  have hstf := store_f
  have h4 : t = 0 ∨ t = 1 ∨ t = 2 ∨ t = 3 := by omega
  clear ht
  rcases h4 with rfl | rfl | rfl | rfl
  all_goals
    go_enter Tryd.func35, Tryd.ntmps35
    go_wp2_with fail
    refine bodyPost_ret (results_c rfl _ _ w.heap.size _ _ _ _ rfl (heap_alloc_new _ _) Tryd.underlying66 rfl (by exact infoZ)) rfl ?_
    exact ⟨rfl, below_new _ _⟩
/-- A square of the document's numbers, as it lies: a row of rows. -/
structure Dm (w : World) (g n : Nat) (rb : Nat → Nat) (f : Nat → Nat → Nat × Nat) : Prop where
  top : Rk w g 62 n (fun r => .slice (some ⟨rb r, 0, none⟩) n n)
  rows : ∀ r, r < n → Rk w (rb r) 66 (2 * n) (fun j => .float .f64 (if j % 2 = 0 then (f r (j / 2)).1 else (f r (j / 2)).2))
  inj : ∀ r s, r < n → s < n → rb r = rb s → r = s
  ne : ∀ r, r < n → rb r ≠ g
namespace Dm
variable {w : World} {g n : Nat} {rb : Nat → Nat} {f f' : Nat → Nat → Nat × Nat}
theorem below {w' : World} (h : Dm w g n rb f) (hb : Below w.heap.size w w') : Dm w' g n rb f := ⟨h.top.below hb, fun r hr => (h.rows r hr).below hb, h.inj, h.ne⟩
theorem congr (h : Dm w g n rb f) (e : ∀ r c, r < n → c < n → f r c = f' r c) : Dm w g n rb f' := ⟨h.top, fun r hr => (h.rows r hr).congr (fun j hj => by rw [e r (j / 2) hr (by omega)]), h.inj, h.ne⟩
theorem row (h : Dm w g n rb f) {r : Nat} (hr : r < n) : w.cell? ⟨g, r, none⟩ = some (.slice (some ⟨rb r, 0, none⟩) n n) := h.top.cell r hr
theorem re (h : Dm w g n rb f) {r c : Nat} (hr : r < n) (hc : c < n) : w.cell? ⟨rb r, c * 2, none⟩ = some (.float .f64 (f r c).1) := by
  have := (h.rows r hr).cell (c * 2) (by omega)
  rw [this]
  simp
theorem im (h : Dm w g n rb f) {r c : Nat} (hr : r < n) (hc : c < n) : w.cell? ⟨rb r, c * 2 + 1, none⟩ = some (.float .f64 (f r c).2) := by
  have := (h.rows r hr).cell (c * 2 + 1) (by omega)
  rw [this, if_neg (by omega), show (c * 2 + 1) / 2 = c by omega]
theorem set (h : Dm w g n rb f) {r c : Nat} (hr : r < n) (p : Nat × Nat) :
    Dm ((w.setCell ⟨rb r, c * 2, none⟩ (.float .f64 p.1)).setCell ⟨rb r, c * 2 + 1, none⟩ (.float .f64 p.2)) g n rb (fun i j => if i = r ∧ j = c then p else f i j) := by
  refine ⟨(h.top.far (fun e => h.ne r hr e.symm) _).far (fun e => h.ne r hr e.symm) _, fun s hs => ?_, h.inj, h.ne⟩
  by_cases e : s = r
  · subst e
    refine (((h.rows s hs).set (c * 2) _).set (c * 2 + 1) _).congr (fun j hj => ?_)
    by_cases e1 : j = c * 2 + 1
    · subst e1
      rw [if_pos rfl, if_neg (by omega), show (c * 2 + 1) / 2 = c by omega, if_pos ⟨rfl, rfl⟩]
    · rw [if_neg e1]
      by_cases e2 : j = c * 2
      · subst e2
        rw [if_pos rfl, if_pos (by omega), show (c * 2) / 2 = c by omega, if_pos ⟨rfl, rfl⟩]
      · rw [if_neg e2]
        have : ¬ j / 2 = c := by omega
        simp only [this, and_false, if_false]
  · have hne : rb s ≠ rb r := fun e' => e (h.inj s r hs hr e')
    refine ((((h.rows s hs).far (a := ⟨rb r, c * 2, none⟩) hne _).far (a := ⟨rb r, c * 2 + 1, none⟩) hne _)).congr (fun j hj => ?_)
    simp only [e, false_and, if_false]
end Dm
end Go.Proofs.YtnhdgellckcnbaaDoor.Gt
/- Rows of the document's numbers, made. -/
namespace Go.Proofs.YtnhdgellckcnbaaDoor.Gt
open Go.RowKit
theorem make_z2 (w : World) : (Instr.makeSlice 62 (.int .i64 2) (.int .i64 2)).run Tryd.prog w = .ok (.slice (some ⟨w.heap.size, 0, none⟩) 2 2) (w.alloc (.cells #[.float .f64 0, .float .f64 0, .float .f64 0, .float .f64 0] 66)) := by kernel_rfl
theorem make_zz2 (w : World) : (Instr.makeSlice 29 (.int .i64 2) (.int .i64 2)).run Tryd.prog w = .ok (.slice (some ⟨w.heap.size, 0, none⟩) 2 2) (w.alloc (.cells #[.slice none 0 0, .slice none 0 0] 62)) := by kernel_rfl
theorem make_z4 (w : World) : (Instr.makeSlice 62 (.int .i64 4) (.int .i64 4)).run Tryd.prog w = .ok (.slice (some ⟨w.heap.size, 0, none⟩) 4 4) (w.alloc (.cells #[.float .f64 0, .float .f64 0, .float .f64 0, .float .f64 0, .float .f64 0, .float .f64 0, .float .f64 0, .float .f64 0] 66)) := by kernel_rfl
theorem make_zz4 (w : World) : (Instr.makeSlice 29 (.int .i64 4) (.int .i64 4)).run Tryd.prog w = .ok (.slice (some ⟨w.heap.size, 0, none⟩) 4 4) (w.alloc (.cells #[.slice none 0 0, .slice none 0 0, .slice none 0 0, .slice none 0 0] 62)) := by kernel_rfl
theorem make_z8 (w : World) : (Instr.makeSlice 62 (.int .i64 8) (.int .i64 8)).run Tryd.prog w = .ok (.slice (some ⟨w.heap.size, 0, none⟩) 8 8) (w.alloc (.cells #[.float .f64 0, .float .f64 0, .float .f64 0, .float .f64 0, .float .f64 0, .float .f64 0, .float .f64 0, .float .f64 0, .float .f64 0, .float .f64 0, .float .f64 0, .float .f64 0, .float .f64 0, .float .f64 0, .float .f64 0, .float .f64 0] 66)) := by kernel_rfl
theorem make_zz8 (w : World) : (Instr.makeSlice 29 (.int .i64 8) (.int .i64 8)).run Tryd.prog w = .ok (.slice (some ⟨w.heap.size, 0, none⟩) 8 8) (w.alloc (.cells #[.slice none 0 0, .slice none 0 0, .slice none 0 0, .slice none 0 0, .slice none 0 0, .slice none 0 0, .slice none 0 0, .slice none 0 0] 62)) := by kernel_rfl
theorem mv_in_lt : ∀ x ∈ mvCases, (mvT x.1 x.2).1 < rowsN x.1 ∧ (mvT x.1 x.2).2 < 4 := by decide +kernel
/-- The square as it is being made: its first m rows lie. -/
structure Dq (w : World) (g n m : Nat) (rb : Nat → Nat) : Prop where
  top : Rk w g 62 n (fun r => if r < m then .slice (some ⟨rb r, 0, none⟩) n n else .slice none 0 0)
  rows : ∀ r, r < m → Rk w (rb r) 66 (2 * n) (fun _ => .float .f64 0)
  inj : ∀ r s, r < m → s < m → rb r = rb s → r = s
  ne : ∀ r, r < m → rb r ≠ g
namespace Dq
variable {w : World} {g n m : Nat} {rb : Nat → Nat}
theorem whole (h : Dq w g n n rb) : Dm w g n rb (fun _ _ => (0, 0)) := ⟨h.top.congr (fun i hi => if_pos hi), fun r hr => (h.rows r hr).congr (fun j _ => by simp), h.inj, h.ne⟩
theorem step (h : Dq w g n m rb) (cs : Array Value) (hn : 2 * n ≤ cs.size) (hz : ∀ i, i < 2 * n → cs[i]? = some (.float .f64 0)) :
    Dq ((w.alloc (.cells cs 66)).setCell ⟨g, m, none⟩ (.slice (some ⟨w.heap.size, 0, none⟩) n n)) g n (m + 1) (fun r => if r = m then w.heap.size else rb r) := by
  have hb := below_new w (.cells cs 66)
  have hg := h.top.lt
  refine ⟨((h.top.below hb).set m _).congr (fun i hi => ?_), fun r hr => ?_, fun r s hr hs e => ?_, fun r hr => ?_⟩
  · by_cases e : i = m
    · subst e
      rw [if_pos rfl, if_pos (by omega), if_pos rfl]
    · rw [if_neg e, if_neg e]
      by_cases e2 : i < m
      · rw [if_pos e2, if_pos (by omega)]
      · rw [if_neg e2, if_neg (by omega)]
  · by_cases e : r = m
    · subst e
      rw [if_pos rfl]
      exact Rk.far ⟨cs, heap_alloc_new _ _, hn, hz⟩ (by dsimp only; omega) _
    · rw [if_neg e]
      exact ((h.rows r (by omega)).below hb).far (h.ne r (by omega)) _
  · have lt := fun i (hi : i < m) => (h.rows i hi).lt
    by_cases er : r = m
    · by_cases es : s = m
      · omega
      · rw [if_pos er, if_neg es] at e
        have := lt s (by omega)
        omega
    · by_cases es : s = m
      · rw [if_neg er, if_pos es] at e
        have := lt r (by omega)
        omega
      · rw [if_neg er, if_neg es] at e
        exact h.inj r s (by omega) (by omega) e
  · by_cases e : r = m
    · rw [if_pos e]; omega
    · rw [if_neg e]; exact h.ne r (by omega)
end Dq
end Go.Proofs.YtnhdgellckcnbaaDoor.Gt
/- The document's halves. -/
namespace Go.Proofs.YtnhdgellckcnbaaDoor.Gt
open Go.RowKit Go.Proofs.YtnhdgellckcnbaaDoor.Oct Go.Proofs.YtnhdgellckcnbaaDoor.Dy

/-- Twice the entries of the kinds that halve. -/
def hvD (k : Nat) : List (Nat × Nat) :=
  if k = 7 then [(4607182418800017408, 4607182418800017408), (4607182418800017408, 13830554455654793216), (4607182418800017408, 13830554455654793216), (4607182418800017408, 4607182418800017408)] else if k = 8 then [(4607182418800017408, 13830554455654793216), (4607182418800017408, 4607182418800017408), (4607182418800017408, 4607182418800017408), (4607182418800017408, 13830554455654793216)] else if k = 9 then [(4607182418800017408, 4607182418800017408), (13830554455654793216, 13830554455654793216), (4607182418800017408, 4607182418800017408), (4607182418800017408, 4607182418800017408)] else if k = 10 then [(4607182418800017408, 13830554455654793216), (4607182418800017408, 13830554455654793216), (13830554455654793216, 4607182418800017408), (4607182418800017408, 13830554455654793216)] else if k = 17 then [(4607182418800017408, 0), (4607182418800017408, 0), (4607182418800017408, 0), (4607182418800017408, 0), (4607182418800017408, 0), (13830554455654793216, 0), (4607182418800017408, 0), (13830554455654793216, 0), (4607182418800017408, 0), (4607182418800017408, 0), (13830554455654793216, 0), (13830554455654793216, 0), (4607182418800017408, 0), (13830554455654793216, 0), (13830554455654793216, 0), (4607182418800017408, 0)] else []
/-- Half of a part. -/
def hb2 (b : Nat) : Nat := if b = 4607182418800017408 then 4602678819172646912 else if b = 13830554455654793216 then 13826050856027422720 else 0
def okh (b : Nat) : Bool := b == 0 || b == 4607182418800017408 || b == 13830554455654793216
theorem quo_h {b : Nat} (h : okh b = true) : floatBits .quo .f64 b 4611686018427387904 = some (hb2 b) := by
  simp only [okh, Bool.or_eq_true, beq_iff_eq] at h
  rcases h with (rfl | rfl) | rfl <;> decide +kernel
def hfE (k j : Nat) : Nat × Nat := (hb2 ((hvD k).getD j (0, 0)).1, hb2 ((hvD k).getD j (0, 0)).2)
theorem Dm.far {w : World} {g n : Nat} {rb : Nat → Nat} {f : Nat → Nat → Nat × Nat} (h : Dm w g n rb f) (a : Addr) (hg : g ≠ a.block) (hr : ∀ r, r < n → rb r ≠ a.block) (v : Value) : Dm (w.setCell a v) g n rb f := ⟨h.top.far hg v, fun r h' => (h.rows r h').far (hr r h') v, h.inj, h.ne⟩
theorem allocs_heap : ∀ (L : List Obj) (w : World), (L.foldl World.alloc w).heap = w.heap ++ L.toArray
  | [], w => by simp
  | o :: L, w => by
    rw [List.foldl_cons, allocs_heap L (w.alloc o)]
    show w.heap.push o ++ L.toArray = _
    simp
theorem allocs_at (L : List Obj) (w : World) (i : Nat) : (L.foldl World.alloc w).heap[w.heap.size + i]? = L[i]? := by
  rw [allocs_heap, Array.getElem?_append_right (by omega)]
  simp
theorem allocs_below : ∀ (L : List Obj) (w : World), Below w.heap.size w (L.foldl World.alloc w)
  | [], w => Below.refl _ _
  | o :: L, w => by
    rw [List.foldl_cons]
    exact (below_new w o).trans ((allocs_below L (w.alloc o)).mono (by simp))

set_option maxRecDepth 100000 in
set_option maxHeartbeats 1000000 in
theorem hHv_7 (w : World) : Calls Tryd.prog 34 #[.int .i64 7] w fun e w' => ∃ g rb, e = .returned (.slice (some ⟨g, 0, none⟩) 2 2) ∧ Dm w' g 2 rb (fun r c => (hvD 7).getD (2 * r + c) (0, 0)) ∧ w.heap.size ≤ g ∧ (∀ i, w.heap.size ≤ rb i) ∧ Below w.heap.size w w' := by
  have hstf := store_f
  go_enter Tryd.func34, Tryd.ntmps34
  go_wp2_with fail
  go_ret
  have hat := allocs_at [.cells #[.float .f64 4607182418800017408, .float .f64 0] 66, .cells #[.float .f64 13830554455654793216, .float .f64 0] 66, .cells #[.float .f64 4607182418800017408, .float .f64 4607182418800017408] 66, .cells #[.float .f64 4607182418800017408, .float .f64 13830554455654793216] 66, .cells #[.float .f64 4607182418800017408, .float .f64 4607182418800017408, .float .f64 4607182418800017408, .float .f64 13830554455654793216] 66, .cells #[.float .f64 4607182418800017408, .float .f64 13830554455654793216, .float .f64 4607182418800017408, .float .f64 4607182418800017408] 66, .cells #[.slice (some ⟨w.heap.size + 4, 0, none⟩) 2 2, .slice (some ⟨w.heap.size + 5, 0, none⟩) 2 2] 62] w
  refine ⟨w.heap.size + 6, fun r => w.heap.size + (4 + r), rfl, ⟨⟨_, hat 6, by simp, fun r hr => ?_⟩, fun r hr => ?_, fun r s _ _ e => by simp at e; omega, fun r hr e => by simp at e; omega⟩, by omega, fun i => Nat.le_add_right _ _, allocs_below [.cells #[.float .f64 4607182418800017408, .float .f64 0] 66, .cells #[.float .f64 13830554455654793216, .float .f64 0] 66, .cells #[.float .f64 4607182418800017408, .float .f64 4607182418800017408] 66, .cells #[.float .f64 4607182418800017408, .float .f64 13830554455654793216] 66, .cells #[.float .f64 4607182418800017408, .float .f64 4607182418800017408, .float .f64 4607182418800017408, .float .f64 13830554455654793216] 66, .cells #[.float .f64 4607182418800017408, .float .f64 13830554455654793216, .float .f64 4607182418800017408, .float .f64 4607182418800017408] 66, .cells #[.slice (some ⟨w.heap.size + 4, 0, none⟩) 2 2, .slice (some ⟨w.heap.size + 5, 0, none⟩) 2 2] 62] w⟩
  · rcases (by omega : r = 0 ∨ r = 1) with rfl | rfl <;> rfl
  · rcases (by omega : r = 0 ∨ r = 1) with rfl | rfl
    all_goals
      refine ⟨_, hat _, by simp, fun j hj => ?_⟩
      rcases (by omega : j = 0 ∨ j = 1 ∨ j = 2 ∨ j = 3) with rfl | rfl | rfl | rfl <;> rfl

set_option maxRecDepth 100000 in
set_option maxHeartbeats 1000000 in
theorem hHv_8 (w : World) : Calls Tryd.prog 34 #[.int .i64 8] w fun e w' => ∃ g rb, e = .returned (.slice (some ⟨g, 0, none⟩) 2 2) ∧ Dm w' g 2 rb (fun r c => (hvD 8).getD (2 * r + c) (0, 0)) ∧ w.heap.size ≤ g ∧ (∀ i, w.heap.size ≤ rb i) ∧ Below w.heap.size w w' := by
  have hstf := store_f
  go_enter Tryd.func34, Tryd.ntmps34
  go_wp2_with fail
  go_ret
  have hat := allocs_at [.cells #[.float .f64 4607182418800017408, .float .f64 0] 66, .cells #[.float .f64 13830554455654793216, .float .f64 0] 66, .cells #[.float .f64 4607182418800017408, .float .f64 4607182418800017408] 66, .cells #[.float .f64 4607182418800017408, .float .f64 13830554455654793216] 66, .cells #[.float .f64 4607182418800017408, .float .f64 13830554455654793216, .float .f64 4607182418800017408, .float .f64 4607182418800017408] 66, .cells #[.float .f64 4607182418800017408, .float .f64 4607182418800017408, .float .f64 4607182418800017408, .float .f64 13830554455654793216] 66, .cells #[.slice (some ⟨w.heap.size + 4, 0, none⟩) 2 2, .slice (some ⟨w.heap.size + 5, 0, none⟩) 2 2] 62] w
  refine ⟨w.heap.size + 6, fun r => w.heap.size + (4 + r), rfl, ⟨⟨_, hat 6, by simp, fun r hr => ?_⟩, fun r hr => ?_, fun r s _ _ e => by simp at e; omega, fun r hr e => by simp at e; omega⟩, by omega, fun i => Nat.le_add_right _ _, allocs_below [.cells #[.float .f64 4607182418800017408, .float .f64 0] 66, .cells #[.float .f64 13830554455654793216, .float .f64 0] 66, .cells #[.float .f64 4607182418800017408, .float .f64 4607182418800017408] 66, .cells #[.float .f64 4607182418800017408, .float .f64 13830554455654793216] 66, .cells #[.float .f64 4607182418800017408, .float .f64 13830554455654793216, .float .f64 4607182418800017408, .float .f64 4607182418800017408] 66, .cells #[.float .f64 4607182418800017408, .float .f64 4607182418800017408, .float .f64 4607182418800017408, .float .f64 13830554455654793216] 66, .cells #[.slice (some ⟨w.heap.size + 4, 0, none⟩) 2 2, .slice (some ⟨w.heap.size + 5, 0, none⟩) 2 2] 62] w⟩
  · rcases (by omega : r = 0 ∨ r = 1) with rfl | rfl <;> rfl
  · rcases (by omega : r = 0 ∨ r = 1) with rfl | rfl
    all_goals
      refine ⟨_, hat _, by simp, fun j hj => ?_⟩
      rcases (by omega : j = 0 ∨ j = 1 ∨ j = 2 ∨ j = 3) with rfl | rfl | rfl | rfl <;> rfl

set_option maxRecDepth 100000 in
set_option maxHeartbeats 1000000 in
theorem hHv_9 (w : World) : Calls Tryd.prog 34 #[.int .i64 9] w fun e w' => ∃ g rb, e = .returned (.slice (some ⟨g, 0, none⟩) 2 2) ∧ Dm w' g 2 rb (fun r c => (hvD 9).getD (2 * r + c) (0, 0)) ∧ w.heap.size ≤ g ∧ (∀ i, w.heap.size ≤ rb i) ∧ Below w.heap.size w w' := by
  have hstf := store_f
  go_enter Tryd.func34, Tryd.ntmps34
  go_wp2_with fail
  go_ret
  have hat := allocs_at [.cells #[.float .f64 4607182418800017408, .float .f64 0] 66, .cells #[.float .f64 13830554455654793216, .float .f64 0] 66, .cells #[.float .f64 4607182418800017408, .float .f64 4607182418800017408] 66, .cells #[.float .f64 4607182418800017408, .float .f64 13830554455654793216] 66, .cells #[.float .f64 4607182418800017408, .float .f64 4607182418800017408, .float .f64 13830554455654793216, .float .f64 13830554455654793216] 66, .cells #[.float .f64 4607182418800017408, .float .f64 4607182418800017408, .float .f64 4607182418800017408, .float .f64 4607182418800017408] 66, .cells #[.slice (some ⟨w.heap.size + 4, 0, none⟩) 2 2, .slice (some ⟨w.heap.size + 5, 0, none⟩) 2 2] 62] w
  refine ⟨w.heap.size + 6, fun r => w.heap.size + (4 + r), rfl, ⟨⟨_, hat 6, by simp, fun r hr => ?_⟩, fun r hr => ?_, fun r s _ _ e => by simp at e; omega, fun r hr e => by simp at e; omega⟩, by omega, fun i => Nat.le_add_right _ _, allocs_below [.cells #[.float .f64 4607182418800017408, .float .f64 0] 66, .cells #[.float .f64 13830554455654793216, .float .f64 0] 66, .cells #[.float .f64 4607182418800017408, .float .f64 4607182418800017408] 66, .cells #[.float .f64 4607182418800017408, .float .f64 13830554455654793216] 66, .cells #[.float .f64 4607182418800017408, .float .f64 4607182418800017408, .float .f64 13830554455654793216, .float .f64 13830554455654793216] 66, .cells #[.float .f64 4607182418800017408, .float .f64 4607182418800017408, .float .f64 4607182418800017408, .float .f64 4607182418800017408] 66, .cells #[.slice (some ⟨w.heap.size + 4, 0, none⟩) 2 2, .slice (some ⟨w.heap.size + 5, 0, none⟩) 2 2] 62] w⟩
  · rcases (by omega : r = 0 ∨ r = 1) with rfl | rfl <;> rfl
  · rcases (by omega : r = 0 ∨ r = 1) with rfl | rfl
    all_goals
      refine ⟨_, hat _, by simp, fun j hj => ?_⟩
      rcases (by omega : j = 0 ∨ j = 1 ∨ j = 2 ∨ j = 3) with rfl | rfl | rfl | rfl <;> rfl

set_option maxRecDepth 100000 in
set_option maxHeartbeats 1000000 in
theorem hHv_10 (w : World) : Calls Tryd.prog 34 #[.int .i64 10] w fun e w' => ∃ g rb, e = .returned (.slice (some ⟨g, 0, none⟩) 2 2) ∧ Dm w' g 2 rb (fun r c => (hvD 10).getD (2 * r + c) (0, 0)) ∧ w.heap.size ≤ g ∧ (∀ i, w.heap.size ≤ rb i) ∧ Below w.heap.size w w' := by
  have hstf := store_f
  go_enter Tryd.func34, Tryd.ntmps34
  go_wp2_with fail
  go_ret
  have hat := allocs_at [.cells #[.float .f64 4607182418800017408, .float .f64 0] 66, .cells #[.float .f64 13830554455654793216, .float .f64 0] 66, .cells #[.float .f64 4607182418800017408, .float .f64 4607182418800017408] 66, .cells #[.float .f64 4607182418800017408, .float .f64 13830554455654793216] 66, .cells #[.float .f64 4607182418800017408, .float .f64 13830554455654793216, .float .f64 4607182418800017408, .float .f64 13830554455654793216] 66, .cells #[.float .f64 13830554455654793216, .float .f64 4607182418800017408, .float .f64 4607182418800017408, .float .f64 13830554455654793216] 66, .cells #[.slice (some ⟨w.heap.size + 4, 0, none⟩) 2 2, .slice (some ⟨w.heap.size + 5, 0, none⟩) 2 2] 62] w
  refine ⟨w.heap.size + 6, fun r => w.heap.size + (4 + r), rfl, ⟨⟨_, hat 6, by simp, fun r hr => ?_⟩, fun r hr => ?_, fun r s _ _ e => by simp at e; omega, fun r hr e => by simp at e; omega⟩, by omega, fun i => Nat.le_add_right _ _, allocs_below [.cells #[.float .f64 4607182418800017408, .float .f64 0] 66, .cells #[.float .f64 13830554455654793216, .float .f64 0] 66, .cells #[.float .f64 4607182418800017408, .float .f64 4607182418800017408] 66, .cells #[.float .f64 4607182418800017408, .float .f64 13830554455654793216] 66, .cells #[.float .f64 4607182418800017408, .float .f64 13830554455654793216, .float .f64 4607182418800017408, .float .f64 13830554455654793216] 66, .cells #[.float .f64 13830554455654793216, .float .f64 4607182418800017408, .float .f64 4607182418800017408, .float .f64 13830554455654793216] 66, .cells #[.slice (some ⟨w.heap.size + 4, 0, none⟩) 2 2, .slice (some ⟨w.heap.size + 5, 0, none⟩) 2 2] 62] w⟩
  · rcases (by omega : r = 0 ∨ r = 1) with rfl | rfl <;> rfl
  · rcases (by omega : r = 0 ∨ r = 1) with rfl | rfl
    all_goals
      refine ⟨_, hat _, by simp, fun j hj => ?_⟩
      rcases (by omega : j = 0 ∨ j = 1 ∨ j = 2 ∨ j = 3) with rfl | rfl | rfl | rfl <;> rfl

set_option maxRecDepth 100000 in
set_option maxHeartbeats 1000000 in
theorem hHv_17 (w : World) : Calls Tryd.prog 34 #[.int .i64 17] w fun e w' => ∃ g rb, e = .returned (.slice (some ⟨g, 0, none⟩) 4 4) ∧ Dm w' g 4 rb (fun r c => (hvD 17).getD (4 * r + c) (0, 0)) ∧ w.heap.size ≤ g ∧ (∀ i, w.heap.size ≤ rb i) ∧ Below w.heap.size w w' := by
  have hstf := store_f
  go_enter Tryd.func34, Tryd.ntmps34
  go_wp2_with fail
  go_ret
  have hat := allocs_at [.cells #[.float .f64 4607182418800017408, .float .f64 0] 66, .cells #[.float .f64 13830554455654793216, .float .f64 0] 66, .cells #[.float .f64 4607182418800017408, .float .f64 4607182418800017408] 66, .cells #[.float .f64 4607182418800017408, .float .f64 13830554455654793216] 66, .cells #[.float .f64 4607182418800017408, .float .f64 0, .float .f64 4607182418800017408, .float .f64 0, .float .f64 4607182418800017408, .float .f64 0, .float .f64 4607182418800017408, .float .f64 0] 66, .cells #[.float .f64 4607182418800017408, .float .f64 0, .float .f64 13830554455654793216, .float .f64 0, .float .f64 4607182418800017408, .float .f64 0, .float .f64 13830554455654793216, .float .f64 0] 66, .cells #[.float .f64 4607182418800017408, .float .f64 0, .float .f64 4607182418800017408, .float .f64 0, .float .f64 13830554455654793216, .float .f64 0, .float .f64 13830554455654793216, .float .f64 0] 66, .cells #[.float .f64 4607182418800017408, .float .f64 0, .float .f64 13830554455654793216, .float .f64 0, .float .f64 13830554455654793216, .float .f64 0, .float .f64 4607182418800017408, .float .f64 0] 66, .cells #[.slice (some ⟨w.heap.size + 4, 0, none⟩) 4 4, .slice (some ⟨w.heap.size + 5, 0, none⟩) 4 4, .slice (some ⟨w.heap.size + 6, 0, none⟩) 4 4, .slice (some ⟨w.heap.size + 7, 0, none⟩) 4 4] 62] w
  refine ⟨w.heap.size + 8, fun r => w.heap.size + (4 + r), rfl, ⟨⟨_, hat 8, by simp, fun r hr => ?_⟩, fun r hr => ?_, fun r s _ _ e => by simp at e; omega, fun r hr e => by simp at e; omega⟩, by omega, fun i => Nat.le_add_right _ _, allocs_below [.cells #[.float .f64 4607182418800017408, .float .f64 0] 66, .cells #[.float .f64 13830554455654793216, .float .f64 0] 66, .cells #[.float .f64 4607182418800017408, .float .f64 4607182418800017408] 66, .cells #[.float .f64 4607182418800017408, .float .f64 13830554455654793216] 66, .cells #[.float .f64 4607182418800017408, .float .f64 0, .float .f64 4607182418800017408, .float .f64 0, .float .f64 4607182418800017408, .float .f64 0, .float .f64 4607182418800017408, .float .f64 0] 66, .cells #[.float .f64 4607182418800017408, .float .f64 0, .float .f64 13830554455654793216, .float .f64 0, .float .f64 4607182418800017408, .float .f64 0, .float .f64 13830554455654793216, .float .f64 0] 66, .cells #[.float .f64 4607182418800017408, .float .f64 0, .float .f64 4607182418800017408, .float .f64 0, .float .f64 13830554455654793216, .float .f64 0, .float .f64 13830554455654793216, .float .f64 0] 66, .cells #[.float .f64 4607182418800017408, .float .f64 0, .float .f64 13830554455654793216, .float .f64 0, .float .f64 13830554455654793216, .float .f64 0, .float .f64 4607182418800017408, .float .f64 0] 66, .cells #[.slice (some ⟨w.heap.size + 4, 0, none⟩) 4 4, .slice (some ⟨w.heap.size + 5, 0, none⟩) 4 4, .slice (some ⟨w.heap.size + 6, 0, none⟩) 4 4, .slice (some ⟨w.heap.size + 7, 0, none⟩) 4 4] 62] w⟩
  · rcases (by omega : r = 0 ∨ r = 1 ∨ r = 2 ∨ r = 3) with rfl | rfl | rfl | rfl <;> rfl
  · rcases (by omega : r = 0 ∨ r = 1 ∨ r = 2 ∨ r = 3) with rfl | rfl | rfl | rfl
    all_goals
      refine ⟨_, hat _, by simp, fun j hj => ?_⟩
      rcases (by omega : j = 0 ∨ j = 1 ∨ j = 2 ∨ j = 3 ∨ j = 4 ∨ j = 5 ∨ j = 6 ∨ j = 7) with rfl | rfl | rfl | rfl | rfl | rfl | rfl | rfl <;> rfl

end Go.Proofs.YtnhdgellckcnbaaDoor.Gt
