/- Layer 20: how far all places are from one. -/
import Derived.Test.YtipceoeihiaieaaDoorAi20
namespace Go.Proofs.YtipceoeihiaieaaDoor.Rou
open Go.RowKit

/-- Numbers as cells. -/
def iv (l : List Int) : List Value := l.map (Value.int .i64)
theorem iv_len (l : List Int) : (iv l).length = l.length := List.length_map _
theorem iv_at {l : List Int} {j : Nat} {z : Int} (h : l[j]? = some z) : (iv l)[j]? = some (.int .i64 z) := by simp [iv, h]
theorem iv_set (l : List Int) (j : Nat) (z : Int) : (iv l).set j (.int .i64 z) = iv (l.set j z) := by simp [iv, List.map_set]
theorem iv_one (l : List Int) : (iv l).toArray.all (·.oneCell') = true := by
  rw [Array.all_eq_true_iff_forall_mem]
  intro x hx
  simp only [iv, List.mem_toArray, List.mem_map] at hx
  obtain ⟨z, _, rfl⟩ := hx
  rfl
theorem infoI : (Tryd.prog.info? 3).map (fun i => (i.zero, i.size, i.bytes)) = some (some (.int .i64 0), 1, 8) := by kernel_rfl
theorem infoD : (Tryd.prog.info? 44).map (·.size) = some 64 := by kernel_rfl
/-- Numbers in a block of an array. -/
def IB (w : World) (g : Nat) (l : List Int) : Prop := w.heap[g]? = some (.cells (iv l).toArray 44 (0, 0))
theorem IB.cell {w : World} {g : Nat} {l : List Int} (h : IB w g l) {j : Nat} (hj : j < l.length) : w.cell? ⟨g, j, none⟩ = some (.int .i64 (l.getD j 0)) ∧ w.frozen? ⟨g, j, none⟩ = false ∧ g < w.heap.size := by
  refine ⟨(cell_of_row _ _ _ _ _ _ h).trans ?_, fz h j, (Array.getElem?_eq_some_iff.1 h).1⟩
  rw [List.getElem?_toArray]
  exact iv_at (by simp [List.getD, hj])
theorem IB.put {w : World} {g : Nat} {l : List Int} (h : IB w g l) (j : Nat) (z : Int) : IB (w.setCell ⟨g, j, none⟩ (.int .i64 z)) g (l.set j z) := by
  unfold IB at *
  rw [setCell_eq_setRow _ _ _ _ _ _ _ h, setRow_heap _ _ _ _ _ _ h, List.setIfInBounds_toArray, iv_set]
/-- A row of numbers of one's own. -/
def QO (w : World) (B : Nat) (ao : Option Addr) (c : Nat) (q : List Nat) : Prop := w.ownsRow B 3 1 (.slice ao q.length c) q.length (iv (q.map fun (k : Nat) => (k : Int)))
theorem QO.cell {w : World} {B : Nat} {ao : Option Addr} {c : Nat} {q : List Nat} (h : QO w B ao c q) {j k : Nat} (hj : q[j]? = some k) : ∃ g, ao = some ⟨g, 0, none⟩ ∧ B ≤ g ∧ g < w.heap.size ∧ w.cell? ⟨g, j, none⟩ = some (.int .i64 (k : Int)) := own_cell h (iv_at (by simp [hj]))
/-- What far is at: the answer's block, the distances, the row of what has been reached. -/
structure FS (W V : World) (Z D : Nat) (ao : Option Addr) (c : Nat) (far : List Int) (q : List Nat) : Prop where
  bel : Below W.heap.size W V
  z : ∃ l, IB V Z l ∧ l.length = 64
  d : IB V D far
  q : QO V W.heap.size ao c q
  lo : W.heap.size ≤ Z ∧ Z < D
theorem FS.below {W V V' : World} {Z D : Nat} {ao : Option Addr} {c : Nat} {far : List Int} {q : List Nat} (h : FS W V Z D ao c far q) (hb : Below V.heap.size V V') : FS W V' Z D ao c far q := by
  obtain ⟨l, h1, h2⟩ := h.z
  exact ⟨bkp h.bel hb, ⟨l, (hb.block Z (Array.getElem?_eq_some_iff.1 h1).1).trans h1, h2⟩, (hb.block D (Array.getElem?_eq_some_iff.1 h.d).1).trans h.d, own_below h.q hb, h.lo⟩
theorem FS.put {W V : World} {Z D : Nat} {ao : Option Addr} {c : Nat} {far : List Int} {q : List Nat} (h : FS W V Z D ao c far q) (j : Nat) (z : Int) : FS W (V.setCell ⟨D, j, none⟩ (.int .i64 z)) Z D ao c (far.set j z) q := by
  have hlo := h.lo
  obtain ⟨l, h1, h2⟩ := h.z
  have hd := h.d
  have hp := h.d.put j z
  unfold IB at hd
  rw [setCell_eq_setRow _ _ _ _ _ _ _ hd] at hp ⊢
  exact ⟨brow h.bel _ _ (by omega), ⟨l, (setRow_other _ _ _ _ (by omega)).trans h1, h2⟩, hp, own_of_block h.q fun k hk => setRow_other _ _ _ _ (fun e => own_ne h.q hd (by decide) (by rw [hk, e])), hlo⟩
theorem FS.push {W V w' : World} {Z D : Nat} {ao : Option Addr} {c : Nat} {far : List Int} {q : List Nat} (h : FS W V Z D ao c far q) {k g cap : Nat} (hO : w'.ownsRow W.heap.size 3 1 (.slice (some ⟨g, 0, none⟩) (q.length + 1) cap) (q.length + 1) (iv (q.map fun (k : Nat) => (k : Int)) ++ [.int .i64 (k : Int)])) (hg : V.grownBy w' (ob ao)) : FS W w' Z D (some ⟨g, 0, none⟩) cap far (q ++ [k]) := by
  obtain ⟨l, h1, h2⟩ := h.z
  refine ⟨h.bel.grown hg h.bel.size (fun k hk => (own_lt h.q k hk).1), ⟨l, (hg.block Z (Array.getElem?_eq_some_iff.1 h1).1 (own_ne h.q h1 (by decide)).symm).trans h1, h2⟩, (hg.block D (Array.getElem?_eq_some_iff.1 h.d).1 (own_ne h.q h.d (by decide)).symm).trans h.d, ?_, h.lo⟩
  unfold QO
  rw [List.length_append, List.map_append, show iv (List.map (fun (k : Nat) => (k : Int)) q ++ List.map (fun (k : Nat) => (k : Int)) [k]) = iv (q.map fun (k : Nat) => (k : Int)) ++ [.int .i64 (k : Int)] by simp [iv]]
  exact hO
def fill (i : Nat) : List Int := List.replicate i (-1) ++ List.replicate (64 - i) 0
theorem fill_len (i : Nat) (h : i ≤ 64) : (fill i).length = 64 := by simp [fill]; omega
theorem fill_set (i : Nat) (h : i < 64) : (fill i).set i (-1) = fill (i + 1) := by
  unfold fill
  obtain ⟨r, hr⟩ : ∃ r, 64 - i = r + 1 := ⟨63 - i, by omega⟩
  rw [hr, show 64 - (i + 1) = r by omega, List.set_append_right _ _ (by simp), List.length_replicate, Nat.sub_self, List.replicate_succ, List.set_cons_zero, List.replicate_succ', List.append_assoc]
  rfl
theorem fill_all : fill 64 = List.replicate 64 (-1) := by simp [fill]
theorem FS.start (w : World) : Below w.heap.size w ((w.alloc (.cells #[.int .i64 0, .int .i64 0, .int .i64 0, .int .i64 0, .int .i64 0, .int .i64 0, .int .i64 0, .int .i64 0, .int .i64 0, .int .i64 0, .int .i64 0, .int .i64 0, .int .i64 0, .int .i64 0, .int .i64 0, .int .i64 0, .int .i64 0, .int .i64 0, .int .i64 0, .int .i64 0, .int .i64 0, .int .i64 0, .int .i64 0, .int .i64 0, .int .i64 0, .int .i64 0, .int .i64 0, .int .i64 0, .int .i64 0, .int .i64 0, .int .i64 0, .int .i64 0, .int .i64 0, .int .i64 0, .int .i64 0, .int .i64 0, .int .i64 0, .int .i64 0, .int .i64 0, .int .i64 0, .int .i64 0, .int .i64 0, .int .i64 0, .int .i64 0, .int .i64 0, .int .i64 0, .int .i64 0, .int .i64 0, .int .i64 0, .int .i64 0, .int .i64 0, .int .i64 0, .int .i64 0, .int .i64 0, .int .i64 0, .int .i64 0, .int .i64 0, .int .i64 0, .int .i64 0, .int .i64 0, .int .i64 0, .int .i64 0, .int .i64 0, .int .i64 0] 44)).alloc (.cells #[.int .i64 0, .int .i64 0, .int .i64 0, .int .i64 0, .int .i64 0, .int .i64 0, .int .i64 0, .int .i64 0, .int .i64 0, .int .i64 0, .int .i64 0, .int .i64 0, .int .i64 0, .int .i64 0, .int .i64 0, .int .i64 0, .int .i64 0, .int .i64 0, .int .i64 0, .int .i64 0, .int .i64 0, .int .i64 0, .int .i64 0, .int .i64 0, .int .i64 0, .int .i64 0, .int .i64 0, .int .i64 0, .int .i64 0, .int .i64 0, .int .i64 0, .int .i64 0, .int .i64 0, .int .i64 0, .int .i64 0, .int .i64 0, .int .i64 0, .int .i64 0, .int .i64 0, .int .i64 0, .int .i64 0, .int .i64 0, .int .i64 0, .int .i64 0, .int .i64 0, .int .i64 0, .int .i64 0, .int .i64 0, .int .i64 0, .int .i64 0, .int .i64 0, .int .i64 0, .int .i64 0, .int .i64 0, .int .i64 0, .int .i64 0, .int .i64 0, .int .i64 0, .int .i64 0, .int .i64 0, .int .i64 0, .int .i64 0, .int .i64 0, .int .i64 0] 44)) ∧ IB ((w.alloc (.cells #[.int .i64 0, .int .i64 0, .int .i64 0, .int .i64 0, .int .i64 0, .int .i64 0, .int .i64 0, .int .i64 0, .int .i64 0, .int .i64 0, .int .i64 0, .int .i64 0, .int .i64 0, .int .i64 0, .int .i64 0, .int .i64 0, .int .i64 0, .int .i64 0, .int .i64 0, .int .i64 0, .int .i64 0, .int .i64 0, .int .i64 0, .int .i64 0, .int .i64 0, .int .i64 0, .int .i64 0, .int .i64 0, .int .i64 0, .int .i64 0, .int .i64 0, .int .i64 0, .int .i64 0, .int .i64 0, .int .i64 0, .int .i64 0, .int .i64 0, .int .i64 0, .int .i64 0, .int .i64 0, .int .i64 0, .int .i64 0, .int .i64 0, .int .i64 0, .int .i64 0, .int .i64 0, .int .i64 0, .int .i64 0, .int .i64 0, .int .i64 0, .int .i64 0, .int .i64 0, .int .i64 0, .int .i64 0, .int .i64 0, .int .i64 0, .int .i64 0, .int .i64 0, .int .i64 0, .int .i64 0, .int .i64 0, .int .i64 0, .int .i64 0, .int .i64 0] 44)).alloc (.cells #[.int .i64 0, .int .i64 0, .int .i64 0, .int .i64 0, .int .i64 0, .int .i64 0, .int .i64 0, .int .i64 0, .int .i64 0, .int .i64 0, .int .i64 0, .int .i64 0, .int .i64 0, .int .i64 0, .int .i64 0, .int .i64 0, .int .i64 0, .int .i64 0, .int .i64 0, .int .i64 0, .int .i64 0, .int .i64 0, .int .i64 0, .int .i64 0, .int .i64 0, .int .i64 0, .int .i64 0, .int .i64 0, .int .i64 0, .int .i64 0, .int .i64 0, .int .i64 0, .int .i64 0, .int .i64 0, .int .i64 0, .int .i64 0, .int .i64 0, .int .i64 0, .int .i64 0, .int .i64 0, .int .i64 0, .int .i64 0, .int .i64 0, .int .i64 0, .int .i64 0, .int .i64 0, .int .i64 0, .int .i64 0, .int .i64 0, .int .i64 0, .int .i64 0, .int .i64 0, .int .i64 0, .int .i64 0, .int .i64 0, .int .i64 0, .int .i64 0, .int .i64 0, .int .i64 0, .int .i64 0, .int .i64 0, .int .i64 0, .int .i64 0, .int .i64 0] 44)) w.heap.size (fill 0) ∧ IB ((w.alloc (.cells #[.int .i64 0, .int .i64 0, .int .i64 0, .int .i64 0, .int .i64 0, .int .i64 0, .int .i64 0, .int .i64 0, .int .i64 0, .int .i64 0, .int .i64 0, .int .i64 0, .int .i64 0, .int .i64 0, .int .i64 0, .int .i64 0, .int .i64 0, .int .i64 0, .int .i64 0, .int .i64 0, .int .i64 0, .int .i64 0, .int .i64 0, .int .i64 0, .int .i64 0, .int .i64 0, .int .i64 0, .int .i64 0, .int .i64 0, .int .i64 0, .int .i64 0, .int .i64 0, .int .i64 0, .int .i64 0, .int .i64 0, .int .i64 0, .int .i64 0, .int .i64 0, .int .i64 0, .int .i64 0, .int .i64 0, .int .i64 0, .int .i64 0, .int .i64 0, .int .i64 0, .int .i64 0, .int .i64 0, .int .i64 0, .int .i64 0, .int .i64 0, .int .i64 0, .int .i64 0, .int .i64 0, .int .i64 0, .int .i64 0, .int .i64 0, .int .i64 0, .int .i64 0, .int .i64 0, .int .i64 0, .int .i64 0, .int .i64 0, .int .i64 0, .int .i64 0] 44)).alloc (.cells #[.int .i64 0, .int .i64 0, .int .i64 0, .int .i64 0, .int .i64 0, .int .i64 0, .int .i64 0, .int .i64 0, .int .i64 0, .int .i64 0, .int .i64 0, .int .i64 0, .int .i64 0, .int .i64 0, .int .i64 0, .int .i64 0, .int .i64 0, .int .i64 0, .int .i64 0, .int .i64 0, .int .i64 0, .int .i64 0, .int .i64 0, .int .i64 0, .int .i64 0, .int .i64 0, .int .i64 0, .int .i64 0, .int .i64 0, .int .i64 0, .int .i64 0, .int .i64 0, .int .i64 0, .int .i64 0, .int .i64 0, .int .i64 0, .int .i64 0, .int .i64 0, .int .i64 0, .int .i64 0, .int .i64 0, .int .i64 0, .int .i64 0, .int .i64 0, .int .i64 0, .int .i64 0, .int .i64 0, .int .i64 0, .int .i64 0, .int .i64 0, .int .i64 0, .int .i64 0, .int .i64 0, .int .i64 0, .int .i64 0, .int .i64 0, .int .i64 0, .int .i64 0, .int .i64 0, .int .i64 0, .int .i64 0, .int .i64 0, .int .i64 0, .int .i64 0] 44)) (w.heap.size + 1) (fill 0) := by
  refine ⟨bkp (bnew _ _) (bnew _ _), (Below.heap_alloc _ _ _ (by simp)).trans (heap_alloc_new _ _), ?_⟩
  have := heap_alloc_new (w.alloc (.cells #[.int .i64 0, .int .i64 0, .int .i64 0, .int .i64 0, .int .i64 0, .int .i64 0, .int .i64 0, .int .i64 0, .int .i64 0, .int .i64 0, .int .i64 0, .int .i64 0, .int .i64 0, .int .i64 0, .int .i64 0, .int .i64 0, .int .i64 0, .int .i64 0, .int .i64 0, .int .i64 0, .int .i64 0, .int .i64 0, .int .i64 0, .int .i64 0, .int .i64 0, .int .i64 0, .int .i64 0, .int .i64 0, .int .i64 0, .int .i64 0, .int .i64 0, .int .i64 0, .int .i64 0, .int .i64 0, .int .i64 0, .int .i64 0, .int .i64 0, .int .i64 0, .int .i64 0, .int .i64 0, .int .i64 0, .int .i64 0, .int .i64 0, .int .i64 0, .int .i64 0, .int .i64 0, .int .i64 0, .int .i64 0, .int .i64 0, .int .i64 0, .int .i64 0, .int .i64 0, .int .i64 0, .int .i64 0, .int .i64 0, .int .i64 0, .int .i64 0, .int .i64 0, .int .i64 0, .int .i64 0, .int .i64 0, .int .i64 0, .int .i64 0, .int .i64 0] 44)) (.cells #[.int .i64 0, .int .i64 0, .int .i64 0, .int .i64 0, .int .i64 0, .int .i64 0, .int .i64 0, .int .i64 0, .int .i64 0, .int .i64 0, .int .i64 0, .int .i64 0, .int .i64 0, .int .i64 0, .int .i64 0, .int .i64 0, .int .i64 0, .int .i64 0, .int .i64 0, .int .i64 0, .int .i64 0, .int .i64 0, .int .i64 0, .int .i64 0, .int .i64 0, .int .i64 0, .int .i64 0, .int .i64 0, .int .i64 0, .int .i64 0, .int .i64 0, .int .i64 0, .int .i64 0, .int .i64 0, .int .i64 0, .int .i64 0, .int .i64 0, .int .i64 0, .int .i64 0, .int .i64 0, .int .i64 0, .int .i64 0, .int .i64 0, .int .i64 0, .int .i64 0, .int .i64 0, .int .i64 0, .int .i64 0, .int .i64 0, .int .i64 0, .int .i64 0, .int .i64 0, .int .i64 0, .int .i64 0, .int .i64 0, .int .i64 0, .int .i64 0, .int .i64 0, .int .i64 0, .int .i64 0, .int .i64 0, .int .i64 0, .int .i64 0, .int .i64 0] 44)
  rw [World.size_alloc] at this
  exact this
set_option maxRecDepth 100000 in
set_option maxHeartbeats 4000000 in
theorem rFar (N : Nat) (ps : List Pr) (B C f : Nat) (ao : Nat → Option Addr) (cp : Nat → Nat) (L : Nat → List Pr) (hN : N ≤ 64) (hf : f < N) (hL : LP N ps L) (hs : ∀ a, (L a).length ≤ 1000) (w : World) (hC : Ch w B C N ao cp L) : Calls Tryd.prog 9 #[.pointer (some ⟨C, 0, none⟩), .int .i64 (f : Int)] w fun e w' => (∃ far q, e = .returned (.agg (iv far).toArray) ∧ BI N ps L f q.length far q) ∧ Below w.heap.size w w' := by
  have HC := hide hC
  have HLP := hide hL
  have HSL := hide hs
  have HST := hide (FS.start w)
  clear hC hL hs
  go_enter Tryd.func9, Tryd.ntmps9
  go_wp2_with fail
  generalize (w.alloc (.cells #[.int .i64 0, .int .i64 0, .int .i64 0, .int .i64 0, .int .i64 0, .int .i64 0, .int .i64 0, .int .i64 0, .int .i64 0, .int .i64 0, .int .i64 0, .int .i64 0, .int .i64 0, .int .i64 0, .int .i64 0, .int .i64 0, .int .i64 0, .int .i64 0, .int .i64 0, .int .i64 0, .int .i64 0, .int .i64 0, .int .i64 0, .int .i64 0, .int .i64 0, .int .i64 0, .int .i64 0, .int .i64 0, .int .i64 0, .int .i64 0, .int .i64 0, .int .i64 0, .int .i64 0, .int .i64 0, .int .i64 0, .int .i64 0, .int .i64 0, .int .i64 0, .int .i64 0, .int .i64 0, .int .i64 0, .int .i64 0, .int .i64 0, .int .i64 0, .int .i64 0, .int .i64 0, .int .i64 0, .int .i64 0, .int .i64 0, .int .i64 0, .int .i64 0, .int .i64 0, .int .i64 0, .int .i64 0, .int .i64 0, .int .i64 0, .int .i64 0, .int .i64 0, .int .i64 0, .int .i64 0, .int .i64 0, .int .i64 0, .int .i64 0, .int .i64 0] 44)).alloc (.cells #[.int .i64 0, .int .i64 0, .int .i64 0, .int .i64 0, .int .i64 0, .int .i64 0, .int .i64 0, .int .i64 0, .int .i64 0, .int .i64 0, .int .i64 0, .int .i64 0, .int .i64 0, .int .i64 0, .int .i64 0, .int .i64 0, .int .i64 0, .int .i64 0, .int .i64 0, .int .i64 0, .int .i64 0, .int .i64 0, .int .i64 0, .int .i64 0, .int .i64 0, .int .i64 0, .int .i64 0, .int .i64 0, .int .i64 0, .int .i64 0, .int .i64 0, .int .i64 0, .int .i64 0, .int .i64 0, .int .i64 0, .int .i64 0, .int .i64 0, .int .i64 0, .int .i64 0, .int .i64 0, .int .i64 0, .int .i64 0, .int .i64 0, .int .i64 0, .int .i64 0, .int .i64 0, .int .i64 0, .int .i64 0, .int .i64 0, .int .i64 0, .int .i64 0, .int .i64 0, .int .i64 0, .int .i64 0, .int .i64 0, .int .i64 0, .int .i64 0, .int .i64 0, .int .i64 0, .int .i64 0, .int .i64 0, .int .i64 0, .int .i64 0, .int .i64 0] 44) = W1 at *
  obtain ⟨Z, hZ⟩ : ∃ Z, w.heap.size = Z := ⟨_, rfl⟩
  obtain ⟨D, hD⟩ : ∃ D, w.heap.size + 1 = D := ⟨_, rfl⟩
  have HZD : Hid (w.heap.size = Z ∧ w.heap.size + 1 = D) := hide ⟨hZ, hD⟩
  rw [hD, hZ]
  clear hZ hD
  go_loopw [6, 13] (fun _ vi wr => ∃ i : Nat, vi = .int .i64 (i : Int) ∧ i ≤ 64 ∧ Hid (Below w.heap.size w wr ∧ IB wr Z (fill 0) ∧ IB wr D (fill i))) (fun _ vi _ => 64 - (Go.RowKit.intOf vi).toNat)
  case atStart => exact ⟨0, rfl, Nat.zero_le _, hide ⟨HST.out.1, by have := HST.out.2; rw [HZD.out.2, HZD.out.1] at this; exact this⟩⟩
  case round =>
    clear HST
    obtain ⟨i, rfl, hi, HS⟩ := hrel
    by_cases h : i < 64
    · have hd : decide ((i : Int) < 64) = true := decide_eq_true (by omega)
      have hii : (i : Int) < 64 := by omega
      obtain ⟨x0, x1, x2⟩ := HS.out.2.2.cell (j := i) (by rw [fill_len i hi]; exact h)
      have HN : Hid (Below w.heap.size w (wr.setCell ⟨D, i, none⟩ (.int .i64 (-1))) ∧ IB (wr.setCell ⟨D, i, none⟩ (.int .i64 (-1))) Z (fill 0) ∧ IB (wr.setCell ⟨D, i, none⟩ (.int .i64 (-1))) D (fill (i + 1))) := hide (by
        have h3 := HS.out.2.2.put i (-1)
        rw [fill_set i h] at h3
        have h4 := HS.out.2.2
        unfold IB at h4
        rw [setCell_eq_setRow _ _ _ _ _ _ _ h4] at h3 ⊢
        have hzd := HZD.out
        exact ⟨brow HS.out.1 _ _ (by omega), (setRow_other _ _ _ _ (by omega)).trans HS.out.2.1, h3⟩)
      generalize (fill i).getD i 0 = old at *
      clear HS
      go_wp2_with fail
      go_roundw
      case rel => exact ⟨i + 1, by go_num, by omega, HN⟩
      case measure => simp [Go.RowKit.intOf]; omega
    · have hie : i = 64 := by omega
      have hd : decide ((i : Int) < 64) = false := decide_eq_false (by omega)
      rw [hie] at HS
      clear hie
      obtain ⟨x0, x1, x2⟩ := HS.out.2.2.cell (j := f) (by rw [fill_len 64 (Nat.le_refl _)]; omega)
      have hfi : (f : Int) < 64 := by omega
      generalize (fill 64).getD f 0 = old at *
      go_wp2_with fail
      have HS1 : Hid (FS w ((wr.setCell ⟨D, f, none⟩ (.int .i64 0)).alloc (.cells #[.int .i64 (f : Int)] 3)) Z D (some ⟨wr.heap.size, 0, none⟩) 1 ((List.replicate 64 (-1)).set f 0) [f]) := hide (by
        have h3 := HS.out.2.2.put f 0
        rw [fill_all] at h3
        have h4 := HS.out.2.2
        unfold IB at h4
        rw [setCell_eq_setRow _ _ _ _ _ _ _ h4] at h3 ⊢
        have hzd := HZD.out
        have hb : Below w.heap.size w (wr.setRow D ((iv (fill 64)).toArray.setIfInBounds f (.int .i64 0))) := brow HS.out.1 _ _ (by omega)
        have hz : IB (wr.setRow D ((iv (fill 64)).toArray.setIfInBounds f (.int .i64 0))) Z (fill 0) := (setRow_other _ _ _ _ (by omega)).trans HS.out.2.1
        have hsz : (wr.setRow D ((iv (fill 64)).toArray.setIfInBounds f (.int .i64 0))).heap.size = wr.heap.size := setRow_size _ _ _
        have hn := heap_alloc_new (wr.setRow D ((iv (fill 64)).toArray.setIfInBounds f (.int .i64 0))) (.cells #[.int .i64 (f : Int)] 3)
        rw [hsz] at hn
        generalize wr.setRow D ((iv (fill 64)).toArray.setIfInBounds f (.int .i64 0)) = V at *
        refine ⟨bkp hb (bnew _ _), ⟨fill 0, (Below.heap_alloc _ _ _ (Array.getElem?_eq_some_iff.1 hz).1).trans hz, by simp [fill]⟩, (Below.heap_alloc _ _ _ (Array.getElem?_eq_some_iff.1 h3).1).trans h3, ⟨by simp [iv], .inr ⟨wr.heap.size, 1, _, rfl, by have := hb.size; omega, hn, Nat.le_refl _, by decide, by simp, by simp [iv]⟩⟩, by omega⟩)
      have HB1 := hide (BI.start (L := L) (ps := ps) hN hf)
      clear HS x0 x1 x2
      generalize (wr.setCell ⟨D, f, none⟩ (.int .i64 0)).alloc (.cells #[.int .i64 (f : Int)] 3) = W2 at *
      generalize wr.heap.size = g0 at *
      generalize (List.replicate 64 (-1 : Int)).set f 0 = far0 at *
      generalize i = i0 at *
      go_loopw [7, 8] (fun vq vi wr => ∃ i far q ao1 c1, vi = .int .i64 ((i : Nat) : Int) ∧ i ≤ q.length ∧ vq = .slice ao1 q.length c1 ∧ Hid (FS w wr Z D ao1 c1 far q) ∧ Hid (BI N ps L f i far q)) (fun _ vi _ => 64 - (Go.RowKit.intOf vi).toNat)
      case atStart => exact ⟨0, far0, [f], _, 1, rfl, Nat.zero_le _, rfl, HS1, HB1⟩
      case round =>
        clear HS1 HB1
        obtain ⟨i, far, q, ao1, c1, rfl, hi, rfl, HS, HB⟩ := hrel
        have hqn := HB.out.short
        by_cases h : i < q.length
        · have hd : decide ((i : Int) < (q.length : Int)) = true := decide_eq_true (by omega)
          have hii : (i : Int) < (q.length : Int) := by omega
          obtain ⟨a, ha⟩ : ∃ a, q[i]? = some a := ⟨_, List.getElem?_eq_getElem h⟩
          obtain ⟨g, rfl, hg1, hg2, k1⟩ := HS.out.q.cell ha
          have haN := HB.out.rng a (List.mem_of_getElem? ha)
          have haI : (a : Int) < 64 := by omega
          have ha64 : a < 64 := by omega
          have hch := (HC.out.below HS.out.bel)
          have x0 := hch.cell.2.1 a ha64
          have x1 := hch.cell.2.2.2
          have HQA := hide ha
          obtain ⟨m, hm⟩ : ∃ m, (L a).length = m := ⟨_, rfl⟩
          have HM := hide hm
          have hm2 := HSL.out a
          have HPA := hide (hch.own a ha64).at
          obtain ⟨aoa, haoa⟩ : ∃ x, ao a = x := ⟨_, rfl⟩
          have HAO := hide haoa
          rw [hm, haoa] at x0
          rw [hm] at hm2
          generalize hql : q.length = ql at *
          have HQL := hide hql
          clear ha hch hm hql haoa
          go_wp2_with fail
          go_loopw [7, 40] (fun vq vt wr => ∃ t far q ao1 c1, vt = .int .i64 ((t : Nat) : Int) ∧ t ≤ m ∧ vq = .slice ao1 q.length c1 ∧ Hid (FS w wr Z D ao1 c1 far q) ∧ Hid (BI N ps L f i far q) ∧ Hid (q[i]? = some a) ∧ Hid (∀ j p, j < t → (L a)[j]? = some p → p.2.toNat ∈ q)) (fun _ vt _ => m - (Go.RowKit.intOf vt).toNat)
          case atStart => exact ⟨0, far, q, _, c1, rfl, Nat.zero_le _, by rw [HQL.out], HS, HB, HQA, hide (fun j p hj => by omega)⟩
          case round =>
            obtain ⟨t, far2, q2, ao2, c2, rfl, ht, rfl, HS2, HB2, HQ2, HD2⟩ := hrel
            by_cases h2 : t < m
            · have hd2 : decide ((t : Int) < (m : Int)) = true := decide_eq_true (by omega)
              have htt : (t : Int) < (m : Int) := by omega
              obtain ⟨⟨pu, pv⟩, hp⟩ : ∃ p, (L a)[t]? = some p := ⟨_, List.getElem?_eq_getElem (by rw [HM.out]; exact h2)⟩
              obtain ⟨hb1, hb2, hb3⟩ := HLP.out.sub a _ (List.mem_of_getElem? hp)
              simp only at hb1 hb2 hb3
              obtain ⟨b, rfl⟩ : ∃ b : Nat, pv = (b : Int) := ⟨pv.toNat, by omega⟩
              rw [Int.toNat_natCast] at hb3
              have hbN : b < N := by omega
              have hpa := ((HC.out.below HS2.out.bel).own a ha64).at
              rw [HAO.out] at hpa
              rcases hpa with hpa | ⟨gp, op, rfl, hpa⟩
              · rw [hpa] at hp
                simp at hp
              obtain ⟨k2, k3⟩ := hpa t _ hp
              simp only at k2 k3
              have hgp := World.block_lt_of_cell? _ _ k2
              have HP := hide hp
              have HE := hide hb3
              have hbI : (b : Int) < 64 := by omega
              have hb64 : b < 64 := by omega
              have HSA := hide (HS2.out.below (bnew wr (.cells #[.int .i64 pu, .int .i64 (b : Int)] 33)))
              obtain ⟨z0, z1, z2⟩ := HSA.out.d.cell (j := b) (by rw [HB2.out.len]; exact hb64)
              have hdom := HB2.out.dom b hb64
              have HDM := hide hdom
              clear hpa hp hb3 hdom hb1 hb2
              by_cases he : far2.getD b 0 = -1
              · have e1 : (far2.getD b 0 == -1) = true := beq_iff_eq.2 he
                have HEq := hide he
                obtain ⟨y0, y1, y2⟩ := HSA.out.d.cell (j := a) (by rw [HB2.out.len]; exact ha64)
                obtain ⟨v1, v2⟩ := HB2.out.val i a HQ2.out
                have hi64 : i ≤ 64 := by omega
                have HBN := hide (HB2.out.vis hN HQ2.out hbN HE.out he)
                have hq2n := HB2.out.short
                obtain ⟨ql2, hql2⟩ : ∃ k, q2.length = k := ⟨_, rfl⟩
                have HQL2 := hide hql2
                rw [hql2] at hq2n ⊢
                rw [he] at z0
                obtain ⟨fa, hfa⟩ : ∃ x, far2.getD a 0 = x := ⟨_, rfl⟩
                rw [hfa] at y0 v1 v2 HBN
                have HSB := hide (HSA.out.put b (fa + 1))
                have HQO : Hid (QO ((wr.alloc (.cells #[.int .i64 pu, .int .i64 (b : Int)] 33)).setCell ⟨D, b, none⟩ (.int .i64 (fa + 1))) w.heap.size ao2 c2 q2) := hide HSB.out.q
                have HQO' : Hid (((wr.alloc (.cells #[.int .i64 pu, .int .i64 (b : Int)] 33)).setCell ⟨D, b, none⟩ (.int .i64 (fa + 1))).ownsRow w.heap.size 3 1 (.slice ao2 ql2 c2) ql2 (iv (q2.map fun (k : Nat) => (k : Int)))) := hide (by
                  have := HQO.out
                  unfold QO at this
                  rwa [HQL2.out] at this)
                have hsz : w.heap.size ≤ ((wr.alloc (.cells #[.int .i64 pu, .int .i64 (b : Int)] 33)).setCell ⟨D, b, none⟩ (.int .i64 (fa + 1))).heap.size := HSB.out.bel.size
                have HSZ := hide hsz
                clear he hsz hql2 hfa
                go_wp2_with (at_builtin; refine wpList_pushN rfl _ _ 32 rfl 3 Tryd.underlying32 _ 1 8 infoI rfl (by decide) w.heap.size ao2 ql2 c2 _ rfl HQO'.out [.int .i64 (b : Int)] _ rfl rfl (by simp [Value.oneCell']) (wr.heap.size + 1) (by simp [World.setCell]) rfl (by omega) (by omega) HSZ.out ?_)
                intro g3 cap w3 hO hgr _
                have HS3 := hide (FS.push HSB.out (by rw [HQL2.out]; exact hO) hgr)
                clear hO hgr HSB HQO HQO' HSZ HSA
                go_wp2_with fail
                go_roundw
                case rel => exact ⟨t + 1, far2.set b (fa + 1), q2 ++ [b], _, cap, by go_num, by omega, by rw [List.length_append, HQL2.out]; rfl, HS3, HBN, hide (by
                  have hil := (List.getElem?_eq_some_iff.1 HQ2.out).1
                  rw [List.getElem?_append, if_pos hil]
                  exact HQ2.out), hide (fun j p hj hjp => by
                  by_cases e : j = t
                  · subst e
                    rw [HP.out] at hjp
                    cases hjp
                    simp
                  · exact List.mem_append_left _ (HD2.out j p (by omega) hjp))⟩
                case measure => simp [Go.RowKit.intOf]; omega
              · have e1 : (far2.getD b 0 == -1) = false := beq_eq_false_iff_ne.2 he
                have HBQ := hide (HDM.out.1 he)
                generalize far2.getD b 0 = fb at *
                clear he
                go_wp2_with fail
                go_roundw
                case rel => exact ⟨t + 1, far2, q2, ao2, c2, by go_num, by omega, rfl, HSA, HB2, HQ2, hide (fun j p hj hjp => by
                  by_cases e : j = t
                  · subst e
                    rw [HP.out] at hjp
                    cases hjp
                    simpa using HBQ.out
                  · exact HD2.out j p (by omega) hjp)⟩
                case measure => simp [Go.RowKit.intOf]; omega
            · obtain rfl : m = t := by omega
              have hd2 : decide ((m : Int) < (m : Int)) = false := decide_eq_false (by omega)
              have HBS := hide (HB2.out.step HQ2.out (fun p hp => by
                obtain ⟨j, hj⟩ := List.getElem?_of_mem hp
                exact HD2.out j p (by have := (List.getElem?_eq_some_iff.1 hj).1; rw [HM.out] at this; exact this) hj))
              have hil := (List.getElem?_eq_some_iff.1 HQ2.out).1
              have hq2n := HB2.out.short
              go_wp2_with fail
              go_roundw
              case rel => exact ⟨i + 1, far2, q2, ao2, c2, by go_num, by omega, rfl, HS2, HBS⟩
              case measure => simp [Go.RowKit.intOf]; omega
        · obtain rfl : q.length = i := by omega
          have hd : decide ((q.length : Int) < (q.length : Int)) = false := decide_eq_false (by omega)
          obtain ⟨lz, hz1, hz2⟩ := HS.out.z
          have HZ := hide hz1
          have HD0 := hide HS.out.d
          have HBB := hide HS.out.bel
          have hlf := HB.out.len
          have HLF := hide hlf
          have HBE : Hid (BI N ps L f q.length far q) := HB
          have HLZ := hide hz2
          obtain ⟨ql, hql⟩ : ∃ k, q.length = k := ⟨_, rfl⟩
          rw [hql] at hd ⊢
          clear hz1 hz2 hlf hqn h HS HB
          go_wp2_with (first
            | refine wpList_load_row rfl 44 _ rfl D rfl 44 _ (0, 0) _ HD0.out Tryd.underlying44 rfl (by rw [infoD]; simp [iv_len, HLF.out]) ?_
            | refine wpList_store_row rfl 44 _ _ rfl Z _ rfl rfl _ _ HZ.out (by rw [infoD]; simp [iv_len, HLF.out]) (by simp [iv_len, HLF.out, HLZ.out]) (iv_one far) ?_)
          refine bodyPost_ret (results_c rfl _ _ Z _ _ _ _ rfl (setRow_heap _ _ _ _ _ _ HZ.out) Tryd.underlying44 rfl (by rw [infoD]; simp [iv_len, HLF.out])) rfl ?_
          exact ⟨⟨far, q, rfl, HBE.out⟩, brow HBB.out _ _ (by have := HZD.out; omega)⟩
end Go.Proofs.YtipceoeihiaieaaDoor.Rou
