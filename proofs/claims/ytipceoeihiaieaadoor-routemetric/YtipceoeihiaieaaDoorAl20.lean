/- Layer 20: the document's far (gen_al20.py). -/
import Derived.Test.YtipceoeihiaieaaDoorAk20
import Derived.Deep.OwnRows
namespace Go.Proofs.YtipceoeihiaieaaDoor.Rou
open Go.RowKit

theorem made_rep (z : Value) (n : Nat) : madeCells #[z] n = (List.replicate n z).toArray := by
  apply Array.ext'
  simp [madeCells, Nat.mod_one]
  exact List.map_const' .. |>.trans (by rw [List.length_range])
/-- Numbers in a block of a row. -/
def IR (w : World) (g : Nat) (l : List Int) : Prop := w.heap[g]? = some (.cells (iv l).toArray 3 (0, 0))
theorem IR.cell {w : World} {g : Nat} {l : List Int} (h : IR w g l) {j : Nat} (hj : j < l.length) : w.cell? ⟨g, j, none⟩ = some (.int .i64 (l.getD j 0)) ∧ w.frozen? ⟨g, j, none⟩ = false ∧ g < w.heap.size := by
  refine ⟨(cell_of_row _ _ _ _ _ _ h).trans ?_, fz h j, (Array.getElem?_eq_some_iff.1 h).1⟩
  rw [List.getElem?_toArray]
  exact iv_at (by simp [List.getD, hj])
/-- A block of a row, laid behind a world; what lay there is as it was. -/
def IW (V0 V : World) (l : List Int) : Prop := Below V0.heap.size V0 V ∧ IR V V0.heap.size l
theorem IW.put {V0 V : World} {l : List Int} (h : IW V0 V l) (j : Nat) (z : Int) : IW V0 (V.setCell ⟨V0.heap.size, j, none⟩ (.int .i64 z)) (l.set j z) := by
  have h4 := h.2
  unfold IR at h4
  refine ⟨?_, ?_⟩
  · rw [setCell_eq_setRow _ _ _ _ _ _ _ h4]
    exact brow h.1 _ _ (Nat.le_refl _)
  · unfold IR
    rw [setCell_eq_setRow _ _ _ _ _ _ _ h4, setRow_heap _ _ _ _ _ _ h4, List.setIfInBounds_toArray, iv_set]
theorem IW.drew {V0 V : World} {l : List Int} (h : IW V0 V l) : IW V0 V.drew l := ⟨drewB h.1, h.2⟩
theorem IW.start (V0 : World) (N : Nat) : IW V0 (V0.alloc (.cells (madeCells #[.int .i64 0] N) 3)) (List.replicate N 0) := by
  refine ⟨bnew _ _, ?_⟩
  unfold IR
  rw [heap_alloc_new, made_rep]
  simp [iv]
/-- Rows of numbers that have been told. -/
structure RF (w : World) (B : Nat) (ao : Option Addr) (c N : Nat) (gs : List Nat) (rows : List (List Int)) : Prop where
  own : w.ownsRow B 32 1 (.slice ao gs.length c) gs.length (gs.map fun g => .slice (some ⟨g, 0, none⟩) N N)
  len : gs.length = rows.length
  row : ∀ (i g : Nat), gs[i]? = some g → B ≤ g ∧ IR w g (rows.getD i [])
theorem RF.below {w w' : World} {B : Nat} {ao : Option Addr} {c N : Nat} {gs : List Nat} {rows : List (List Int)} (h : RF w B ao c N gs rows) (hb : Below w.heap.size w w') : RF w' B ao c N gs rows :=
  ⟨own_below h.own hb, h.len, fun i g hg => ⟨(h.row i g hg).1, (hb.block g (Array.getElem?_eq_some_iff.1 (h.row i g hg).2).1).trans (h.row i g hg).2⟩⟩
theorem infoIS : (Tryd.prog.info? 32).map (fun i => (i.zero, i.size, i.bytes)) = some (some (.slice none 0 0), 1, 24) := by kernel_rfl
/-- One more. -/
theorem RF.push {w V w' : World} {B : Nat} {ao : Option Addr} {c N : Nat} {gs : List Nat} {rows : List (List Int)} (h : RF w B ao c N gs rows) {l : List Int} (hw : IW w V l) (hB : B ≤ w.heap.size) {g cap : Nat}
    (hO : w'.ownsRow B 32 1 (.slice (some ⟨g, 0, none⟩) (gs.length + 1) cap) (gs.length + 1) ((gs.map fun g => Value.slice (some ⟨g, 0, none⟩) N N) ++ [.slice (some ⟨w.heap.size, 0, none⟩) N N])) (hg : V.grownBy w' (ob ao)) : RF w' B (some ⟨g, 0, none⟩) cap N (gs ++ [w.heap.size]) (rows ++ [l]) := by
  have h2 := h.below hw.1
  refine ⟨by rw [List.length_append, List.map_append]; exact hO, by simp [h.len], fun i x hx => ?_⟩
  rw [List.getElem?_append] at hx
  split at hx
  · next hi =>
    have h3 := h2.row i x hx
    refine ⟨h3.1, (hg.block x (Array.getElem?_eq_some_iff.1 h3.2).1 (own_ne h2.own h3.2 (by decide)).symm).trans ?_⟩
    have : (rows ++ [l]).getD i [] = rows.getD i [] := by
      rw [List.getD_eq_getElem?_getD, List.getD_eq_getElem?_getD, List.getElem?_append, if_pos (by rw [← h.len]; exact hi)]
    rw [this]
    exact h3.2
  · next hi =>
    have hi2 : i = gs.length := by
      have := (List.getElem?_eq_some_iff.1 hx).1
      simp at this
      omega
    subst hi2
    simp at hx
    subst hx
    refine ⟨hB, (hg.block _ (Array.getElem?_eq_some_iff.1 hw.2).1 (own_ne h2.own hw.2 (by decide)).symm).trans ?_⟩
    have : (rows ++ [l]).getD gs.length [] = l := by
      rw [List.getD_eq_getElem?_getD, h.len]
      simp
    rw [this]
    exact hw.2
def filN (N i : Nat) : List Int := List.replicate i (-1) ++ List.replicate (N - i) 0
theorem filN_len (N i : Nat) (h : i ≤ N) : (filN N i).length = N := by simp [filN]; omega
theorem filN_set (N i : Nat) (h : i < N) : (filN N i).set i (-1) = filN N (i + 1) := by
  unfold filN
  obtain ⟨r, hr⟩ : ∃ r, N - i = r + 1 := ⟨N - i - 1, by omega⟩
  rw [hr, show N - (i + 1) = r by omega, List.set_append_right _ _ (by simp), List.length_replicate, Nat.sub_self, List.replicate_succ, List.set_cons_zero, List.replicate_succ', List.append_assoc]
  rfl
theorem filN_all (N : Nat) : filN N N = List.replicate N (-1) := by simp [filN]
theorem filN_none (N : Nat) : filN N 0 = List.replicate N 0 := by simp [filN]
end Go.Proofs.YtipceoeihiaieaaDoor.Rou
