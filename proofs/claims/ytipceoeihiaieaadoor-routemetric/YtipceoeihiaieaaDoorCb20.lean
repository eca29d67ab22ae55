/- Layer 20: the document's step. -/
import Derived.Test.YtipceoeihiaieaaDoorBf20
namespace Go.Proofs.YtipceoeihiaieaaDoor.Rou
open Go.RowKit

/-- Rows of numbers, as they are read. -/
structure RR (w : World) (g0 N : Nat) (G K : Nat → Nat) (rows : Nat → List Int) : Prop where
  hd : ∀ i, i < N → w.cell? ⟨g0, i, none⟩ = some (.slice (some ⟨G i, 0, none⟩) N (K i))
  row : ∀ i j, i < N → j < N → w.cell? ⟨G i, j, none⟩ = some (.int .i64 ((rows i).getD j 0))
theorem RR.below {w w' : World} {g0 N : Nat} {G K : Nat → Nat} {rows : Nat → List Int} (h : RR w g0 N G K rows) (hb : Below w.heap.size w w') : RR w' g0 N G K rows :=
  ⟨fun i hi => cellB (h.hd i hi) hb, fun i j hi hj => cellB (h.row i j hi hj) hb⟩
theorem RG.rr {w : World} {B g0 N : Nat} {G K : Nat → Nat} {rows : Nat → List Int} (h : RG w B g0 N N G K rows) (hl : ∀ i, i < N → (rows i).length = N) : RR w g0 N G K rows := by
  refine ⟨fun i hi => ?_, fun i j hi hj => ?_⟩
  · have := h.at.1 i hi
    rwa [if_pos hi] at this
  · obtain ⟨cs, h1, h2⟩ := h.row i hi
    rw [cell_of_row _ _ j _ _ _ h1, ← Array.getElem?_toList]
    have h3 : (cs.toList.take N)[j]? = cs.toList[j]? := by rw [List.getElem?_take, if_pos hj]
    rw [← h3, h2]
    exact iv_at (by simp [List.getD, hl i hi, hj])
theorem RF.rr {w : World} {B : Nat} {ao : Option Addr} {c N : Nat} {gs : List Nat} {rows : Nat → List Int} (h : RF w B ao c N gs ((List.range N).map rows)) (h0 : 0 < N) (hl : ∀ i, i < N → (rows i).length = N) : ∃ g0 G, ao = some ⟨g0, 0, none⟩ ∧ RR w g0 N G (fun _ => N) rows ∧ B ≤ g0 ∧ ∀ i, i < N → B ≤ G i := by
  have hgl : gs.length = N := by rw [h.len]; simp
  have hget : ∀ i, i < N → gs[i]? = some (gs.getD i 0) := fun i hi => by simp [List.getD, List.getElem?_eq_getElem (show i < gs.length by omega)]
  have hat : ∀ i, i < N → ∃ g0, ao = some ⟨g0, 0, none⟩ ∧ B ≤ g0 ∧ w.cell? ⟨g0, i, none⟩ = some (.slice (some ⟨gs.getD i 0, 0, none⟩) N N) := fun i hi => by
    obtain ⟨g0, e, hb, -, h2⟩ := own_cell h.own (j := i) (v := .slice (some ⟨gs.getD i 0, 0, none⟩) N N) (by rw [List.getElem?_map, hget i hi]; rfl)
    exact ⟨g0, e, hb, h2⟩
  obtain ⟨g0, e, hb0, -⟩ := hat 0 h0
  refine ⟨g0, fun i => gs.getD i 0, e, ⟨fun i hi => ?_, fun i j hi hj => ?_⟩, hb0, fun i hi => (h.row i _ (hget i hi)).1⟩
  · obtain ⟨g1, e1, -, h1⟩ := hat i hi
    rw [e] at e1
    cases e1
    exact h1
  · have h1 := (h.row i _ (hget i hi)).2
    have h2 : ((List.range N).map rows).getD i [] = rows i := by
      rw [List.getD_eq_getElem?_getD, List.getElem?_map, List.getElem?_range hi]
      rfl
    rw [h2] at h1
    exact (h1.cell (j := j) (by rw [hl i hi]; exact hj)).1
end Go.Proofs.YtipceoeihiaieaaDoor.Rou
