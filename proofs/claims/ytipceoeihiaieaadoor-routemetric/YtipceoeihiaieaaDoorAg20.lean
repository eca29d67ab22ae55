/- Layer 20: what a chart has, whom it meets; a pair put where it begins. -/
import Derived.Test.YtipceoeihiaieaaDoorAf20
import Derived.Deep.RegionHeld3
namespace Go.Proofs.YtipceoeihiaieaaDoor.Rou
open Go.RowKit

set_option maxRecDepth 100000 in
set_option maxHeartbeats 1000000 in
theorem rHas (C : Nat) (n z : Int) (w : World) (hC : w.cell? ⟨C, 0, none⟩ = some (.int .i64 n)) : Calls Tryd.prog 17 #[.pointer (some ⟨C, 0, none⟩), .int .i64 z] w fun e w' => e = .returned (.bool (decide (0 ≤ z ∧ z < n))) ∧ w' = w := by
  have hlt := World.block_lt_of_cell? _ _ hC
  by_cases h0 : 0 ≤ z
  · have d0 : decide (0 ≤ z) = true := decide_eq_true h0
    have d0' : decide (z ≥ 0) = true := decide_eq_true h0
    have hR : decide (0 ≤ z ∧ z < n) = decide (z < n) := decide_eq_decide.2 ⟨fun h => h.2, fun h => ⟨h0, h⟩⟩
    rw [hR]
    clear hR
    go_enter Tryd.func17, Tryd.ntmps17
    go_wp2_with fail
    go_ret
    exact ⟨rfl, rfl⟩
  · have d0 : decide (0 ≤ z) = false := decide_eq_false h0
    have d0' : decide (z ≥ 0) = false := decide_eq_false h0
    have hR : decide (0 ≤ z ∧ z < n) = false := decide_eq_false fun h => h0 h.1
    rw [hR]
    clear hR
    go_enter Tryd.func17, Tryd.ntmps17
    go_wp2_with fail
    go_ret
    exact ⟨rfl, rfl⟩
set_option maxRecDepth 100000 in
set_option maxHeartbeats 2000000 in
theorem rMeets (B C i : Nat) (hi : i < 64) (y n : Int) (ao : Nat → Option Addr) (cp : Nat → Nat) (L : Nat → List Pr) (w : World) (hC : Ch w B C n ao cp L) (hl : (L i).length ≤ 1000) : Calls Tryd.prog 36 #[.pointer (some ⟨C, 0, none⟩), .agg #[.int .i64 (i : Int), .int .i64 y]] w fun e w' => e = .returned (.bool (decide (((i : Int), y) ∈ L i))) ∧ Below w.heap.size w w' := by
  have hb0 := bnew w (.cells #[.int .i64 (i : Int), .int .i64 y] 33)
  have hb1 : Below w.heap.size w (w.alloc (.cells #[.int .i64 (i : Int), .int .i64 y] 33)).drew := drewB hb0
  have c1 := rContainsP ((i : Int), y) (ao i) (cp i) (L i) (by omega) (w.alloc (.cells #[.int .i64 (i : Int), .int .i64 y] 33)).drew ((hC.own i hi).at.below hb1)
  have hq : (w.alloc (.cells #[.int .i64 (i : Int), .int .i64 y] 33)).heap[w.heap.size]? = some (.cells #[.int .i64 (i : Int), .int .i64 y] 33 (0, 0)) := heap_alloc_new _ _
  obtain ⟨y0, y1, y2⟩ := m_cells hq
  have x0 := (hC.below hb0).cell.2.1 i hi
  have x1 := (hC.below hb0).cell.2.2.2
  have HB1 := hide hb1
  have HS : Hid ((w.alloc (.cells #[.int .i64 (i : Int), .int .i64 y] 33)).drew.cell? ⟨C, 1 + i, none⟩ = some (.slice (ao i) (L i).length (cp i)) ∧ (w.alloc (.cells #[.int .i64 (i : Int), .int .i64 y] 33)).drew.cell? ⟨w.heap.size, 0, none⟩ = some (.int .i64 (i : Int)) ∧ (w.alloc (.cells #[.int .i64 (i : Int), .int .i64 y] 33)).drew.cell? ⟨w.heap.size, 1, none⟩ = some (.int .i64 y)) := hide ⟨x0, y0, y1⟩
  have hii : (i : Int) < 64 := by omega
  generalize decide (((i : Int), y) ∈ L i) = R at *
  generalize (L i).length = m at *
  clear hC hb0 hb1 hq
  go_enter Tryd.func36, Tryd.ntmps36
  go_wp2_with fail
  go_region_held3 (fun X => X.cell? ⟨C, 1 + i, none⟩ = some (.slice (ao i) m (cp i)) ∧ X.cell? ⟨w.heap.size, 0, none⟩ = some (.int .i64 (i : Int)) ∧ X.cell? ⟨w.heap.size, 1, none⟩ = some (.int .i64 y))
    (first | exact HS.out | exact ⟨cellB HS.out.1 hb, cellB HS.out.2.1 hb, cellB HS.out.2.2 hb⟩)
    (first
      | (go_at_call 48; refine c1.mono ?_; rintro e w1 ⟨rfl, hb⟩))
  go_wp2_with fail
  go_ret
  exact ⟨rfl, HB1.out.trans (hb.mono (by simp [World.drew]))⟩
/-- What a chart's call leaves: the chart; all else but its rows. -/
structure CPost (w w' : World) (B C : Nat) (n : Int) (ao : Nat → Option Addr) (ao' : Nat → Option Addr) (cp' : Nat → Nat) (L' : Nat → List Pr) : Prop where
  ch : Ch w' B C n ao' cp' L'
  bel : Below B w w'
  oth : ∀ x, x < w.heap.size → x ≠ C → (∀ j, j < 64 → ob (ao j) ≠ some x) → w'.heap[x]? = w.heap[x]?
  nw : ∀ j, j < 64 → ∀ x, ob (ao' j) = some x → ob (ao j) = some x ∨ w.heap.size ≤ x
theorem CPost.still {w w' : World} {B C : Nat} {n : Int} {ao : Nat → Option Addr} {cp : Nat → Nat} {L : Nat → List Pr} (h : Ch w B C n ao cp L) (hB : B ≤ w.heap.size) (hb : Below w.heap.size w w') : CPost w w' B C n ao ao cp L :=
  ⟨h.below hb, hb.mono hB, fun x hx _ _ => hb.block x hx, fun _ _ _ h => .inl h⟩
theorem CPost.trans {w V w' : World} {B C : Nat} {n : Int} {ao ao1 ao' : Nat → Option Addr} {cp1 cp' : Nat → Nat} {L1 L' : Nat → List Pr} (h : CPost w V B C n ao ao1 cp1 L1) (h' : CPost V w' B C n ao1 ao' cp' L') : CPost w w' B C n ao ao' cp' L' := by
  refine ⟨h'.ch, h.bel.trans h'.bel, fun x hx hxC hj => ?_, fun j hj x hx => ?_⟩
  · rw [h'.oth x (Nat.lt_of_lt_of_le hx h.bel.size) hxC (fun j hj2 e => ?_), h.oth x hx hxC hj]
    rcases h.nw j hj2 x e with e1 | e1
    · exact hj j hj2 e1
    · omega
  · rcases h'.nw j hj x hx with e | e
    · exact h.nw j hj x e
    · have := h.bel.size
      exact .inr (by omega)
/-- Pairs with one put where it begins. -/
def lnk (L : Nat → List Pr) (i : Nat) (y : Int) : Nat → List Pr := upd L i (if ((i : Int), y) ∈ L i then L i else L i ++ [((i : Int), y)])
theorem upd_self {α : Type} (f : Nat → α) (i : Nat) : upd f i (f i) = f := by
  funext j
  unfold upd
  split
  · next h => rw [h]
  · rfl
set_option maxRecDepth 100000 in
set_option maxHeartbeats 4000000 in
theorem rLink (B C i : Nat) (hi : i < 64) (y n : Int) (ao : Nat → Option Addr) (cp : Nat → Nat) (L : Nat → List Pr) (w : World) (hC : Ch w B C n ao cp L) (hB : B ≤ w.heap.size) (hl : (L i).length ≤ 1000) : Calls Tryd.prog 19 #[.pointer (some ⟨C, 0, none⟩), .agg #[.int .i64 (i : Int), .int .i64 y]] w fun e w' => e = .returned (.tuple #[]) ∧ ∃ ao' cp', CPost w w' B C n ao ao' cp' (lnk L i y) := by
  have hb0 := bnew w (.cells #[.int .i64 (i : Int), .int .i64 y] 33)
  have c1 := rMeets B C i hi y n ao cp L (w.alloc (.cells #[.int .i64 (i : Int), .int .i64 y] 33)) (hC.below hb0) hl
  have hq : (w.alloc (.cells #[.int .i64 (i : Int), .int .i64 y] 33)).heap[w.heap.size]? = some (.cells #[.int .i64 (i : Int), .int .i64 y] 33 (0, 0)) := heap_alloc_new _ _
  have HQ := hide hq
  have HB0 := hide hb0
  have HC := hide hC
  have hii : (i : Int) < 64 := by omega
  clear hq hb0 hC
  by_cases hm : ((i : Int), y) ∈ L i
  · have hR : lnk L i y = L := by
      unfold lnk
      rw [if_pos hm, upd_self]
    rw [decide_eq_true hm] at c1
    rw [hR]
    clear hR hm hl
    go_enter Tryd.func19, Tryd.ntmps19
    go_wp2_with (go_at_call 36; (with_reducible refine Calls.mono c1 ?_); rintro e w1 ⟨rfl, hb⟩)
    go_end0
    exact ⟨rfl, ao, cp, CPost.still HC.out hB (bkp HB0.out hb)⟩
  · have hR : lnk L i y = upd L i (L i ++ [((i : Int), y)]) := by
      unfold lnk
      rw [if_neg hm]
    rw [decide_eq_false hm] at c1
    rw [hR]
    obtain ⟨m, hlm⟩ : ∃ m, (L i).length = m := ⟨_, rfl⟩
    have HL := hide hlm
    rw [hlm] at hl
    clear hR hm hlm
    go_enter Tryd.func19, Tryd.ntmps19
    go_wp2_with (go_at_call 36; (with_reducible refine Calls.mono c1 ?_); rintro e w1 ⟨rfl, hb⟩; have HW1 := hide (bkp HB0.out hb); have hq1 := (hb.block w.heap.size (by simp)).trans HQ.out; obtain ⟨y0, y1, y2⟩ := m_cells hq1; have HQ1 := hide hq1; clear hq1; have hch := HC.out.below HW1.out; have x0 := hch.cell.2.1 i hi; have x1 := hch.cell.2.2.1 (1 + i); have x2 := hch.cell.2.2.2; have HCH := hide hch; clear hb hch c1; rw [HL.out] at x0)
    have hBw : B ≤ w1.heap.size := Nat.le_trans hB HW1.out.size
    have hO : w1.ownsRow B 33 2 (.slice (ao i) m (cp i)) m (pcs (L i)) := by
      have := HCH.out.own i hi
      unfold PO at this
      rwa [HL.out] at this
    have HO := hide hO
    have HPI : Hid (∀ g6 cap w6, w6.ownsRow B 33 2 (.slice (some ⟨g6, 0, none⟩) (m + 1) cap) (m + 1) (pcs (L i) ++ [.int .i64 (i : Int), .int .i64 y]) → w1.grownBy w6 (ob (ao i)) → (ob (ao i) = some g6 ∨ w1.heap.size ≤ g6) →
        (w6.cell? ⟨C, 1 + i, none⟩ = some (.slice (ao i) m (cp i)) ∧ w6.frozen? ⟨C, 1 + i, none⟩ = false ∧ w6.cell? ⟨w.heap.size, 0, none⟩ = some (.int .i64 (i : Int)) ∧ w6.cell? ⟨w.heap.size, 1, none⟩ = some (.int .i64 y)) ∧ ∃ ao' cp', CPost w (w6.setCell ⟨C, 1 + i, none⟩ (.slice (some ⟨g6, 0, none⟩) (m + 1) cap)) B C n ao ao' cp' (upd L i (L i ++ [((i : Int), y)]))) := hide (fun g6 cap w6 h1 h2 h3 => by
      have hO6 : PO w6 B (some ⟨g6, 0, none⟩) cap (L i ++ [((i : Int), y)]) := by
        unfold PO
        rw [List.length_append, HL.out, pcs_app, pcs_one]
        exact h1
      obtain ⟨q1, q2, q3, q4, q5⟩ := Ch.put HCH.out hBw hi hO6 h2 h3
      rw [show (L i ++ [((i : Int), y)]).length = m + 1 by simp [HL.out]] at q2 q3 q4
      have hp6 := (h2.block w.heap.size (Array.getElem?_eq_some_iff.1 HQ1.out).1 (fun e => by have := (own_lt (HC.out.own i hi) _ e.symm).2; omega)).trans HQ1.out
      obtain ⟨p0, p1, p2⟩ := m_cells hp6
      refine ⟨⟨?_, fz q1 _, p0, p1⟩, _, _, (CPost.still HC.out hB HW1.out).trans ⟨q2, q4, fun x hx hxC hj => q3 x hx hxC (hj i hi), q5⟩⟩
      have := (cell_of_row _ _ (1 + i) _ _ _ q1)
      rw [this]
      have hcc := HCH.out.cell.2.1 i hi
      rw [cell_of_row _ _ (1 + i) _ _ _ HCH.out.hd, HL.out] at hcc
      exact hcc)
    clear hO
    go_region_law (first | (refine step_pushND rfl (.tmp 17) (.tmp 19) 22 rfl 33 Tryd.underlying22 _ 2 16 infoP rfl (by decide) B (ao i) m (cp i) _ (by rfl) HO.out [.int .i64 (i : Int), .int .i64 y] _ rfl rfl (by simp [Value.oneCell']) w1.heap.size rfl (by rfl) (by omega) (by omega) (by omega) ?_; intro g6 cap w6 hown6 hgrow6 hat6; obtain ⟨⟨i0, i1, i3, i4⟩, i2⟩ := HPI.out g6 cap w6 hown6 hgrow6 hat6; have HF := hide i2; clear i2))
    all_goals
      go_wp2_with fail
      go_end0
      exact ⟨rfl, HF.out⟩
end Go.Proofs.YtipceoeihiaieaaDoor.Rou
