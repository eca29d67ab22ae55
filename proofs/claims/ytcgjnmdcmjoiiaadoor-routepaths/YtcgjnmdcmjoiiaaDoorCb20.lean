/- Layer 20: the document's step. -/
import Derived.Test.YtcgjnmdcmjoiiaaDoorBf20
namespace Go.Proofs.YtcgjnmdcmjoiiaaDoor.Rou
open Go.RowKit

/-- Rows of numbers, as they are read. -/
structure RR (w : World) (g0 N : Nat) (G K : Nat → Nat) (rows : Nat → List Int) : Prop where
  hd : ∀ i, i < N → w.cell? ⟨g0, i, none⟩ = some (.slice (some ⟨G i, 0, none⟩) N (K i))
  row : ∀ i j, i < N → j < N → w.cell? ⟨G i, j, none⟩ = some (.int .i64 ((rows i).getD j 0))
theorem RR.below {w w' : World} {g0 N : Nat} {G K : Nat → Nat} {rows : Nat → List Int} (h : RR w g0 N G K rows) (hb : Below w.heap.size w w') : RR w' g0 N G K rows :=
  ⟨fun i hi => cellB (h.hd i hi) hb, fun i j hi hj => cellB (h.row i j hi hj) hb⟩
theorem RG.rr {w : World} {B g0 N : Nat} {G K : Nat → Nat} {rows : Nat → List Int} (h : RG w B g0 N N G K rows) (hl : ∀ i, i < N → (rows i).length = N) : RR w g0 N G K rows := by
  refine ⟨fun i hi => ?_, fun i j hi hj => ?_⟩
  · have := h.at.1 i hi
    rwa [if_pos hi] at this
  · obtain ⟨cs, h1, h2⟩ := h.row i hi
    rw [cell_of_row _ _ j _ _ _ h1, ← Array.getElem?_toList]
    have h3 : (cs.toList.take N)[j]? = cs.toList[j]? := by rw [List.getElem?_take, if_pos hj]
    rw [← h3, h2]
    exact iv_at (by simp [List.getD, hl i hi, hj])
theorem RF.rr {w : World} {B : Nat} {ao : Option Addr} {c N : Nat} {gs : List Nat} {rows : Nat → List Int} (h : RF w B ao c N gs ((List.range N).map rows)) (h0 : 0 < N) (hl : ∀ i, i < N → (rows i).length = N) : ∃ g0 G, ao = some ⟨g0, 0, none⟩ ∧ RR w g0 N G (fun _ => N) rows ∧ B ≤ g0 ∧ ∀ i, i < N → B ≤ G i := by
  have hgl : gs.length = N := by rw [h.len]; simp
  have hget : ∀ i, i < N → gs[i]? = some (gs.getD i 0) := fun i hi => by simp [List.getD, List.getElem?_eq_getElem (show i < gs.length by omega)]
  have hat : ∀ i, i < N → ∃ g0, ao = some ⟨g0, 0, none⟩ ∧ B ≤ g0 ∧ w.cell? ⟨g0, i, none⟩ = some (.slice (some ⟨gs.getD i 0, 0, none⟩) N N) := fun i hi => by
    obtain ⟨g0, e, hb, -, h2⟩ := own_cell h.own (j := i) (v := .slice (some ⟨gs.getD i 0, 0, none⟩) N N) (by rw [List.getElem?_map, hget i hi]; rfl)
    exact ⟨g0, e, hb, h2⟩
  obtain ⟨g0, e, hb0, -⟩ := hat 0 h0
  refine ⟨g0, fun i => gs.getD i 0, e, ⟨fun i hi => ?_, fun i j hi hj => ?_⟩, hb0, fun i hi => (h.row i _ (hget i hi)).1⟩
  · obtain ⟨g1, e1, -, h1⟩ := hat i hi
    rw [e] at e1
    cases e1
    exact h1
  · have h1 := (h.row i _ (hget i hi)).2
    have h2 : ((List.range N).map rows).getD i [] = rows i := by
      rw [List.getD_eq_getElem?_getD, List.getElem?_map, List.getElem?_range hi]
      rfl
    rw [h2] at h1
    exact (h1.cell (j := j) (by rw [hl i hi]; exact hj)).1
set_option maxRecDepth 100000 in
set_option maxHeartbeats 4000000 in
theorem dStep (N : Nat) (ps : List Pr) (hR : RtP (N : Int) ps) (a b g0 c : Nat) (G K : Nat → Nat) (ha : a < N) (hb : b < N) (w : World) (h : RR w g0 N G K (dRow N ps)) : Calls Tryd.prog 18 #[.slice (some ⟨g0, 0, none⟩) N c, .int .i64 (a : Int), .int .i64 (b : Int)] w fun e w' => e = .returned (.int .i64 (nx N ps a b : Nat)) ∧ Below w.heap.size w w' := by
  have hN64 : N ≤ 64 := by have := hR.2.1; omega
  have haI : (a : Int) < (N : Int) := by omega
  have hbI : (b : Int) < (N : Int) := by omega
  have x0 := h.hd a ha
  have x1 : w.cell? ⟨G a, b, none⟩ = some (.int .i64 (Dd N ps a b)) := h.row a b ha hb
  have HH := hide h
  have b1 := Dd_pos hR ha hb
  have b2 := Dd_hi hR ha hb
  have hwr : IntKind.i64.wrap (Dd N ps a b - 1) = Dd N ps a b - 1 := by
    rw [IntKind.wrap_i64]
    omega
  have HNX : Hid (∀ z : Nat, ((List.range N).find? (nxt N ps a b) = some z ∨ ((List.range N).find? (nxt N ps a b) = none ∧ z = a)) → nx N ps a b = z) := hide (fun z h => by
    unfold nx
    rcases h with h | ⟨h, h2⟩
    · rw [h]; rfl
    · rw [h, h2]; rfl)
  have HDF : Hid (∀ k, nxt N ps a b k = (decide (Dd N ps a k = 1) && decide (Dd N ps k b = Dd N ps a b - 1))) := hide (fun k => rfl)
  obtain ⟨R, hRR⟩ : ∃ r, nx N ps a b = r := ⟨_, rfl⟩
  rw [hRR] at HNX ⊢
  obtain ⟨dab, hdab⟩ : ∃ r, Dd N ps a b = r := ⟨_, rfl⟩
  rw [hdab] at x1 hwr HDF
  generalize nxt N ps a b = P at *
  clear h hRR b1 b2
  go_enter Tryd.func18, Tryd.ntmps18
  go_wp2_with fail
  go_loopw [7] (fun vk wr => ∃ t : Nat, vk = .int .i64 (t : Int) ∧ t ≤ N ∧ Hid (Below w.heap.size w wr) ∧ Hid (∀ j, j < t → P j = false)) (fun vk _ => N - (Go.RowKit.intOf vk).toNat)
  case atStart => exact ⟨0, rfl, Nat.zero_le _, hide (Below.refl _ _), hide (fun j hj => by omega)⟩
  case round =>
    obtain ⟨t, rfl, ht, HB, HT⟩ := hrel
    by_cases h : t < N
    · have hd : decide ((t : Int) < (N : Int)) = true := decide_eq_true (by omega)
      have htI : (t : Int) < (N : Int) := by omega
      have hrr := HH.out.below HB.out
      have y0 := hrr.hd a ha
      have y1 : wr.cell? ⟨G a, b, none⟩ = some (.int .i64 dab) := cellB x1 HB.out
      have y2 : wr.cell? ⟨G a, t, none⟩ = some (.int .i64 (Dd N ps a t)) := hrr.row a t ha h
      have y3 := hrr.hd t h
      have y4 : wr.cell? ⟨G t, b, none⟩ = some (.int .i64 (Dd N ps t b)) := hrr.row t b h hb
      have l0 := World.block_lt_of_cell? _ _ y0
      have l1 := World.block_lt_of_cell? _ _ y1
      have l2 := World.block_lt_of_cell? _ _ y4
      have hP := HDF.out t
      obtain ⟨d1, hd1⟩ : ∃ r, Dd N ps a t = r := ⟨_, rfl⟩
      obtain ⟨d2, hd2⟩ : ∃ r, Dd N ps t b = r := ⟨_, rfl⟩
      rw [hd1] at y2 hP
      rw [hd2] at y4 hP
      have HNT : Hid (P t = false → ∀ j, j < t + 1 → P j = false) := hide (fun hf j hj => by
        by_cases e : j = t
        · rw [e]; exact hf
        · exact HT.out j (by omega))
      clear hrr hd1 hd2
      by_cases h1 : d1 = 1
      · have e1 : (d1 == 1) = true := beq_iff_eq.2 h1
        rw [decide_eq_true h1, Bool.true_and] at hP
        by_cases h2 : d2 = dab - 1
        · have e2 : (d2 == dab - 1) = true := beq_iff_eq.2 h2
          rw [decide_eq_true h2] at hP
          have HF : Hid (R = t) := hide (HNX.out t (.inl (List.find?_range_eq_some.2 ⟨hP, List.mem_range.2 h, fun j hj => by rw [HT.out j hj]; rfl⟩)))
          clear h1 h2 hP
          go_wp2_with fail
          go_region
          go_wp2_with fail
          go_ret
          exact ⟨by rw [HF.out]; rfl, drewB HB.out⟩
        · have e2 : (d2 == dab - 1) = false := beq_eq_false_iff_ne.2 h2
          rw [decide_eq_false h2] at hP
          have HT2 := hide (HNT.out hP)
          clear h1 h2 hP
          go_wp2_with fail
          go_region
          go_wp2_with fail
          go_roundw
          case rel => exact ⟨t + 1, by go_num, by omega, hide (drewB HB.out), HT2⟩
          case measure => simp [Go.RowKit.intOf]; omega
      · have e1 : (d1 == 1) = false := beq_eq_false_iff_ne.2 h1
        rw [decide_eq_false h1, Bool.false_and] at hP
        have HT2 := hide (HNT.out hP)
        clear h1 hP
        go_wp2_with fail
        go_region
        go_wp2_with fail
        go_roundw
        case rel => exact ⟨t + 1, by go_num, by omega, hide (drewB HB.out), HT2⟩
        case measure => simp [Go.RowKit.intOf]; omega
    · have hte : t = N := by omega
      have hd : decide ((t : Int) < (N : Int)) = false := decide_eq_false (by omega)
      have HF : Hid (R = a) := hide (HNX.out a (.inr ⟨List.find?_eq_none.2 (fun k hk e => by
        have h1 := HT.out k (by rw [hte]; exact List.mem_range.1 hk)
        rw [h1] at e
        cases e), rfl⟩))
      go_wp2_with fail
      go_ret
      exact ⟨by rw [HF.out]; rfl, HB.out⟩
end Go.Proofs.YtcgjnmdcmjoiiaaDoor.Rou
