/- Layer 20: the document's Right (gen_am20.py). -/
import Derived.Test.YtcgjnmdcmjoiiaaDoorAl20
namespace Go.Proofs.YtcgjnmdcmjoiiaaDoor.Rou
open Go.RowKit

/-- A map is right. -/
def RtP (N : Int) (ps : List Pr) : Prop := 1 ≤ N ∧ N ≤ 64 ∧ (∀ p ∈ ps, 0 ≤ p.1 ∧ p.1 < N ∧ 0 ≤ p.2 ∧ p.2 < N ∧ p.1 ≠ p.2) ∧ ∀ k, k < N.toNat → 0 ≤ (dRow N.toNat ps 0).getD k 0
/-- An answer tells. -/
def TellP (e : Ending) (X : Prop) : Prop := ∃ b : Bool, e = .returned (.bool b) ∧ (b = true ↔ X)
theorem tells_no {X : Prop} (h : ¬ X) : TellP (.returned (.bool false)) X := ⟨false, rfl, fun e => absurd e (by decide), fun e => absurd e h⟩
theorem tells_yes {X : Prop} (h : X) : TellP (.returned (.bool true)) X := ⟨true, rfl, fun _ => h, fun _ => rfl⟩
set_option maxRecDepth 100000 in
set_option maxHeartbeats 4000000 in
theorem dRight (N : Int) (ps : List Pr) (ao : Option Addr) (k : Nat) (hl : ps.length ≤ 1000000000000000) (w : World) (hA : PA w ao ps) : Calls Tryd.prog 14 #[.agg #[.int .i64 N, .slice ao ps.length k]] w fun e w' => TellP e (RtP N ps) ∧ Below w.heap.size w w' := by
  obtain ⟨n, hn⟩ : ∃ n, ps.length = n := ⟨_, rfl⟩
  have HL := hide hn
  rw [hn] at hl ⊢
  have HBM : Hid (Below w.heap.size w (w.alloc (.cells #[.int .i64 N, .slice ao n k] 24)) ∧ (w.alloc (.cells #[.int .i64 N, .slice ao n k] 24)).heap[w.heap.size]? = some (.cells #[.int .i64 N, .slice ao n k] 24 (0, 0))) := hide ⟨bnew w (.cells #[.int .i64 N, .slice ao n k] 24), heap_alloc_new _ _⟩
  have HA := hide hA
  clear hn hA
  obtain ⟨x0, x1, x2⟩ := m_cells HBM.out.2
  by_cases h1 : N < 1
  · have d1 : decide (N < 1) = true := decide_eq_true h1
    have HX : Hid (¬ RtP N ps) := hide (fun h => by have := h.1; omega)
    go_enter Tryd.func14, Tryd.ntmps14
    go_wp2_with fail
    go_ret
    exact ⟨tells_no HX.out, HBM.out.1⟩
  have d1 : decide (N < 1) = false := decide_eq_false h1
  by_cases h2 : N > 64
  · have d2 : decide (N > 64) = true := decide_eq_true h2
    have HX : Hid (¬ RtP N ps) := hide (fun h => by have := h.2.1; omega)
    go_enter Tryd.func14, Tryd.ntmps14
    go_wp2_with fail
    go_ret
    exact ⟨tells_no HX.out, HBM.out.1⟩
  have d2 : decide (N > 64) = false := decide_eq_false h2
  obtain ⟨N, rfl⟩ : ∃ m : Nat, N = (m : Int) := ⟨N.toNat, by omega⟩
  have hN64 : N ≤ 64 := by omega
  go_enter Tryd.func14, Tryd.ntmps14
  go_wp2_with fail
  generalize w.alloc (.cells #[.int .i64 (N : Int), .slice ao n k] 24) = W1 at *
  obtain ⟨M, hM⟩ : ∃ M, w.heap.size = M := ⟨_, rfl⟩
  have HME := hide hM
  rw [hM] at HBM x0 x1 x2 ⊢
  clear hM
  go_loopw [3] (fun vi wr => ∃ i : Nat, vi = .int .i64 (i : Int) ∧ i ≤ n ∧ Hid (Below M w wr ∧ wr.heap[M]? = some (.cells #[.int .i64 (N : Int), .slice ao n k] 24 (0, 0))) ∧ Hid (∀ j p, j < i → ps[j]? = some p → 0 ≤ p.1 ∧ p.1 < (N : Int) ∧ 0 ≤ p.2 ∧ p.2 < (N : Int) ∧ p.1 ≠ p.2)) (fun vi _ => n - (Go.RowKit.intOf vi).toNat)
  case atStart => exact ⟨0, rfl, Nat.zero_le _, HBM, hide (fun j p hj => by omega)⟩
  case round =>
    clear HBM x0 x1 x2
    obtain ⟨i, rfl, hi, HBM, HS⟩ := hrel
    obtain ⟨x0, x1, x2⟩ := m_cells HBM.out.2
    by_cases h : i < n
    · have hd : decide ((i : Int) < (n : Int)) = true := decide_eq_true (by omega)
      have hii : (i : Int) < (n : Int) := by omega
      obtain ⟨⟨u, v⟩, hp⟩ : ∃ p, ps[i]? = some p := ⟨_, List.getElem?_eq_getElem (by rw [HL.out]; exact h)⟩
      have HP := hide hp
      rcases (HA.out.below (by rw [HME.out]; exact HBM.out.1)) with hpa | ⟨gp, op, hao, hpa⟩
      · rw [hpa] at hp
        simp at hp
      subst hao
      obtain ⟨k2, k3⟩ := hpa i _ hp
      simp only at k2 k3
      have hgp := World.block_lt_of_cell? _ _ k2
      have HBD : Hid (Below M w wr.drew ∧ wr.drew.heap[M]? = some (.cells #[.int .i64 (N : Int), .slice (some ⟨gp, op, none⟩) n k] 24 (0, 0))) := hide ⟨drewB HBM.out.1, HBM.out.2⟩
      clear hpa hp
      go_wp2_with fail
      go_region
      by_cases hc1 : u < 0
      · have dc1 : decide (u < 0) = true := decide_eq_true hc1
        have HX : Hid (¬ RtP (N : Int) ps) := hide (fun h => by
          have h5 := h.2.2.1 _ (List.mem_of_getElem? HP.out)
          simp only at h5
          omega)
        go_wp2_with fail
        go_ret
        exact ⟨tells_no HX.out, (by rw [HME.out]; exact HBD.out.1)⟩
      · have dc1 : decide (u < 0) = false := decide_eq_false hc1
        by_cases hc2 : u ≥ (N : Int)
        · have dc2 : decide (u ≥ (N : Int)) = true := decide_eq_true hc2
          have HX : Hid (¬ RtP (N : Int) ps) := hide (fun h => by
            have h5 := h.2.2.1 _ (List.mem_of_getElem? HP.out)
            simp only at h5
            omega)
          go_wp2_with fail
          go_ret
          exact ⟨tells_no HX.out, (by rw [HME.out]; exact HBD.out.1)⟩
        · have dc2 : decide (u ≥ (N : Int)) = false := decide_eq_false hc2
          by_cases hc3 : v < 0
          · have dc3 : decide (v < 0) = true := decide_eq_true hc3
            have HX : Hid (¬ RtP (N : Int) ps) := hide (fun h => by
              have h5 := h.2.2.1 _ (List.mem_of_getElem? HP.out)
              simp only at h5
              omega)
            go_wp2_with fail
            go_ret
            exact ⟨tells_no HX.out, (by rw [HME.out]; exact HBD.out.1)⟩
          · have dc3 : decide (v < 0) = false := decide_eq_false hc3
            by_cases hc4 : v ≥ (N : Int)
            · have dc4 : decide (v ≥ (N : Int)) = true := decide_eq_true hc4
              have HX : Hid (¬ RtP (N : Int) ps) := hide (fun h => by
                have h5 := h.2.2.1 _ (List.mem_of_getElem? HP.out)
                simp only at h5
                omega)
              go_wp2_with fail
              go_ret
              exact ⟨tells_no HX.out, (by rw [HME.out]; exact HBD.out.1)⟩
            · have dc4 : decide (v ≥ (N : Int)) = false := decide_eq_false hc4
              by_cases he : u = v
              · have e1 : (u == v) = true := beq_iff_eq.2 he
                have HX : Hid (¬ RtP (N : Int) ps) := hide (fun h => by
                  have h5 := h.2.2.1 _ (List.mem_of_getElem? HP.out)
                  simp only at h5
                  omega)
                go_wp2_with fail
                go_ret
                exact ⟨tells_no HX.out, (by rw [HME.out]; exact HBD.out.1)⟩
              · have e1 : (u == v) = false := beq_eq_false_iff_ne.2 he
                have HS2 : Hid (∀ j p, j < i + 1 → ps[j]? = some p → 0 ≤ p.1 ∧ p.1 < (N : Int) ∧ 0 ≤ p.2 ∧ p.2 < (N : Int) ∧ p.1 ≠ p.2) := hide (fun j p hj hjp => by
                  by_cases e : j = i
                  · subst e
                    rw [HP.out] at hjp
                    cases hjp
                    simp only
                    omega
                  · exact HS.out j p (by omega) hjp)
                go_wp2_with fail
                go_roundw
                case rel => exact ⟨i + 1, by go_num, by omega, HBD, HS2⟩
                case measure => simp [Go.RowKit.intOf]; omega
    · have hie : i = n := by omega
      have hd : decide ((i : Int) < (n : Int)) = false := decide_eq_false (by omega)
      have HV : Hid (∀ p ∈ ps, 0 ≤ p.1 ∧ p.1 < (N : Int) ∧ 0 ≤ p.2 ∧ p.2 < (N : Int) ∧ p.1 ≠ p.2) := hide (fun p hp => by
        obtain ⟨j, hj⟩ := List.getElem?_of_mem hp
        exact HS.out j p (by have := (List.getElem?_eq_some_iff.1 hj).1; have := HL.out; omega) hj)
      have HVl : Hid (Vl N ps) := hide (fun p hp => by have := HV.out p hp; omega)
      have cf := dFar N ps ao k hN64 HVl.out (by rw [HL.out]; exact hl) wr (HA.out.below (by rw [HME.out]; exact HBM.out.1))
      rw [HL.out] at cf
      clear hie HS
      go_wp2_with (go_at_call 15; (with_reducible refine Calls.mono cf ?_); rintro e w1 ⟨⟨d, c, gs, rfl, hRF⟩, hb1⟩; have HRF := hide hRF; clear hRF cf)
      have HB1 : Hid (Below M w w1) := hide (HBM.out.1.trans (hb1.mono (by have := HBM.out.1.size; omega)))
      have HMM : Hid (w1.heap[M]? = some (.cells #[.int .i64 (N : Int), .slice ao n k] 24 (0, 0))) := hide ((hb1.block M x2).trans HBM.out.2)
      have HR0 := hide ((HRF.out.row 0 (gs.getD 0 0) (by
        have := HRF.out.len
        rw [List.length_map, List.length_range] at this
        simp [List.getD, List.getElem?_eq_getElem (show 0 < gs.length by omega)])).2)
      have hG0 : gs[0]? = some (gs.getD 0 0) := by
        have := HRF.out.len
        rw [List.length_map, List.length_range] at this
        simp [List.getD, List.getElem?_eq_getElem (show 0 < gs.length by omega)]
      have hrow : ((List.range N).map (dRow N ps)).getD 0 [] = dRow N ps 0 := by
        rw [List.getD_eq_getElem?_getD, List.getElem?_map, List.getElem?_range (by omega)]
        rfl
      rw [hrow] at HR0
      obtain ⟨gd, hgd, _, hgd2, kd⟩ := own_cell HRF.out.own (j := 0) (v := .slice (some ⟨gs.getD 0 0, 0, none⟩) N N) (by rw [List.getElem?_map, hG0]; rfl)
      subst hgd
      obtain ⟨y0, y1, y2⟩ := m_cells HMM.out
      have HRW := hide hrow
      obtain ⟨g0, hg0⟩ : ∃ g, gs.getD 0 0 = g := ⟨_, rfl⟩
      rw [hg0] at HR0 kd
      have hll : (dRow N ps 0).length = N := dS_len N ps 0 N
      have HLL := hide hll
      clear hG0 hrow hg0 hll hb1
      go_loopw [7] (fun vi wr => wr = w1 ∧ ∃ j : Nat, vi = .int .i64 (j : Int) ∧ j ≤ N ∧ Hid (∀ k, k < j → 0 ≤ (dRow N ps 0).getD k 0)) (fun vi _ => N - (Go.RowKit.intOf vi).toNat)
      case atStart => exact ⟨rfl, 0, rfl, Nat.zero_le _, hide (fun k hk => by omega)⟩
      case round =>
        obtain ⟨rfl, j, rfl, hj, HJ⟩ := hrel
        by_cases h5 : j < N
        · have hd5 : decide ((j : Int) < (N : Int)) = true := decide_eq_true (by omega)
          have hjj : (j : Int) < (N : Int) := by omega
          have hN0 : (0 : Int) < (N : Int) := by omega
          obtain ⟨z0, z1, z2⟩ := HR0.out.cell (j := j) (by rw [HLL.out]; exact h5)
          by_cases h6 : (dRow N ps 0).getD j 0 < 0
          · have d6 : decide ((dRow N ps 0).getD j 0 < 0) = true := decide_eq_true h6
            have HX : Hid (¬ RtP (N : Int) ps) := hide (fun h => by
              have := h.2.2.2 j (by simpa using h5)
              rw [Int.toNat_natCast] at this
              omega)
            generalize (dRow N ps 0).getD j 0 = vz at *
            go_wp2_with fail
            go_ret
            exact ⟨tells_no HX.out, by rw [HME.out]; exact HB1.out⟩
          · have d6 : decide ((dRow N ps 0).getD j 0 < 0) = false := decide_eq_false h6
            have HJ2 : Hid (∀ k, k < j + 1 → 0 ≤ (dRow N ps 0).getD k 0) := hide (fun k hk => by
              by_cases e : k = j
              · rw [e]; omega
              · exact HJ.out k (by omega))
            generalize (dRow N ps 0).getD j 0 = vz at *
            go_wp2_with fail
            go_roundw
            case rel => exact ⟨trivial, j + 1, by go_num, by omega, HJ2⟩
            case measure => simp [Go.RowKit.intOf]; omega
        · have hje : j = N := by omega
          have hd5 : decide ((j : Int) < (N : Int)) = false := decide_eq_false (by omega)
          have HX : Hid (RtP (N : Int) ps) := hide ⟨by omega, by omega, HV.out, fun k hk => by
            rw [Int.toNat_natCast] at hk ⊢
            exact HJ.out k (by omega)⟩
          go_wp2_with fail
          go_ret
          exact ⟨tells_yes HX.out, by rw [HME.out]; exact HB1.out⟩
end Go.Proofs.YtcgjnmdcmjoiiaaDoor.Rou
