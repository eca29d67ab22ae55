/- Layer 20: the document's far (gen_al20.py). -/
import Derived.Test.YtcgjnmdcmjoiiaaDoorAk20
import Derived.Deep.OwnRows
namespace Go.Proofs.YtcgjnmdcmjoiiaaDoor.Rou
open Go.RowKit

theorem made_rep (z : Value) (n : Nat) : madeCells #[z] n = (List.replicate n z).toArray := by
  apply Array.ext'
  simp [madeCells, Nat.mod_one]
  exact List.map_const' .. |>.trans (by rw [List.length_range])
/-- Numbers in a block of a row. -/
def IR (w : World) (g : Nat) (l : List Int) : Prop := w.heap[g]? = some (.cells (iv l).toArray 3 (0, 0))
theorem IR.cell {w : World} {g : Nat} {l : List Int} (h : IR w g l) {j : Nat} (hj : j < l.length) : w.cell? ⟨g, j, none⟩ = some (.int .i64 (l.getD j 0)) ∧ w.frozen? ⟨g, j, none⟩ = false ∧ g < w.heap.size := by
  refine ⟨(cell_of_row _ _ _ _ _ _ h).trans ?_, fz h j, (Array.getElem?_eq_some_iff.1 h).1⟩
  rw [List.getElem?_toArray]
  exact iv_at (by simp [List.getD, hj])
/-- A block of a row, laid behind a world; what lay there is as it was. -/
def IW (V0 V : World) (l : List Int) : Prop := Below V0.heap.size V0 V ∧ IR V V0.heap.size l
theorem IW.put {V0 V : World} {l : List Int} (h : IW V0 V l) (j : Nat) (z : Int) : IW V0 (V.setCell ⟨V0.heap.size, j, none⟩ (.int .i64 z)) (l.set j z) := by
  have h4 := h.2
  unfold IR at h4
  refine ⟨?_, ?_⟩
  · rw [setCell_eq_setRow _ _ _ _ _ _ _ h4]
    exact brow h.1 _ _ (Nat.le_refl _)
  · unfold IR
    rw [setCell_eq_setRow _ _ _ _ _ _ _ h4, setRow_heap _ _ _ _ _ _ h4, List.setIfInBounds_toArray, iv_set]
theorem IW.drew {V0 V : World} {l : List Int} (h : IW V0 V l) : IW V0 V.drew l := ⟨drewB h.1, h.2⟩
theorem IW.start (V0 : World) (N : Nat) : IW V0 (V0.alloc (.cells (madeCells #[.int .i64 0] N) 3)) (List.replicate N 0) := by
  refine ⟨bnew _ _, ?_⟩
  unfold IR
  rw [heap_alloc_new, made_rep]
  simp [iv]
/-- Rows of numbers that have been told. -/
structure RF (w : World) (B : Nat) (ao : Option Addr) (c N : Nat) (gs : List Nat) (rows : List (List Int)) : Prop where
  own : w.ownsRow B 33 1 (.slice ao gs.length c) gs.length (gs.map fun g => .slice (some ⟨g, 0, none⟩) N N)
  len : gs.length = rows.length
  row : ∀ (i g : Nat), gs[i]? = some g → B ≤ g ∧ IR w g (rows.getD i [])
theorem RF.below {w w' : World} {B : Nat} {ao : Option Addr} {c N : Nat} {gs : List Nat} {rows : List (List Int)} (h : RF w B ao c N gs rows) (hb : Below w.heap.size w w') : RF w' B ao c N gs rows :=
  ⟨own_below h.own hb, h.len, fun i g hg => ⟨(h.row i g hg).1, (hb.block g (Array.getElem?_eq_some_iff.1 (h.row i g hg).2).1).trans (h.row i g hg).2⟩⟩
theorem infoIS : (Tryd.prog.info? 33).map (fun i => (i.zero, i.size, i.bytes)) = some (some (.slice none 0 0), 1, 24) := by kernel_rfl
/-- One more. -/
theorem RF.push {w V w' : World} {B : Nat} {ao : Option Addr} {c N : Nat} {gs : List Nat} {rows : List (List Int)} (h : RF w B ao c N gs rows) {l : List Int} (hw : IW w V l) (hB : B ≤ w.heap.size) {g cap : Nat}
    (hO : w'.ownsRow B 33 1 (.slice (some ⟨g, 0, none⟩) (gs.length + 1) cap) (gs.length + 1) ((gs.map fun g => Value.slice (some ⟨g, 0, none⟩) N N) ++ [.slice (some ⟨w.heap.size, 0, none⟩) N N])) (hg : V.grownBy w' (ob ao)) : RF w' B (some ⟨g, 0, none⟩) cap N (gs ++ [w.heap.size]) (rows ++ [l]) := by
  have h2 := h.below hw.1
  refine ⟨by rw [List.length_append, List.map_append]; exact hO, by simp [h.len], fun i x hx => ?_⟩
  rw [List.getElem?_append] at hx
  split at hx
  · next hi =>
    have h3 := h2.row i x hx
    refine ⟨h3.1, (hg.block x (Array.getElem?_eq_some_iff.1 h3.2).1 (own_ne h2.own h3.2 (by decide)).symm).trans ?_⟩
    have : (rows ++ [l]).getD i [] = rows.getD i [] := by
      rw [List.getD_eq_getElem?_getD, List.getD_eq_getElem?_getD, List.getElem?_append, if_pos (by rw [← h.len]; exact hi)]
    rw [this]
    exact h3.2
  · next hi =>
    have hi2 : i = gs.length := by
      have := (List.getElem?_eq_some_iff.1 hx).1
      simp at this
      omega
    subst hi2
    simp at hx
    subst hx
    refine ⟨hB, (hg.block _ (Array.getElem?_eq_some_iff.1 hw.2).1 (own_ne h2.own hw.2 (by decide)).symm).trans ?_⟩
    have : (rows ++ [l]).getD gs.length [] = l := by
      rw [List.getD_eq_getElem?_getD, h.len]
      simp
    rw [this]
    exact hw.2
def filN (N i : Nat) : List Int := List.replicate i (-1) ++ List.replicate (N - i) 0
theorem filN_len (N i : Nat) (h : i ≤ N) : (filN N i).length = N := by simp [filN]; omega
theorem filN_set (N i : Nat) (h : i < N) : (filN N i).set i (-1) = filN N (i + 1) := by
  unfold filN
  obtain ⟨r, hr⟩ : ∃ r, N - i = r + 1 := ⟨N - i - 1, by omega⟩
  rw [hr, show N - (i + 1) = r by omega, List.set_append_right _ _ (by simp), List.length_replicate, Nat.sub_self, List.replicate_succ, List.set_cons_zero, List.replicate_succ', List.append_assoc]
  rfl
theorem filN_all (N : Nat) : filN N N = List.replicate N (-1) := by simp [filN]
theorem filN_none (N : Nat) : filN N 0 = List.replicate N 0 := by simp [filN]
set_option maxRecDepth 100000 in
set_option maxHeartbeats 8000000 in
theorem dFar (N : Nat) (ps : List Pr) (ao : Option Addr) (k : Nat) (hN : N ≤ 64) (hv : Vl N ps) (hl : ps.length ≤ 1000000000000000) (w : World) (hA : PA w ao ps) : Calls Tryd.prog 15 #[.agg #[.int .i64 (N : Int), .slice ao ps.length k]] w fun e w' => (∃ d c gs, e = .returned (.slice d N c) ∧ RF w' w.heap.size d c N gs ((List.range N).map (dRow N ps))) ∧ Below w.heap.size w w' := by
  have hmk := run_make_row' (P := Tryd.prog) 33 3 (.int .i64 0) 8 Tryd.underlying33 infoI rfl .i64 .i64 N (by omega) (by omega)
  obtain ⟨n, hn⟩ : ∃ n, ps.length = n := ⟨_, rfl⟩
  have HL := hide hn
  rw [hn] at hl ⊢
  have HV := hide hv
  have HB0 := hide (bnew w (.cells #[.int .i64 (N : Int), .slice ao n k] 24))
  have HM0 : Hid ((w.alloc (.cells #[.int .i64 (N : Int), .slice ao n k] 24)).heap[w.heap.size]? = some (.cells #[.int .i64 (N : Int), .slice ao n k] 24 (0, 0))) := hide (heap_alloc_new _ _)
  have HA := hide hA
  clear hn hv hA
  go_enter Tryd.func15, Tryd.ntmps15
  go_wp2_with fail
  generalize w.alloc (.cells #[.int .i64 (N : Int), .slice ao n k] 24) = W1 at *
  obtain ⟨M, hM⟩ : ∃ M, w.heap.size = M := ⟨_, rfl⟩
  have HME := hide hM
  rw [hM] at HM0 ⊢
  clear hM
  go_loopw [3, 4] (fun vd vi wr => ∃ i d c gs, vi = .int .i64 ((i : Nat) : Int) ∧ i ≤ N ∧ vd = .slice d i c ∧ Hid (gs.length = i) ∧ Hid (Below w.heap.size w wr ∧ wr.heap[M]? = some (.cells #[.int .i64 (N : Int), .slice ao n k] 24 (0, 0))) ∧ Hid (RF wr w.heap.size d c N gs ((List.range i).map (dRow N ps)))) (fun _ vi _ => N - (Go.RowKit.intOf vi).toNat)
  case atStart => exact ⟨0, none, 0, [], rfl, Nat.zero_le _, rfl, hide rfl, hide ⟨HB0.out, HM0.out⟩, hide ⟨own_none _ _ _ _, rfl, fun i g h => by simp at h⟩⟩
  case round =>
    clear HB0 HM0
    obtain ⟨i, d, c, gs, rfl, hi, rfl, HGL, HBM, HR⟩ := hrel
    generalize wr = V0 at *
    obtain ⟨x0, x1, x2⟩ := m_cells HBM.out.2
    by_cases h : i < N
    · have hd : decide ((i : Int) < (N : Int)) = true := decide_eq_true (by omega)
      have hiN : (i : Int) < (N : Int) := by omega
      have HW0 := hide (IW.start V0 N)
      go_wp2_with fail
      generalize V0.alloc (.cells (madeCells #[.int .i64 0] N) 3) = W2 at *
      obtain ⟨G, hG⟩ : ∃ G, V0.heap.size = G := ⟨_, rfl⟩
      have HG := hide hG
      rw [hG] at x2 ⊢
      clear hG
      go_loopw [6] (fun vt wr => ∃ t : Nat, vt = .int .i64 (t : Int) ∧ t ≤ N ∧ Hid (IW V0 wr (filN N t))) (fun vt _ => N - (Go.RowKit.intOf vt).toNat)
      case atStart => exact ⟨0, rfl, Nat.zero_le _, hide (by rw [filN_none]; exact HW0.out)⟩
      case round =>
        clear HW0
        obtain ⟨t, rfl, ht, HW⟩ := hrel
        obtain ⟨y0, y1, y2⟩ := m_cells ((HW.out.1.block M (by rw [HG.out]; exact x2)).trans HBM.out.2)
        by_cases h2 : t < N
        · have hd2 : decide ((t : Int) < (N : Int)) = true := decide_eq_true (by omega)
          have htt : (t : Int) < (N : Int) := by omega
          obtain ⟨z0, z1, z2⟩ := HW.out.2.cell (j := t) (by rw [filN_len N t ht]; exact h2)
          have HW2 := hide (HW.out.put t (-1))
          rw [filN_set N t h2] at HW2
          rw [HG.out] at z0 z1 z2 HW2
          generalize (filN N t).getD t 0 = old at *
          go_wp2_with fail
          go_roundw
          case rel => exact ⟨t + 1, by go_num, by omega, HW2⟩
          case measure => simp [Go.RowKit.intOf]; omega
        · have hte : t = N := by omega
          have hd2 : decide ((t : Int) < (N : Int)) = false := decide_eq_false (by omega)
          obtain ⟨z0, z1, z2⟩ := HW.out.2.cell (j := i) (by rw [filN_len N t ht]; exact h)
          have HW2 : Hid (IW V0 (wr.setCell ⟨G, i, none⟩ (.int .i64 0)) (dS N ps i 0)) := hide (by
            have := HW.out.put i 0
            rw [hte, filN_all, HG.out] at this
            exact this)
          rw [HG.out] at z0 z1 z2
          generalize (filN N t).getD i 0 = old at *
          clear HW hte
          go_wp2_with fail
          generalize wr.setCell ⟨G, i, none⟩ (.int .i64 0) = W3 at *
          go_loopw [7] (fun vs wr => ∃ s : Nat, vs = .int .i64 (s : Int) ∧ s ≤ N ∧ Hid (IW V0 wr (dS N ps i s))) (fun vs _ => N - (Go.RowKit.intOf vs).toNat)
          case atStart => exact ⟨0, rfl, Nat.zero_le _, HW2⟩
          case round =>
            clear HW2
            obtain ⟨s, rfl, hs, HW⟩ := hrel
            obtain ⟨y0, y1, y2⟩ := m_cells ((HW.out.1.block M (by rw [HG.out]; exact x2)).trans HBM.out.2)
            by_cases h3 : s < N
            · have hd3 : decide ((s : Int) < (N : Int)) = true := decide_eq_true (by omega)
              go_wp2_with fail
              go_loopw [8] (fun vt wr => ∃ t : Nat, vt = .int .i64 (t : Int) ∧ t ≤ n ∧ Hid (IW V0 wr (stI s ps (dS N ps i s) t))) (fun vt _ => n - (Go.RowKit.intOf vt).toNat)
              case atStart => exact ⟨0, rfl, Nat.zero_le _, HW⟩
              case round =>
                clear HW
                obtain ⟨t, rfl, ht, HW⟩ := hrel
                obtain ⟨y0, y1, y2⟩ := m_cells ((HW.out.1.block M (by rw [HG.out]; exact x2)).trans HBM.out.2)
                have hll : (stI s ps (dS N ps i s) t).length = N := by rw [stI_len, dS_len]
                by_cases h4 : t < n
                · have hd4 : decide ((t : Int) < (n : Int)) = true := decide_eq_true (by omega)
                  have htt : (t : Int) < (n : Int) := by omega
                  obtain ⟨⟨pa, pb⟩, hp⟩ : ∃ p, ps[t]? = some p := ⟨_, List.getElem?_eq_getElem (by rw [HL.out]; exact h4)⟩
                  obtain ⟨v1, v2, v3, v4⟩ := HV.out _ (List.mem_of_getElem? hp)
                  simp only at v1 v2 v3 v4
                  obtain ⟨a, rfl⟩ : ∃ a : Nat, pa = (a : Int) := ⟨pa.toNat, by omega⟩
                  obtain ⟨b, rfl⟩ : ∃ b : Nat, pb = (b : Int) := ⟨pb.toNat, by omega⟩
                  have hST : stI s ps (dS N ps i s) (t + 1) = st1 s b a (st1 s a b (stI s ps (dS N ps i s) t)) := by
                    have hg : ps.getD t (0, 0) = ((a : Int), (b : Int)) := by simp [List.getD, hp]
                    simp only [stI, stP, hg, Int.toNat_natCast]
                  have HST := hide hST
                  rcases (HA.out.below (HBM.out.1.trans (HW.out.1.mono (by have := HBM.out.1.size; omega)))) with hpa | ⟨gp, op, hao, hpa⟩
                  · rw [hpa] at hp
                    simp at hp
                  subst hao
                  obtain ⟨k2, k3⟩ := hpa t _ hp
                  simp only at k2 k3
                  have hgp := World.block_lt_of_cell? _ _ k2
                  have haN : a < N := by omega
                  have hbN : b < N := by omega
                  have HLL := hide hll
                  generalize stI s ps (dS N ps i s) t = l at *
                  clear hpa hp hST v1 v3 hll
                  go_wp2_with fail
                  go_region
                  have HW1 := hide HW.out.drew
                  have hsi : (s : Int) < (N : Int) := by omega
                  generalize wr.drew = V1 at *
                  clear HW
                  obtain ⟨p0, p1, p2⟩ := HW1.out.2.cell (j := a) (by rw [HLL.out]; exact haN)
                  obtain ⟨q0, q1, q2⟩ := HW1.out.2.cell (j := b) (by rw [HLL.out]; exact hbN)
                  rw [HG.out] at p0 p1 p2 q0 q1 q2
                  have haI : (a : Int) < (N : Int) := by omega
                  have hbI : (b : Int) < (N : Int) := by omega
                  by_cases ha : l.getD a 0 = (s : Int)
                  · by_cases gb : l.getD b 0 < 0
                    · have ea : (l.getD a 0 == (s : Int)) = true := beq_iff_eq.2 ha
                      have db : decide (l.getD b 0 < 0) = true := decide_eq_true gb
                      have HN : Hid (IW V0 (V1.setCell ⟨G, b, none⟩ (.int .i64 ((s : Int) + 1))) (stI s ps (dS N ps i s) (t + 1))) := hide (by
                        rw [HST.out, show st1 s a b l = l.set b ((s : Int) + 1) from if_pos ⟨ha, gb⟩, show st1 s b a (l.set b ((s : Int) + 1)) = l.set b ((s : Int) + 1) from if_neg (fun e => by
                          have := e.1
                          rw [gset _ _ _ _ (by rw [HLL.out]; exact hbN), if_pos rfl] at this
                          omega)]
                        have := HW1.out.put b ((s : Int) + 1)
                        rw [HG.out] at this
                        exact this)
                      have e9 : (((s : Int) + 1) == (s : Int)) = false := beq_eq_false_iff_ne.2 (by omega)
                      clear ha gb
                      clear HW1 HLL
                      generalize l.getD b 0 = vb at *
                      generalize l.getD a 0 = va at *
                      go_wp2_with fail
                      go_roundw
                      case rel => exact ⟨t + 1, by go_num, by omega, HN⟩
                      case measure => simp [Go.RowKit.intOf]; omega
                    · by_cases hb : l.getD b 0 = (s : Int)
                      · have ea : (l.getD a 0 == (s : Int)) = true := beq_iff_eq.2 ha
                        have db : decide (l.getD b 0 < 0) = false := decide_eq_false gb
                        have eb : (l.getD b 0 == (s : Int)) = true := beq_iff_eq.2 hb
                        have ga : ¬ l.getD a 0 < 0 := by omega
                        have da : decide (l.getD a 0 < 0) = false := decide_eq_false ga
                        have HN : Hid (IW V0 V1 (stI s ps (dS N ps i s) (t + 1))) := hide (by
                          rw [HST.out, show st1 s a b l = l from if_neg (fun e => gb e.2), show st1 s b a l = l from if_neg (fun e => ga e.2)]
                          exact HW1.out)
                        clear ha gb hb ga
                        clear HW1 HLL
                        generalize l.getD b 0 = vb at *
                        generalize l.getD a 0 = va at *
                        go_wp2_with fail
                        go_roundw
                        case rel => exact ⟨t + 1, by go_num, by omega, HN⟩
                        case measure => simp [Go.RowKit.intOf]; omega
                      · have ea : (l.getD a 0 == (s : Int)) = true := beq_iff_eq.2 ha
                        have db : decide (l.getD b 0 < 0) = false := decide_eq_false gb
                        have eb : (l.getD b 0 == (s : Int)) = false := beq_eq_false_iff_ne.2 hb
                        have HN : Hid (IW V0 V1 (stI s ps (dS N ps i s) (t + 1))) := hide (by
                          rw [HST.out, show st1 s a b l = l from if_neg (fun e => gb e.2), show st1 s b a l = l from if_neg (fun e => hb e.1)]
                          exact HW1.out)
                        clear ha gb hb
                        clear HW1 HLL
                        generalize l.getD b 0 = vb at *
                        generalize l.getD a 0 = va at *
                        go_wp2_with fail
                        go_roundw
                        case rel => exact ⟨t + 1, by go_num, by omega, HN⟩
                        case measure => simp [Go.RowKit.intOf]; omega
                  · by_cases hb : l.getD b 0 = (s : Int)
                    · by_cases ga : l.getD a 0 < 0
                      · have ea : (l.getD a 0 == (s : Int)) = false := beq_eq_false_iff_ne.2 ha
                        have eb : (l.getD b 0 == (s : Int)) = true := beq_iff_eq.2 hb
                        have da : decide (l.getD a 0 < 0) = true := decide_eq_true ga
                        have HN : Hid (IW V0 (V1.setCell ⟨G, a, none⟩ (.int .i64 ((s : Int) + 1))) (stI s ps (dS N ps i s) (t + 1))) := hide (by
                          rw [HST.out, show st1 s a b l = l from if_neg (fun e => ha e.1), show st1 s b a l = l.set a ((s : Int) + 1) from if_pos ⟨hb, ga⟩]
                          have := HW1.out.put a ((s : Int) + 1)
                          rw [HG.out] at this
                          exact this)
                        clear ha hb ga
                        clear HW1 HLL
                        generalize l.getD b 0 = vb at *
                        generalize l.getD a 0 = va at *
                        go_wp2_with fail
                        go_roundw
                        case rel => exact ⟨t + 1, by go_num, by omega, HN⟩
                        case measure => simp [Go.RowKit.intOf]; omega
                      · have ea : (l.getD a 0 == (s : Int)) = false := beq_eq_false_iff_ne.2 ha
                        have eb : (l.getD b 0 == (s : Int)) = true := beq_iff_eq.2 hb
                        have da : decide (l.getD a 0 < 0) = false := decide_eq_false ga
                        have HN : Hid (IW V0 V1 (stI s ps (dS N ps i s) (t + 1))) := hide (by
                          rw [HST.out, show st1 s a b l = l from if_neg (fun e => ha e.1), show st1 s b a l = l from if_neg (fun e => ga e.2)]
                          exact HW1.out)
                        clear ha hb ga
                        clear HW1 HLL
                        generalize l.getD b 0 = vb at *
                        generalize l.getD a 0 = va at *
                        go_wp2_with fail
                        go_roundw
                        case rel => exact ⟨t + 1, by go_num, by omega, HN⟩
                        case measure => simp [Go.RowKit.intOf]; omega
                    · have ea : (l.getD a 0 == (s : Int)) = false := beq_eq_false_iff_ne.2 ha
                      have eb : (l.getD b 0 == (s : Int)) = false := beq_eq_false_iff_ne.2 hb
                      have HN : Hid (IW V0 V1 (stI s ps (dS N ps i s) (t + 1))) := hide (by
                        rw [HST.out, show st1 s a b l = l from if_neg (fun e => ha e.1), show st1 s b a l = l from if_neg (fun e => hb e.1)]
                        exact HW1.out)
                      clear ha hb
                      clear HW1 HLL
                      generalize l.getD b 0 = vb at *
                      generalize l.getD a 0 = va at *
                      go_wp2_with fail
                      go_roundw
                      case rel => exact ⟨t + 1, by go_num, by omega, HN⟩
                      case measure => simp [Go.RowKit.intOf]; omega
                · have hte : t = n := by omega
                  have hd4 : decide ((t : Int) < (n : Int)) = false := decide_eq_false (by omega)
                  have HW2 : Hid (IW V0 wr (dS N ps i (s + 1))) := hide (by
                    have := HW.out
                    rw [hte, ← HL.out] at this
                    exact this)
                  clear hte hll HW
                  go_wp2_with fail
                  go_roundw
                  case rel => exact ⟨s + 1, by go_num, by omega, HW2⟩
                  case measure => simp [Go.RowKit.intOf]; omega
            · have hse : s = N := by omega
              have hd3 : decide ((s : Int) < (N : Int)) = false := decide_eq_false (by omega)
              have HW3 : Hid (IW V0 wr (dRow N ps i)) := hide (by
                have := HW.out
                rw [hse] at this
                exact this)
              clear hse HW
              have hl3 : gs.length = i := HGL.out
              have HRB := hide (HR.out.below HW3.out.1)
              have HO : Hid (wr.ownsRow w.heap.size 33 1 (.slice d i c) i (gs.map fun g => .slice (some ⟨g, 0, none⟩) N N)) := hide (by
                have := HRB.out.own
                rw [hl3] at this
                exact this)
              have HSZ : Hid (w.heap.size ≤ wr.heap.size) := hide (by
                have := HBM.out.1.size
                have := HW3.out.1.size
                omega)
              clear hl3
              go_wp2_with (at_builtin; refine wpList_pushN rfl _ _ 25 rfl 33 Tryd.underlying25 _ 1 24 infoIS rfl (by decide) w.heap.size d i c _ rfl HO.out [.slice (some ⟨G, 0, none⟩) N N] _ rfl rfl (by simp [Value.oneCell']) wr.heap.size (by simp) rfl (by omega) (by omega) HSZ.out ?_)
              intro g3 cap w3 hO hgr _
              have HR3 : Hid (RF w3 w.heap.size (some ⟨g3, 0, none⟩) cap N (gs ++ [V0.heap.size]) ((List.range (i + 1)).map (dRow N ps))) := hide (by
                rw [List.range_succ, List.map_append]
                exact RF.push HR.out HW3.out HBM.out.1.size (by rw [HG.out, HGL.out]; exact hO) hgr)
              have HBM3 : Hid (Below w.heap.size w w3 ∧ w3.heap[M]? = some (.cells #[.int .i64 (N : Int), .slice ao n k] 24 (0, 0))) := hide (by
                have h1 := (HW3.out.1.block M (by rw [HG.out]; exact x2)).trans HBM.out.2
                refine ⟨(HBM.out.1.trans (HW3.out.1.mono HBM.out.1.size)).grown hgr HSZ.out (fun k hk => (own_lt HRB.out.own k hk).1), (hgr.block M (Array.getElem?_eq_some_iff.1 h1).1 (own_ne HRB.out.own h1 (by decide)).symm).trans h1⟩)
              have HL3 : Hid ((gs ++ [V0.heap.size]).length = i + 1) := hide (by simp [HGL.out])
              clear hO hgr
              go_wp2_with fail
              go_roundw
              case rel => exact ⟨i + 1, some ⟨g3, 0, none⟩, cap, gs ++ [V0.heap.size], by go_num, by omega, rfl, HL3, HBM3, HR3⟩
              case measure => simp [Go.RowKit.intOf]; omega
    · have hie : i = N := by omega
      have hd : decide ((i : Int) < (N : Int)) = false := decide_eq_false (by omega)
      go_wp2_with fail
      go_ret
      refine ⟨⟨d, c, gs, by rw [hie]; rfl, by have := HR.out; rwa [hie] at this⟩, HBM.out.1⟩
end Go.Proofs.YtcgjnmdcmjoiiaaDoor.Rou
