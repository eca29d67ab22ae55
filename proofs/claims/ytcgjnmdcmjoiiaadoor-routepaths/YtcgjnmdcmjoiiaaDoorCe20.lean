/- Layer 20: the law of paths. -/
import Derived.Test.YtcgjnmdcmjoiiaaDoorCd20
namespace Go.Proofs.YtcgjnmdcmjoiiaaDoor.Rou
open Go.RowKit

theorem bkp2 {w V U : World} (h1 : Below w.heap.size w V) (h2 : Below V.heap.size V U) : Below w.heap.size w U := h1.trans (h2.mono h1.size)
/-- Rows that are the caller's own, the first of them overwritten. -/
structure DX (w : World) (g0 N i : Nat) (G K : Nat → Nat) (rows : Nat → List Int) : Prop where
  hd : ∀ j, j < N → w.cell? ⟨g0, j, none⟩ = some (.slice (some ⟨G j, 0, none⟩) N (K j))
  row : ∀ j, i ≤ j → j < N → ∃ cs : Array Value, w.heap[G j]? = some (.cells cs 3 (0, 0)) ∧ cs.toList.take N = iv (rows j)
theorem RG.dx {w : World} {B g0 N : Nat} {G K : Nat → Nat} {rows : Nat → List Int} (h : RG w B g0 N N G K rows) : DX w g0 N 0 G K rows :=
  ⟨fun j hj => by have := h.at.1 j hj; rwa [if_pos hj] at this, fun j _ hj => h.row j hj⟩
theorem DX.below {w w' : World} {g0 N i : Nat} {G K : Nat → Nat} {rows : Nat → List Int} (h : DX w g0 N i G K rows) (hb : Below w.heap.size w w') : DX w' g0 N i G K rows :=
  ⟨fun j hj => cellB (h.hd j hj) hb, fun j h1 h2 => by
    obtain ⟨cs, h3, h4⟩ := h.row j h1 h2
    exact ⟨cs, keep h3 hb, h4⟩⟩
theorem DX.cell {w : World} {g0 N i : Nat} {G K : Nat → Nat} {rows : Nat → List Int} (h : DX w g0 N i G K rows) {j : Nat} (hi : i ≤ j) (hj : j < N) : ∀ (k : Nat) z, (rows j)[k]? = some z → k < N → w.cell? ⟨G j, k, none⟩ = some (.int .i64 z) := fun k z hz hk => by
  obtain ⟨cs, h1, h2⟩ := h.row j hi hj
  rw [cell_of_row _ _ k _ _ _ h1, ← Array.getElem?_toList]
  have h3 : (cs.toList.take N)[k]? = cs.toList[k]? := by rw [List.getElem?_take, if_pos hk]
  rw [← h3, h2]
  exact iv_at hz
/-- A number in the row at hand. -/
theorem DX.put {w : World} {g0 N i : Nat} {G K : Nat → Nat} {rows : Nat → List Int} (h : DX w g0 N (i + 1) G K rows) (hdf : ∀ j j', j < N → j' < N → j ≠ j' → G j ≠ G j') (hi : i < N) {cs : Array Value} (hc : w.heap[G i]? = some (.cells cs 3 (0, 0))) (hg : g0 ≠ G i) (k : Nat) (z : Int) : DX (w.setCell ⟨G i, k, none⟩ (.int .i64 z)) g0 N (i + 1) G K rows ∧ (w.setCell ⟨G i, k, none⟩ (.int .i64 z)).heap[G i]? = some (.cells (cs.setIfInBounds k (.int .i64 z)) 3 (0, 0)) := by
  rw [setCell_eq_setRow _ _ _ _ _ _ _ hc]
  refine ⟨⟨fun j hj => ?_, fun j h1 h2 => ?_⟩, setRow_heap _ _ _ _ _ _ hc⟩
  · rw [← h.hd j hj]
    exact World.cell?_of_block (setRow_other _ _ _ _ hg)
  · obtain ⟨c, h3, h4⟩ := h.row j h1 h2
    exact ⟨c, (setRow_other _ _ _ _ (hdf j i h2 hi (by omega))).trans h3, h4⟩
theorem RR.put {w : World} {g0 N gi : Nat} {G K : Nat → Nat} {rows : Nat → List Int} (h : RR w g0 N G K rows) {cs : Array Value} (hc : w.heap[gi]? = some (.cells cs 3 (0, 0))) (h0 : g0 ≠ gi) (hG : ∀ i, i < N → G i ≠ gi) (k : Nat) (z : Int) : RR (w.setCell ⟨gi, k, none⟩ (.int .i64 z)) g0 N G K rows := by
  rw [setCell_eq_setRow _ _ _ _ _ _ _ hc]
  exact ⟨fun i hi => by rw [← h.hd i hi]; exact World.cell?_of_block (setRow_other _ _ _ _ h0), fun i j hi hj => by rw [← h.row i j hi hj]; exact World.cell?_of_block (setRow_other _ _ _ _ (hG i hi))⟩
/-- Where the rows lie. -/
structure ST (B g0 g1 n : Nat) (G G2 : Nat → Nat) : Prop where
  lo : ∀ j, j < n → B ≤ G j
  df : ∀ j j', j < n → j' < n → j ≠ j' → G j ≠ G j'
  h0 : ∀ j, j < n → g0 ≠ G j
  h1 : ∀ j, j < n → g1 ≠ G j
  h2 : ∀ j j', j < n → j' < n → G2 j' ≠ G j
theorem ST.mk' {w2 : World} {B g0 g1 n : Nat} {G K G2 : Nat → Nat} {rows : Nat → List Int} (h : RG w2 B g0 n n G K rows) (hg : w2.heap.size ≤ g1) (hG : ∀ i, i < n → w2.heap.size ≤ G2 i) : ST B g0 g1 n G G2 := by
  have hlt : ∀ j, j < n → G j < w2.heap.size := fun j hj => by
    obtain ⟨cs, h1, -⟩ := h.row j hj
    exact (Array.getElem?_eq_some_iff.1 h1).1
  refine ⟨h.lo.2, h.df, fun j hj e => ?_, fun j hj e => ?_, fun j j' hj hj' e => ?_⟩
  · obtain ⟨cs, h1, -⟩ := h.row j hj
    rw [← e, h.hd] at h1
    simp at h1
  · have := hlt j hj; omega
  · have := hlt j hj; have := hG j' hj'; omega
theorem dx_na {w : World} {g0 N i : Nat} {G K : Nat → Nat} {rows : Nat → List Int} (h : DX w g0 N i G K rows) {j : Nat} (hi : i ≤ j) (hj : j < N) (hl : (rows j).length = N) : NA w (some ⟨G j, 0, none⟩) (rows j) :=
  .inr ⟨G j, rfl, fun k z hz => h.cell hi hj k z hz (by rw [← hl]; exact (List.getElem?_eq_some_iff.1 hz).1)⟩
theorem rr_na {w : World} {g0 N : Nat} {G K : Nat → Nat} {rows : Nat → List Int} (h : RR w g0 N G K rows) {j : Nat} (hj : j < N) (hl : (rows j).length = N) : NA w (some ⟨G j, 0, none⟩) (rows j) :=
  .inr ⟨G j, rfl, fun k z hz => by
    have hk : k < N := by rw [← hl]; exact (List.getElem?_eq_some_iff.1 hz).1
    have := h.row j k hj hk
    rw [this]
    simp [List.getD, hz]⟩
set_option maxRecDepth 100000 in
set_option maxHeartbeats 8000000 in
theorem xRoutePaths (N : Int) (ps : List Pr) (ao : Option Addr) (k : Nat) (a b : Int) (hl : ps.length ≤ 1000000000000000) (w : World) (hA : PA w ao ps) (hG : GT w) : Calls Tryd.prog 3 #[.agg #[.int .i64 N, .slice ao ps.length k], .int .i64 a, .int .i64 b] w fun e w' => e = .returned (.bool true) ∧ Below w.heap.size w w' := by
  obtain ⟨n, z, hF⟩ := far_is N ps
  obtain ⟨l, y, hP⟩ := path_is N ps a b
  have hn64 : n ≤ 64 := by
    rcases hF with ⟨-, h, -⟩ | ⟨h1, h, -⟩
    · omega
    · have := h1.2.1; omega
  have hll : l.length ≤ 1000 := by
    rcases hP with ⟨-, h, -⟩ | ⟨-, -, h, -⟩ | ⟨-, -, -, h, -⟩ | ⟨h1, h2, h3, h, -⟩
    · rw [h]; simp
    · rw [h]; simp
    · rw [h]; simp
    · rw [h, pth, List.length_cons, pt_len]
      obtain ⟨N', hN⟩ : ∃ m : Nat, N = (m : Int) := ⟨N.toNat, by omega⟩
      subst hN
      have := Dd_hi h1 (a := a.toNat) (b := b.toNat) (by omega) (by omega)
      have := h1.2.1
      simp only [Int.toNat_natCast]
      omega
  have cf := fun W h => rFarR N ps ao k n z hF hl W h
  have df := fun W h => dFarR N ps ao k n z hF hl W h
  have cp := fun W h => rPath N ps ao k a b l y hP hl W h
  have dp := fun W h => dPath N ps ao k a b l y hP hl W h
  have HG := hide hG
  have HB := hide (bnew w (.cells #[.int .i64 N, .slice ao ps.length k] 24))
  have HA := hide (hA.below HB.out)
  have HM := hide (heap_alloc_new w (.cells #[.int .i64 N, .slice ao ps.length k] 24))
  generalize ps.length = m at *
  have ezz : (z != z) = false := by simp
  have enn : ((n : Int) != (n : Int)) = false := by simp
  clear hF hP hA hG
  go_enter Tryd.func3, Tryd.ntmps3
  go_wp2_with fail
  generalize w.alloc (.cells #[.int .i64 N, .slice ao m k] 24) = W1 at *
  obtain ⟨M, hMM⟩ : ∃ M, w.heap.size = M := ⟨_, rfl⟩
  have HME := hide hMM
  rw [hMM] at HM ⊢
  clear hMM
  go_loopw [7] (fun vt wr => ∃ t : Nat, vt = .int .i64 (t : Int) ∧ t ≤ 2 ∧ Hid (Below W1.heap.size W1 wr)) (fun vt _ => 2 - (Go.RowKit.intOf vt).toNat)
  case atStart => exact ⟨0, rfl, Nat.zero_le _, hide (Below.refl _ _)⟩
  case round =>
    obtain ⟨t, rfl, ht, HW⟩ := hrel
    generalize wr = V0 at *
    obtain ⟨x0, x1, x2⟩ := m_cells (keep HM.out HW.out)
    have HAw := hide (HA.out.below HW.out)
    by_cases h : t < 2
    · have hd : decide ((t : Int) < 2) = true := decide_eq_true (by omega)
      go_wp2_with (first | (go_at_call 5; (with_reducible refine Calls.mono (cf _ HAw.out) ?_); rintro e w2 ⟨⟨d1, c1, g0, G, K, rfl, hd1⟩, hb2⟩; have HD1 := hide hd1; have HB2 := hide hb2; have HA2 := hide (HAw.out.below hb2); obtain ⟨y0, y1, y2⟩ := m_cells (keep (keep HM.out HW.out) hb2); clear hd1 hb2) | (go_at_call 6; (with_reducible refine Calls.mono (df _ HA2.out) ?_); rintro e w3 ⟨⟨d2, c2, g1, G2, rfl, hd2⟩, hb3⟩; have HD2 := hide hd2; have HB3 := hide hb3; clear hd2 hb3) | (go_at_call 7; (with_reducible refine Calls.mono (rNumZ _ _) ?_); rintro e w9 ⟨rfl, rfl⟩))
      have HEN : Hid (n = 0 ∨ (d1 = some ⟨g0, 0, none⟩ ∧ d2 = some ⟨g1, 0, none⟩ ∧ ST V0.heap.size g0 g1 n G G2)) := hide (by
        rcases HD1.out with h1 | ⟨h1, h2⟩
        · exact .inl h1
        · rcases HD2.out with h3 | ⟨h3, h4, h5, h6⟩
          · exact .inl h3
          · exact .inr ⟨h1, h3, ST.mk' h2 h5 h6⟩)
      have HX0 : Hid (n = 0 ∨ (DX w9 g0 n 0 G K (dRow n ps) ∧ RR w9 g1 n G2 (fun _ => n) (dRow n ps))) := hide (by
        rcases HD1.out with h1 | ⟨h1, h2⟩
        · exact .inl h1
        · rcases HD2.out with h3 | ⟨h3, h4, h5, h6⟩
          · exact .inl h3
          · exact .inr ⟨h2.dx.below HB3.out, h4⟩)
      have HW3 := hide (bkp HB2.out HB3.out)
      clear HD1 HD2 HB2 HB3 HA2 y0 y1 y2 x0 x1 x2
      go_loopw [12] (fun vi wx => ∃ i : Nat, vi = .int .i64 (i : Int) ∧ i ≤ n ∧ Hid (Below V0.heap.size V0 wx) ∧ Hid (n = 0 ∨ (DX wx g0 n i G K (dRow n ps) ∧ RR wx g1 n G2 (fun _ => n) (dRow n ps)))) (fun vi _ => n - (Go.RowKit.intOf vi).toNat)
      case atStart => exact ⟨0, rfl, Nat.zero_le _, HW3, HX0⟩
      case round =>
        clear HW3 HX0
        obtain ⟨i, rfl, hi, HWX, HX⟩ := hrel
        generalize wr = V2 at *
        by_cases h2 : i < n
        · have hd2 : decide ((i : Int) < (n : Int)) = true := decide_eq_true (by omega)
          have hii : (i : Int) < (n : Int) := by omega
          obtain ⟨rfl, rfl, hst⟩ := HEN.out.resolve_left (by omega)
          obtain ⟨hdx, hrr⟩ := HX.out.resolve_left (by omega)
          have HST := hide hst
          have HDX := hide hdx
          have HRR := hide hrr
          have p1 := hdx.hd i h2
          have p2 := hrr.hd i h2
          have HIN : Hid (∀ V, Below V2.heap.size V2 V → Calls Tryd.prog 8 #[.slice (some ⟨G i, 0, none⟩) n (K i), .slice (some ⟨G2 i, 0, none⟩) n n] V fun e w' => e = .returned (.bool true) ∧ Below V.heap.size V w') := hide (fun V hV => by
            have := rInts (dRow n ps i) (some ⟨G i, 0, none⟩) (some ⟨G2 i, 0, none⟩) (K i) n (by rw [dR_len]; omega) V ((dx_na hdx (Nat.le_refl i) h2 (dR_len n ps i)).below hV) ((rr_na hrr h2 (dR_len n ps i)).below hV)
            rw [dR_len] at this
            exact this)
          have HS : Hid (∀ V, Below V2.heap.size V2 V → Below V2.heap.size V2 V ∧ V.cell? ⟨g0, i, none⟩ = some (.slice (some ⟨G i, 0, none⟩) n (K i)) ∧ V.cell? ⟨g1, i, none⟩ = some (.slice (some ⟨G2 i, 0, none⟩) n n)) := hide (fun V h => ⟨h, cellB p1 h, cellB p2 h⟩)
          have hbD : Below V2.heap.size V2 V2.drew := drewB (Below.refl _ _)
          clear hst hdx hrr HEN HX
          go_wp2_with fail
          clear p1 p2
          go_region_held3 (fun V => Below V2.heap.size V2 V ∧ V.cell? ⟨g0, i, none⟩ = some (.slice (some ⟨G i, 0, none⟩) n (K i)) ∧ V.cell? ⟨g1, i, none⟩ = some (.slice (some ⟨G2 i, 0, none⟩) n n))
            (first | (with_reducible exact HS.out _ (by assumption)) | (with_reducible assumption))
            (first
              | (go_at_call 8; (with_reducible refine Calls.mono (HIN.out _ (‹Below V2.heap.size V2 _ ∧ _›.1)) ?_); rintro e v ⟨rfl, q⟩; have hbx := bkp (‹Below V2.heap.size V2 _ ∧ _›.1) q))
          have HBv : Hid (Below V0.heap.size V0 v) := hide (bkp HWX.out hbx)
          have hdv := HDX.out.below hbx
          have HDV : Hid (DX v g0 n (i + 1) G K (dRow n ps)) := hide ⟨hdv.hd, fun j h1 h2 => hdv.row j (by omega) h2⟩
          have HRV := hide (HRR.out.below hbx)
          have HCV : Hid (∃ cs : Array Value, v.heap[G i]? = some (.cells cs 3 (0, 0)) ∧ n ≤ cs.size) := hide (by
            obtain ⟨cs, h1, h3⟩ := hdv.row i (Nat.le_refl _) h2
            refine ⟨cs, h1, ?_⟩
            have := congrArg List.length h3
            rw [iv_len, dR_len, List.length_take] at this
            simp at this
            omega)
          clear hdv hbx HDX HRR HWX HIN HS hbD
          generalize v = V3 at *
          go_wp2_with fail
          go_loopw [13] (fun vk wx => ∃ q : Nat, vk = .int .i64 (q : Int) ∧ q ≤ n ∧ Hid (Below V0.heap.size V0 wx) ∧ Hid (DX wx g0 n (i + 1) G K (dRow n ps)) ∧ Hid (RR wx g1 n G2 (fun _ => n) (dRow n ps)) ∧ Hid (∃ cs : Array Value, wx.heap[G i]? = some (.cells cs 3 (0, 0)) ∧ n ≤ cs.size)) (fun vk _ => n - (Go.RowKit.intOf vk).toNat)
          case atStart => exact ⟨0, rfl, Nat.zero_le _, HBv, HDV, HRV, HCV⟩
          case round =>
            clear HBv HDV HRV HCV
            obtain ⟨q, rfl, hq, HBv, HDV, HRV, HCV⟩ := hrel
            have p1 := HDV.out.hd i h2
            by_cases h3 : q < n
            · have hd3 : decide ((q : Int) < (n : Int)) = true := decide_eq_true (by omega)
              have hqq : (q : Int) < (n : Int) := by omega
              obtain ⟨cs, hc1, hc2⟩ := HCV.out
              obtain ⟨old, hold⟩ : ∃ o, wr.cell? ⟨G i, q, none⟩ = some o := ⟨_, (cell_of_row _ _ q _ _ _ hc1).trans (Array.getElem?_eq_getElem (by omega))⟩
              have hfz := fz hc1 q
              have hgi := World.block_lt_of_cell? _ _ hold
              have HP := hide (HDV.out.put HST.out.df h2 hc1 (HST.out.h0 i h2) q 77)
              have HRP := hide (HRV.out.put hc1 (HST.out.h1 i h2) (fun j hj => HST.out.h2 i j h2 hj) q 77)
              have HBP : Hid (Below V0.heap.size V0 (wr.setCell ⟨G i, q, none⟩ (.int .i64 77))) := hide (by
                rw [setCell_eq_setRow _ _ _ _ _ _ _ hc1]
                exact brow HBv.out _ _ (HST.out.lo i h2))
              have HCP : Hid (∃ cs : Array Value, (wr.setCell ⟨G i, q, none⟩ (.int .i64 77)).heap[G i]? = some (.cells cs 3 (0, 0)) ∧ n ≤ cs.size) := hide ⟨_, HP.out.2, by simpa using hc2⟩
              clear hc1 hc2
              go_wp2_with fail
              go_roundw
              case rel => exact ⟨q + 1, by go_num, by omega, HBP, hide HP.out.1, HRP, HCP⟩
              case measure => simp [Go.RowKit.intOf]; omega
            · have hd3 : decide ((q : Int) < (n : Int)) = false := decide_eq_false (by omega)
              go_wp2_with fail
              go_roundw
              case rel => exact ⟨i + 1, by go_num, by omega, HBv, hide (.inr ⟨HDV.out, HRV.out⟩)⟩
              case measure => simp [Go.RowKit.intOf]; omega
        · have hd2 : decide ((i : Int) < (n : Int)) = false := decide_eq_false (by omega)
          go_wp2_with fail
          go_roundw
          case rel => exact ⟨t + 1, by go_num, by omega, hide (bkp HW.out HWX.out)⟩
          case measure => simp [Go.RowKit.intOf]; omega
    · have hd : decide ((t : Int) < 2) = false := decide_eq_false (by omega)
      have eyy : (y == y) = true := beq_self_eq_true y
      go_wp2_with (first | (go_at_call 9; (with_reducible refine Calls.mono (cp _ HAw.out) ?_); rintro e w5 ⟨⟨a5, c5, rfl, hq5⟩, hb5⟩; have HQ5 := hide hq5; have HB5 := hide hb5; have HA5 := hide (HAw.out.below hb5); obtain ⟨y0, y1, y2⟩ := m_cells (keep (keep HM.out HW.out) hb5); clear hq5 hb5) | (go_at_call 10; (with_reducible refine Calls.mono (dp _ HA5.out) ?_); rintro e w6 ⟨⟨a6, c6, rfl, hq6⟩, hb6⟩; have HB6 := hide (bkp HB5.out hb6); have ci := rInts (l.map fun (k : Nat) => (k : Int)) a5 a6 c5 c6 (by rw [List.length_map]; omega) w6 (HQ5.out.na.below hb6) hq6.na; rw [List.length_map] at ci; clear hq6 hb6) | (go_at_call 7; (with_reducible refine Calls.mono (rNumZ _ _) ?_); rintro e w9 ⟨rfl, rfl⟩) | (go_at_call 8; (with_reducible refine Calls.mono ci ?_); rintro e w7 ⟨rfl, hb7⟩; have HB7 := hide (bkp HB6.out hb7); clear hb7) | (go_at_call 11; (with_reducible refine Calls.mono (rAlive _ (((HG.out.below HB.out).below HW.out).below HB7.out)) ?_); rintro e w8 ⟨rfl, hb8⟩; have HB8 := hide (bkp HB7.out hb8); clear hb8))
      go_ret
      exact ⟨rfl, bkp (bkp HB.out HW.out) HB8.out⟩
end Go.Proofs.YtcgjnmdcmjoiiaaDoor.Rou
