/- Layer 20: the document's Path and Far. -/
import Derived.Test.YtcgjnmdcmjoiiaaDoorCb20
namespace Go.Proofs.YtcgjnmdcmjoiiaaDoor.Rou
open Go.RowKit

theorem keep {V w' : World} {g : Nat} {o : Obj} (h : V.heap[g]? = some o) (hb : Below V.heap.size V w') : w'.heap[g]? = some o := (hb.block g (Array.getElem?_eq_some_iff.1 h).1).trans h
theorem dRight_no (N : Int) (ps : List Pr) (ao : Option Addr) (k : Nat) (hR : ¬ RtP N ps) (hl : ps.length ≤ 1000000000000000) (w : World) (hA : PA w ao ps) : Calls Tryd.prog 14 #[.agg #[.int .i64 N, .slice ao ps.length k]] w fun e w' => e = .returned (.bool false) ∧ Below w.heap.size w w' := (dRight N ps ao k hl w hA).mono fun e w' h => ⟨by
  obtain ⟨⟨b, rfl, hb⟩, -⟩ := h
  cases b
  · rfl
  · exact absurd (hb.1 rfl) hR, h.2⟩
theorem dRight_yes (N : Int) (ps : List Pr) (ao : Option Addr) (k : Nat) (hR : RtP N ps) (hl : ps.length ≤ 1000000000000000) (w : World) (hA : PA w ao ps) : Calls Tryd.prog 14 #[.agg #[.int .i64 N, .slice ao ps.length k]] w fun e w' => e = .returned (.bool true) ∧ Below w.heap.size w w' := (dRight N ps ao k hl w hA).mono fun e w' h => ⟨by
  obtain ⟨⟨b, rfl, hb⟩, -⟩ := h
  cases b
  · exact absurd (hb.2 hR) (by decide)
  · rfl, h.2⟩
theorem dR_len (N : Nat) (ps : List Pr) (i : Nat) : (dRow N ps i).length = N := dS_len N ps i N
set_option maxRecDepth 100000 in
set_option maxHeartbeats 4000000 in
theorem dFarR (N : Int) (ps : List Pr) (ao : Option Addr) (k : Nat) (n : Nat) (z : Int) (hP : FarIs N ps n z) (hl : ps.length ≤ 1000000000000000) (w : World) (hA : PA w ao ps) : Calls Tryd.prog 6 #[.agg #[.int .i64 N, .slice ao ps.length k]] w fun e w' => (∃ ao c g0 G, e = .returned (.tuple #[.slice ao n c, .int .i64 z]) ∧ (n = 0 ∨ (ao = some ⟨g0, 0, none⟩ ∧ RR w' g0 n G (fun _ => n) (dRow n ps) ∧ w.heap.size ≤ g0 ∧ ∀ i, i < n → w.heap.size ≤ G i))) ∧ Below w.heap.size w w' := by
  have HBM : Hid (Below w.heap.size w (w.alloc (.cells #[.int .i64 N, .slice ao ps.length k] 24))) := hide (bnew w (.cells #[.int .i64 N, .slice ao ps.length k] 24))
  have HM := hide (heap_alloc_new w (.cells #[.int .i64 N, .slice ao ps.length k] 24))
  obtain ⟨x0, x1, x2⟩ := m_cells HM.out
  have HA := hide (hA.below HBM.out)
  rcases hP with ⟨hR, rfl, rfl⟩ | ⟨hR, rfl, rfl⟩
  · have cr := dRight_no N ps ao k hR hl _ HA.out
    clear hR hA
    generalize ps.length = m at *
    go_enter Tryd.func6, Tryd.ntmps6
    go_wp2_with (go_at_call 14; (with_reducible refine Calls.mono cr ?_); rintro e w1 ⟨rfl, hb1⟩; have HB1 := hide (bkp HBM.out hb1); clear hb1)
    go_ret2
    exact ⟨⟨none, 0, 0, fun _ => 0, rfl, .inl trivial⟩, HB1.out⟩
  · have cr := dRight_yes N ps ao k hR hl _ HA.out
    have HR := hide hR
    obtain ⟨N, rfl⟩ : ∃ m : Nat, N = (m : Int) := ⟨N.toNat, by have := hR.1; omega⟩
    have hN64 : N ≤ 64 := by have := hR.2.1; omega
    have hN1 : 1 ≤ N := by have := hR.1; omega
    simp only [Int.toNat_natCast]
    have cf := fun W h => dFar N ps ao k hN64 (Rt.vl hR) hl W h
    clear hR hA
    generalize ps.length = m at *
    go_enter Tryd.func6, Tryd.ntmps6
    go_wp2_with (first | (go_at_call 14; (with_reducible refine Calls.mono cr ?_); rintro e w1 ⟨rfl, hb1⟩; have HB1 := hide (bkp HBM.out hb1); have HM1 := hide (keep HM.out hb1); have HA1 := hide (HA.out.below hb1); obtain ⟨y0, y1, y2⟩ := m_cells HM1.out; clear hb1 cr) | (go_at_call 15; (with_reducible refine Calls.mono (cf _ HA1.out) ?_); rintro e w2 ⟨⟨d, c, gs, rfl, hrf⟩, hb2⟩; have HRF := hide hrf; have HB2 := hide (bkp HB1.out hb2); clear hrf hb2))
    go_ret2
    obtain ⟨g0, G, e, hrr, hg0, hG⟩ := HRF.out.rr hN1 (fun i _ => dR_len N ps i)
    have hz := HB1.out.size
    exact ⟨⟨d, c, g0, G, rfl, .inr ⟨e, hrr, by omega, fun i hi => Nat.le_trans hz (hG i hi)⟩⟩, HB2.out⟩
set_option maxRecDepth 100000 in
set_option maxHeartbeats 8000000 in
theorem dPath (N : Int) (ps : List Pr) (ao : Option Addr) (k : Nat) (a b : Int) (l : List Nat) (z : Int) (hP : PathIs N ps a b l z) (hl : ps.length ≤ 1000000000000000) (w : World) (hA : PA w ao ps) : Calls Tryd.prog 10 #[.agg #[.int .i64 N, .slice ao ps.length k], .int .i64 a, .int .i64 b] w fun e w' => (∃ ao c, e = .returned (.tuple #[.slice ao l.length c, .int .i64 z]) ∧ QO w' w.heap.size ao c l) ∧ Below w.heap.size w w' := by
  have HBM : Hid (Below w.heap.size w (w.alloc (.cells #[.int .i64 N, .slice ao ps.length k] 24))) := hide (bnew w (.cells #[.int .i64 N, .slice ao ps.length k] 24))
  have HM := hide (heap_alloc_new w (.cells #[.int .i64 N, .slice ao ps.length k] 24))
  obtain ⟨x0, x1, x2⟩ := m_cells HM.out
  have HA := hide (hA.below HBM.out)
  by_cases hR : RtP N ps
  · have cr := dRight_yes N ps ao k hR hl _ HA.out
    have HR := hide hR
    have HPI := hide hP
    obtain ⟨N, rfl⟩ : ∃ m : Nat, N = (m : Int) := ⟨N.toNat, by have := hR.1; omega⟩
    have hN64 : N ≤ 64 := by have := hR.2.1; omega
    have hN1 : 1 ≤ N := by have := hR.1; omega
    have cf := fun W h => dFar N ps ao k hN64 (Rt.vl hR) hl W h
    have h22 : ¬ ((0 ≤ a ∧ a < (N : Int)) ∧ (0 ≤ b ∧ b < (N : Int))) → l = [] ∧ z = 2 := fun h => by
      rcases hP with ⟨h1, -⟩ | ⟨-, -, h1⟩ | ⟨-, -, -, h1⟩ | ⟨-, h1, h2, -⟩
      · exact absurd hR h1
      · exact h1
      · exact h1
      · exact absurd ⟨h1, h2⟩ h
    have h00 : (0 ≤ a ∧ a < (N : Int)) → (0 ≤ b ∧ b < (N : Int)) → l = pth N ps a.toNat b.toNat ∧ z = 0 := fun h1 h2 => by
      rcases hP with ⟨h3, -⟩ | ⟨-, h3, -⟩ | ⟨-, -, h3, -⟩ | ⟨-, -, -, h3⟩
      · exact absurd hR h3
      · exact absurd h1 h3
      · exact absurd h2 h3
      · simpa using h3
    clear hR hA hP
    generalize ps.length = m at *
    by_cases ha1 : a < 0
    · obtain ⟨rfl, rfl⟩ := h22 (by omega)
      have da1 : decide (a < 0) = true := decide_eq_true ha1
      clear h22 h00 ha1
      go_enter Tryd.func10, Tryd.ntmps10
      go_wp2_with (go_at_call 14; (with_reducible refine Calls.mono cr ?_); rintro e w1 ⟨rfl, hb1⟩; have HB1 := hide (bkp HBM.out hb1); obtain ⟨y0, y1, y2⟩ := m_cells (keep HM.out hb1); clear hb1 cr)
      go_ret2
      exact ⟨⟨none, 0, rfl, QO.nil _ _⟩, HB1.out⟩
    have da1 : decide (a < 0) = false := decide_eq_false ha1
    by_cases ha2 : a ≥ (N : Int)
    · obtain ⟨rfl, rfl⟩ := h22 (by omega)
      have da2 : decide (a ≥ (N : Int)) = true := decide_eq_true ha2
      clear h22 h00 ha1 ha2
      go_enter Tryd.func10, Tryd.ntmps10
      go_wp2_with (go_at_call 14; (with_reducible refine Calls.mono cr ?_); rintro e w1 ⟨rfl, hb1⟩; have HB1 := hide (bkp HBM.out hb1); obtain ⟨y0, y1, y2⟩ := m_cells (keep HM.out hb1); clear hb1 cr)
      go_ret2
      exact ⟨⟨none, 0, rfl, QO.nil _ _⟩, HB1.out⟩
    have da2 : decide (a ≥ (N : Int)) = false := decide_eq_false ha2
    by_cases hb1 : b < 0
    · obtain ⟨rfl, rfl⟩ := h22 (by omega)
      have db1 : decide (b < 0) = true := decide_eq_true hb1
      clear h22 h00 ha1 ha2 hb1
      go_enter Tryd.func10, Tryd.ntmps10
      go_wp2_with (go_at_call 14; (with_reducible refine Calls.mono cr ?_); rintro e w1 ⟨rfl, hb1⟩; have HB1 := hide (bkp HBM.out hb1); obtain ⟨y0, y1, y2⟩ := m_cells (keep HM.out hb1); clear hb1 cr)
      go_ret2
      exact ⟨⟨none, 0, rfl, QO.nil _ _⟩, HB1.out⟩
    have db1 : decide (b < 0) = false := decide_eq_false hb1
    by_cases hb2 : b ≥ (N : Int)
    · obtain ⟨rfl, rfl⟩ := h22 (by omega)
      have db2 : decide (b ≥ (N : Int)) = true := decide_eq_true hb2
      clear h22 h00 ha1 ha2 hb1 hb2
      go_enter Tryd.func10, Tryd.ntmps10
      go_wp2_with (go_at_call 14; (with_reducible refine Calls.mono cr ?_); rintro e w1 ⟨rfl, hb1⟩; have HB1 := hide (bkp HBM.out hb1); obtain ⟨y0, y1, y2⟩ := m_cells (keep HM.out hb1); clear hb1 cr)
      go_ret2
      exact ⟨⟨none, 0, rfl, QO.nil _ _⟩, HB1.out⟩
    have db2 : decide (b ≥ (N : Int)) = false := decide_eq_false hb2
    obtain ⟨rfl, rfl⟩ := h00 ⟨by omega, by omega⟩ ⟨by omega, by omega⟩
    obtain ⟨a, rfl⟩ : ∃ m : Nat, a = (m : Int) := ⟨a.toNat, by omega⟩
    obtain ⟨b, rfl⟩ : ∃ m : Nat, b = (m : Int) := ⟨b.toNat, by omega⟩
    have ha : a < N := by omega
    have hb : b < N := by omega
    simp only [Int.toNat_natCast]
    obtain ⟨full, hfull⟩ : ∃ l, pth N ps a b = l := ⟨_, rfl⟩
    have HFU := hide hfull
    have hfl : full.length ≤ 100 := by
      rw [← hfull, pth, List.length_cons, pt_len]
      have := Dd_hi HR.out ha hb
      omega
    rw [hfull]
    clear hfull h22 h00 ha1 ha2 hb1 hb2 HPI
    go_enter Tryd.func10, Tryd.ntmps10
    go_wp2_with (first | (go_at_call 14; (with_reducible refine Calls.mono cr ?_); rintro e w1 ⟨rfl, hb1⟩; have HB1 := hide (bkp HBM.out hb1); have HM1 := hide (keep HM.out hb1); have HA1 := hide (HA.out.below hb1); obtain ⟨y0, y1, y2⟩ := m_cells HM1.out; clear hb1 cr) | (go_at_call 15; (with_reducible refine Calls.mono (cf _ HA1.out) ?_); rintro e w2 ⟨⟨d, c, gs, rfl, hrf⟩, hb2⟩; obtain ⟨g0, G, rfl, hrr, -, -⟩ := hrf.rr hN1 (fun i _ => dR_len N ps i); have HRR := hide hrr; have HB2 := hide (bkp HB1.out hb2); clear hrf hrr hb2))
    have HQ : Hid (QO (w2.alloc (.cells #[.int .i64 (a : Int)] 3)) w.heap.size (some ⟨w2.heap.size, 0, none⟩) 1 [a]) := hide ⟨by simp [iv], .inr ⟨w2.heap.size, 1, _, rfl, HB2.out.size, heap_alloc_new _ _, Nat.le_refl _, by decide, by simp, by simp [iv]⟩⟩
    have HBB : Hid (Below w2.heap.size w2 (w2.alloc (.cells #[.int .i64 (a : Int)] 3))) := hide (bnew w2 (.cells #[.int .i64 (a : Int)] 3))
    have HPT : Hid ([a] ++ pt N ps b (Dd N ps a b).toNat a = full) := hide (by rw [← HFU.out]; rfl)
    have HLO : Hid (∀ k, ob (some (⟨w2.heap.size, 0, none⟩ : Addr)) = some k → w2.heap.size ≤ k) := hide (fun k hk => by cases hk; exact Nat.le_refl _)
    generalize w2.alloc (.cells #[.int .i64 (a : Int)] 3) = W8 at *
    generalize (some (⟨w2.heap.size, 0, none⟩ : Addr)) = A8 at *
    go_loopw [1, 9] (fun v1 v9 wr => ∃ (x : Nat) (l : List Nat) (a2 : Option Addr) (c2 : Nat), v1 = .int .i64 (x : Int) ∧ v9 = .slice a2 l.length c2 ∧ x < N ∧ l.length ≤ 100 ∧ Hid (Below w2.heap.size w2 wr) ∧ Hid (QO wr w.heap.size a2 c2 l) ∧ Hid (∀ k, ob a2 = some k → w2.heap.size ≤ k) ∧ Hid (l ++ pt N ps b (Dd N ps x b).toNat x = full)) (fun v1 _ _ => (Dd N ps (Go.RowKit.intOf v1).toNat b).toNat)
    case atStart => exact ⟨a, [a], A8, 1, rfl, rfl, ha, by simp, HBB, HQ, HLO, HPT⟩
    case round =>
      clear HBB HQ HLO HPT
      obtain ⟨x, l, a2, c2, rfl, rfl, hx, hll, HBB, HQ, HLO, HPT⟩ := hrel
      by_cases h : x = b
      · subst h
        have e1 : ((x : Int) != (x : Int)) = false := by simp
        have HF : Hid (l = full) := hide (by
          have := HPT.out
          rw [(Dd_zero HR.out hx hx).2 rfl] at this
          simpa [pt] using this)
        go_wp2_with fail
        go_ret2
        refine ⟨⟨a2, c2, by rw [HF.out]; rfl, by have := HQ.out; rwa [HF.out] at this⟩, bkp HB2.out HBB.out⟩
      · have e1 : ((x : Int) != (b : Int)) = true := by simpa using (fun e => h (by omega))
        have HNS := hide (nx_spec HR.out hx hb h)
        have HPN := hide (pt_next HR.out hx hb h)
        have HDP := hide (Dd_pos HR.out HNS.out.1 hb)
        have cn := dStep N ps HR.out x b g0 c G _ hx hb wr (HRR.out.below HBB.out)
        obtain ⟨y, hy⟩ : ∃ y, nx N ps x b = y := ⟨_, rfl⟩
        have HY := hide hy
        rw [hy] at cn
        obtain ⟨ll, hl2⟩ : ∃ k, l.length = k := ⟨_, rfl⟩
        have HLL := hide hl2
        rw [hl2] at hll ⊢
        clear h hy hl2
        go_wp2_with (first | (go_at_call 18; (with_reducible refine Calls.mono cn ?_); rintro e w9 ⟨rfl, hb9⟩; have HB9 := hide hb9; have HQ9 : Hid (w9.ownsRow w.heap.size 3 1 (.slice a2 ll c2) ll (iv (l.map fun (k : Nat) => (k : Int)))) := hide (by have := own_below HQ.out hb9; rwa [HLL.out] at this); have hsz9 : w.heap.size ≤ w9.heap.size := Nat.le_trans HB2.out.size (Nat.le_trans HBB.out.size hb9.size); clear hb9) | (at_builtin; refine wpList_pushN rfl _ _ 33 rfl 3 Tryd.underlying33 _ 1 8 infoI rfl (by decide) w.heap.size a2 ll c2 _ rfl HQ9.out [.int .i64 (y : Int)] _ rfl rfl (by simp [Value.oneCell']) w9.heap.size (by simp) rfl (by omega) (by omega) hsz9 ?_))
        intro g3 cap w3 hO hgr hat3
        have hyN : y < N := by rw [← HY.out]; exact HNS.out.1
        have HQ3 : Hid (QO w3 w.heap.size (some ⟨g3, 0, none⟩) cap (l ++ [y])) := hide (QO.push (by rw [HLL.out]; exact hO))
        have hs2 : w2.heap.size ≤ w9.heap.size := Nat.le_trans HBB.out.size HB9.out.size
        have HB3 : Hid (Below w2.heap.size w2 w3) := hide ((bkp HBB.out HB9.out).grown hgr hs2 HLO.out)
        have HLO3 : Hid (∀ k, ob (some (⟨g3, 0, none⟩ : Addr)) = some k → w2.heap.size ≤ k) := hide (fun k hk => by
          cases hk
          rcases hat3 with e | e
          · exact HLO.out _ e
          · exact Nat.le_trans hs2 e)
        have HPT3 : Hid ((l ++ [y]) ++ pt N ps b (Dd N ps y b).toNat y = full) := hide (by
          have := HPT.out
          rw [HPN.out, HY.out] at this
          rw [List.append_assoc]
          exact this)
        have hl100 : (l ++ [y]).length ≤ 100 := by
          have := congrArg List.length HPT3.out
          rw [List.length_append] at this
          omega
        have hms : (Dd N ps y b).toNat < (Dd N ps x b).toNat := by
          have h1 := HNS.out.2
          have h2 := HDP.out
          rw [HY.out] at h1 h2
          omega
        clear hO hgr hat3
        go_wp2_with fail
        go_roundw
        case rel => exact ⟨y, l ++ [y], some ⟨g3, 0, none⟩, cap, rfl, by rw [List.length_append, HLL.out]; rfl, hyN, hl100, HB3, HQ3, HLO3, HPT3⟩
        case measure => simpa [Go.RowKit.intOf] using hms
  · have cr := dRight_no N ps ao k hR hl _ HA.out
    obtain ⟨rfl, rfl⟩ : l = [] ∧ z = 200 := by
      rcases hP with ⟨-, h⟩ | ⟨h, -⟩ | ⟨h, -⟩ | ⟨h, -⟩
      · exact h
      · exact absurd h hR
      · exact absurd h hR
      · exact absurd h hR
    clear hR hA hP
    generalize ps.length = m at *
    go_enter Tryd.func10, Tryd.ntmps10
    go_wp2_with (go_at_call 14; (with_reducible refine Calls.mono cr ?_); rintro e w1 ⟨rfl, hb1⟩; have HB1 := hide (bkp HBM.out hb1); obtain ⟨y0, y1, y2⟩ := m_cells (keep HM.out hb1); clear hb1 cr)
    go_ret2
    exact ⟨⟨none, 0, rfl, QO.nil _ _⟩, HB1.out⟩
end Go.Proofs.YtcgjnmdcmjoiiaaDoor.Rou
