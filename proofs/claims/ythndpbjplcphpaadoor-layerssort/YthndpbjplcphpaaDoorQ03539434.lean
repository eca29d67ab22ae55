import Derived.Test.YthndpbjplcphpaaDoorQ0669f769
import Derived.Test.YthndpbjplcphpaaDoorQeaa16c3e
set_option maxRecDepth 100000
set_option maxHeartbeats 8000000
namespace Go.Proofs.YthndpbjplcphpaaDoor.Lay
open Go.RowKit Go.Shelf Go.Proofs.YthndpbjplcphpaaDoor.Oct Go.Proofs.YthndpbjplcphpaaDoor.Tok Go.Proofs.YthndpbjplcphpaaDoor.Gt Go.Proofs.YthndpbjplcphpaaDoor.Cir
theorem own_at {w : World} {B n c : Nat} {t : TypeId} {ao : Option Addr} {xs : List Value} (h : w.ownsRow B t 1 (.slice ao n c) n xs) {i : Nat} {v : Value} (hi : xs[i]? = some v) : ∃ g, ao = some ⟨g, 0, none⟩ /\ g < w.heap.size /\ w.cell? ⟨g, i, none⟩ = some v := by
  have hl := (List.getElem?_eq_some_iff.1 hi).1
  rcases h.2 with ⟨hv, h0⟩ | ⟨g, cap, cur, hv, hbg, hg, e1, e2, e3, e4⟩
  . have := h.1
    omega
  . simp only [Value.slice.injEq] at hv
    obtain ⟨rfl, -, rfl⟩ := hv
    refine ⟨g, rfl, (Array.getElem?_eq_some_iff.1 hg).1, ?_⟩
    rw [← e4, List.getElem?_take] at hi
    split at hi
    . exact (cell_of_row _ _ _ _ _ _ hg).trans (by simpa using hi)
    . cases hi
theorem xSort (c : Circ) (ao : Option Addr) (k : Nat) (l : List Int) (al : Option Addr) (cl : Nat) (hS : Szs c.ops) (hl : l.length <= 17592186044416) (w : World) (hT : Tb w) (hC : Ci w c ao k) (hN : Ns w al l) : Calls Tryd.prog 4 #[cV c ao k, .slice al l.length cl] w fun e w' => e = .returned (.bool true) /\ Below w.heap.size w w' := by
  obtain ⟨f, hf⟩ := ev_exists c.ops
  obtain ⟨q, b, n, hcv⟩ : ∃ q b n, ∀ ao k, cV c ao k = .agg #[.int .i64 q, .int .i64 b, .slice ao n k] := ⟨c.q, c.b, c.ops.length, fun _ _ => rfl⟩
  obtain ⟨q2, b2, n2, hn2, hcv2⟩ : ∃ q b n, (stC c f).ops.length = n /\ ∀ ao k, cV (stC c f) ao k = .agg #[.int .i64 q, .int .i64 b, .slice ao n k] := ⟨_, _, _, rfl, fun _ _ => rfl⟩
  obtain ⟨q3, b3, n3, hn3, hcv3⟩ : ∃ q b n, (prC c l).ops.length = n /\ ∀ ao k, cV (prC c l) ao k = .agg #[.int .i64 q, .int .i64 b, .slice ao n k] := ⟨_, _, _, rfl, fun _ _ => rfl⟩
  obtain ⟨m, hm⟩ : ∃ m, l.length = m := ⟨_, rfl⟩
  obtain ⟨er, her⟩ : ∃ er, erC c = er := ⟨_, rfl⟩
  obtain ⟨ea, hea⟩ : ∃ er, asE c l = er := ⟨_, rfl⟩
  obtain ⟨D, hD⟩ : ∃ D, mD c f = D := ⟨_, rfl⟩
  have hD96 : D <= 4096 := by
    rw [← hD]
    unfold mD
    split
    . rename_i hok
      have h1 := gr_rng (f := f) c.ops.length (ev_rng hf)
      have h2 := (ok_wk hok).2
      omega
    . exact Nat.zero_le _
  obtain ⟨L, hL⟩ : ∃ L : Nat -> List Int, (fun d => mr c.ops f d c.ops.length) = L := ⟨_, rfl⟩
  have HLL : Hid (∀ d, d < D -> (L d).length <= 4096) := hide (fun d hd => by
    rw [← hL]
    have h1 := mr_len c.ops f d c.ops.length
    have h2 : okC c = true := by
      cases hok : okC c with
      | true => rfl
      | false =>
        unfold mD at hD
        rw [hok] at hD
        simp at hD
        omega
    have h3 := (ok_wk h2).2
    simp only
    omega)
  have c0 : Hid (∀ V, Below w.heap.size w V -> Calls Tryd.prog 6 #[.agg #[.int .i64 q, .int .i64 b, .slice ao n k]] V fun e V' => ∃ bo j, e = .returned (.agg #[.int .i64 q, .int .i64 b, .slice bo n j]) /\ Ci V' c bo j /\ Below V.heap.size V V') := hide (fun V h => by
    rw [← hcv]
    refine (eCopyO c ao k hS V (hC.below h)).mono ?_
    rintro e V' ⟨bo, j, rfl, ho, hb⟩
    exact ⟨bo, j, by rw [hcv], ci_szs hS ho, hb⟩)
  have PM : Hid (∀ V xo xj, Below w.heap.size w V -> Ci V c xo xj -> Calls Tryd.prog 21 #[.agg #[.int .i64 q, .int .i64 b, .slice xo n xj]] V fun e V' => ∃ mo mj, e = .returned (.tuple #[.slice mo D mj, .int .i64 er]) /\ (D = 0 ∨ ∃ gT vs, mo = some ⟨gT, 0, none⟩ /\ V.heap.size <= gT /\ MR V' gT D L vs) /\ Below V.heap.size V V') := hide (fun V xo xj h hx => by
    rw [← hcv, ← hD, ← her, ← hL]
    exact uMomP c f hf xo xj V (hT.below h) hx)
  have DM : Hid (∀ V, Below w.heap.size w V -> Calls Tryd.prog 22 #[.agg #[.int .i64 q, .int .i64 b, .slice ao n k]] V fun e V' => ∃ bo cb, e = .returned (.tuple #[.slice bo D cb, .int .i64 er]) /\ (D = 0 ∨ ∃ vs, DR V' V.heap.size D L bo cb vs) /\ Below V.heap.size V V') := hide (fun V h => by
    rw [← hcv, ← hD, ← her, ← hL]
    exact uMomD c f hf ao k V (hC.below h))
  have PS : Hid (∀ V xo xj, Below w.heap.size w V -> Ci V c xo xj -> Calls Tryd.prog 23 #[.agg #[.int .i64 q, .int .i64 b, .slice xo n xj]] V fun e V' => ∃ so sj, e = .returned (.tuple #[.agg #[.int .i64 q2, .int .i64 b2, .slice so n2 sj], .int .i64 er]) /\ OpsOwn V' V.heap.size so n2 sj (stC c f).ops /\ Below V.heap.size V V') := hide (fun V xo xj h hx => by
    have := uSoP c f hf xo xj V (hT.below h) hx
    rw [hn2, her] at this
    simp only [hcv, hcv2] at this
    exact this)
  have DS : Hid (∀ V, Below w.heap.size w V -> Calls Tryd.prog 24 #[.agg #[.int .i64 q, .int .i64 b, .slice ao n k]] V fun e V' => ∃ so sj, e = .returned (.tuple #[.agg #[.int .i64 q2, .int .i64 b2, .slice so n2 sj], .int .i64 er]) /\ Ci V' (stC c f) so sj /\ Below V.heap.size V V') := hide (fun V h => by
    have := uSoD c f hf hS ao k V (hC.below h)
    rw [her] at this
    simp only [hcv, hcv2] at this
    refine this.mono ?_
    rintro e V' ⟨so, sj, rfl, h1, h2⟩
    exact ⟨so, sj, rfl, h1.ci (szs_st hf hS), h2⟩)
  have PP : Hid (∀ V xo xj, Below w.heap.size w V -> Ci V c xo xj -> Calls Tryd.prog 25 #[.agg #[.int .i64 q, .int .i64 b, .slice xo n xj], .slice al m cl] V fun e V' => ∃ so sj, e = .returned (.tuple #[.agg #[.int .i64 q3, .int .i64 b3, .slice so n3 sj], .int .i64 ea]) /\ OpsOwn V' V.heap.size so n3 sj (prC c l).ops /\ Below V.heap.size V V') := hide (fun V xo xj h hx => by
    have := pPrune c l al cl (by omega) xo xj V (hT.below h) hx (hN.below h)
    rw [hn3, hea, hm] at this
    simp only [hcv, hcv3] at this
    exact this)
  have DP : Hid (∀ V, Below w.heap.size w V -> Calls Tryd.prog 26 #[.agg #[.int .i64 q, .int .i64 b, .slice ao n k], .slice al m cl] V fun e V' => ∃ so sj, e = .returned (.tuple #[.agg #[.int .i64 q3, .int .i64 b3, .slice so n3 sj], .int .i64 ea]) /\ Ci V' (prC c l) so sj /\ Below V.heap.size V V') := hide (fun V h => by
    have := dPrune c hS l al cl (by omega) ao k V (hC.below h) (hN.below h)
    rw [hea, hm] at this
    simp only [hcv, hcv3] at this
    refine this.mono ?_
    rintro e V' ⟨so, sj, rfl, h1, h2⟩
    exact ⟨so, sj, rfl, h1.ci (szs_pr hS), h2⟩)
  have SM1 : Hid (∀ V so sj tA tj, Ci V (stC c f) so sj -> Ci V (stC c f) tA tj -> Calls Tryd.prog 19 #[.agg #[.int .i64 q2, .int .i64 b2, .slice so n2 sj], .agg #[.int .i64 q2, .int .i64 b2, .slice tA n2 tj]] V fun e V' => e = .returned (.bool true) /\ Below V.heap.size V V') := hide (fun V so sj tA tj h1 h2 => by
    rw [← hcv2, ← hcv2]
    refine (eSame _ _ so tA sj tj V h1 h2).mono ?_
    rintro e V' ⟨rfl, hb⟩
    exact ⟨by rw [decide_eq_true rfl], hb⟩)
  have SM2 : Hid (∀ V so sj tA tj, Ci V (prC c l) so sj -> Ci V (prC c l) tA tj -> Calls Tryd.prog 19 #[.agg #[.int .i64 q3, .int .i64 b3, .slice so n3 sj], .agg #[.int .i64 q3, .int .i64 b3, .slice tA n3 tj]] V fun e V' => e = .returned (.bool true) /\ Below V.heap.size V V') := hide (fun V so sj tA tj h1 h2 => by
    rw [← hcv3, ← hcv3]
    refine (eSame _ _ so tA sj tj V h1 h2).mono ?_
    rintro e V' ⟨rfl, hb⟩
    exact ⟨by rw [decide_eq_true rfl], hb⟩)
  have SM : Hid (∀ V xo xj, Below w.heap.size w V -> Ci V c xo xj -> Calls Tryd.prog 19 #[.agg #[.int .i64 q, .int .i64 b, .slice xo n xj], .agg #[.int .i64 q, .int .i64 b, .slice ao n k]] V fun e V' => e = .returned (.bool true) /\ Below V.heap.size V V') := hide (fun V xo xj h hx => by
    rw [← hcv, ← hcv]
    refine (eSame c c xo ao xj k V hx (hC.below h)).mono ?_
    rintro e V' ⟨rfl, hb⟩
    exact ⟨by rw [decide_eq_true rfl], hb⟩)
  have HD : Hid (∀ V, Below w.heap.size w V -> Calls Tryd.prog 20 #[] V fun e V' => e = .returned (.bool true) /\ Below V.heap.size V V') := hide (fun V h => wHeads V (hT.below h))
  have HZ2 := hide (szs_st hf hS)
  have HZ3 := hide (szs_pr (l := l) hS)
  have HN2 := hide hn2
  have HN3 := hide hn3
  obtain ⟨R2, hR2⟩ : ∃ R, (stC c f) = R := ⟨_, rfl⟩
  obtain ⟨R3, hR3⟩ : ∃ R, (prC c l) = R := ⟨_, rfl⟩
  rw [hR2] at PS DS SM1 HZ2 HN2
  rw [hR3] at PP DP SM2 HZ3 HN3
  rw [hcv, hm]
  clear hcv hcv2 hcv3 hn2 hn3 hf hT hC hN hm hS her hea hD hL hR2 hR3 hl
  have r0 := heap_alloc_new w (.cells #[.int .i64 q, .int .i64 b, .slice ao n k] 24)
  have B0 := bnew w (.cells #[.int .i64 q, .int .i64 b, .slice ao n k] 24)
  obtain ⟨x0, x1, x2, x3⟩ := def_cells r0
  go_enter Tryd.func4, Tryd.ntmps4
  go_wp2_with (first
    | (go_at_call 6; refine (c0.out _ B0).mono ?_; rintro e V1 ⟨xo, xj, rfl, hx, hb1⟩; have rc1 := kq hb1 r0; have BV1 := B0.trans (hb1.mono B0.size); have rx := heap_alloc_new V1 (.cells #[.int .i64 q, .int .i64 b, .slice xo n xj] 24); have bx := bnew V1 (.cells #[.int .i64 q, .int .i64 b, .slice xo n xj] 24); have rc := kq bx rc1; have hxW := hx.below bx; have BW := BV1.trans (bx.mono BV1.size); clear x0 x1 x2 x3; obtain ⟨x0, x1, x2, x3⟩ := def_cells rx)
    | (go_at_call 21; refine (PM.out _ xo xj BW hxW).mono ?_; rintro e V2 ⟨mo, mj, rfl, hmr, hb2⟩; have rc2 := kq hb2 rc; have BV2 := BW.trans (hb2.mono BW.size); clear x0 x1 x2 x3; obtain ⟨x0, x1, x2, x3⟩ := def_cells rc2)
    | (go_at_call 22; refine (DM.out _ BV2).mono ?_; rintro e V3 ⟨bo, cb, rfl, hdr, hb3⟩; clear x0 x1 x2 x3))
  obtain ⟨gX, hgX⟩ : ∃ g, g = V1.heap.size := ⟨_, rfl⟩
  obtain ⟨W1, hW1⟩ : ∃ W, W = V1.alloc (.cells #[.int .i64 q, .int .i64 b, .slice xo n xj] 24) := ⟨_, rfl⟩
  rw [← hW1] at rx rc hxW BW hmr hb2
  rw [← hgX] at rx ⊢
  have HRX := hide rx
  have HRC := hide rc
  have HXW := hide hxW
  have HBW := hide BW
  have HB3 := hide (hb2.trans (hb3.mono hb2.size))
  have HLT : Hid (D = 0 ∨ ∃ gT vs vs2, mo = some ⟨gT, 0, none⟩ /\ W1.heap.size <= gT /\ LT V3 0 D L gT vs V2.heap.size bo cb vs2) := hide (by
    rcases hmr with h | ⟨gT, vs, e, h1, h2⟩
    . exact .inl h
    . rcases hdr with h | ⟨vs2, h3⟩
      . exact .inl h
      . exact .inr ⟨gT, vs, vs2, e, h1, lt_of h2 hb3 h3⟩)
  clear r0 B0 rc1 BV1 bx rx rc hxW BW hx hb1 hb2 hb3 rc2 BV2 hmr hdr hgX hW1 c0 PM DM
  go_loopg [10] (D) (fun kx s10 wr => ∃ i : Nat, s10 = .int .i64 (i : Int) /\ i <= D /\ D - i <= kx /\ Hid (D = 0 ∨ ∃ gT vs vs2, mo = some ⟨gT, 0, none⟩ /\ W1.heap.size <= gT /\ LT wr i D L gT vs V2.heap.size bo cb vs2) /\ Hid (Below W1.heap.size W1 wr))
  case atStart => exact ⟨0, rfl, Nat.zero_le _, Nat.le_refl _, HLT, HB3⟩
  case round =>
    clear HLT HB3
    obtain ⟨i, rfl, hin, hkx, HLT, HB3⟩ := hrel
    by_cases hlt : i < D
    . have d1 : decide ((i : Int) < (D : Int)) = true := decide_eq_true (by omega)
      have d2 : (i : Int) < (D : Int) := by omega
      obtain ⟨gT, vs, vs2, rfl, hgT, hLT⟩ := HLT.out.resolve_left (by omega)
      have k1 := hLT.rk.cell i hlt
      have k2 := hLT.rk.lt
      obtain ⟨hrow, hlen⟩ := hLT.row i (Nat.le_refl _) hlt
      obtain ⟨hrow2, hlen2⟩ := hLT.dr.rows i hlt
      obtain ⟨gB, rfl, k4, k3⟩ := own_at hLT.dr.own (i := i) (v := (vs2 i).v) (by rw [List.getElem?_map, List.getElem?_range hlt]; rfl)
      simp only [RV.v] at k1 k3
      rw [hlen] at k1
      rw [hlen2] at k3
      have c5 := wToldT (vs i).1 (vs2 i).1 (vs i).2.2.1 (vs2 i).2.2.1 (L i) 0 gT (by have := HLL.out i hlt; omega) wr.drew (own_nsw hrow).1 (own_nsl hrow2)
      have HL1 := hide hLT
      have HLI : Hid (∀ g, ob (vs i).1 = some g -> gT <= g) := hide (fun g hg => (own_lt hrow g hg).1)
      obtain ⟨a, ha⟩ : ∃ a, (vs i).1 = a := ⟨_, rfl⟩
      rw [ha] at k1 c5 HLI
      have HA := hide ha
      generalize (L i).length = li at *
      generalize (vs i).2.2.1 = ca at *
      generalize (vs2 i).2.2.1 = cb2 at *
      generalize (vs2 i).1 = a2 at *
      clear hLT hrow hrow2 hlen hlen2 HLT ha
      go_upto_region 9 with fail
      go_cut [61] from 46 to 61 (fun s61 wc => s61 = .bool false /\ Hid (wr.grownBy wc (ob a)))
      case first =>
        go_region_with (first | (go_at_call 9; refine Calls.mono c5 ?_; rintro e w2 ⟨rfl, hg2⟩; have HG := hide hg2; clear hg2))
        all_goals (go_wp2_with fail; go_meet; exact ⟨rfl, hide ⟨HG.out.os, HG.out.tape, HG.out.output, HG.out.size, HG.out.block⟩⟩)
      case rest =>
        obtain ⟨rfl, HG⟩ := hcut
        go_wp2_with fail
        go_roundg (D - (i + 1))
        case measure => omega
        case rel => exact ⟨i + 1, by congr 1, by omega, Nat.le_refl _, hide (.inr ⟨gT, vs, vs2, rfl, hgT, HL1.out.step hlt (by rw [HA.out]; exact HG.out)⟩), hide (HB3.out.grown HG.out HB3.out.size (fun x hx => Nat.le_trans hgT (HLI.out x hx)))⟩
    . have d1 : decide ((i : Int) < (D : Int)) = false := decide_eq_false (by omega)
      clear HLT
      have HRX0 := hide (kq HB3.out HRX.out)
      have HRC0 := hide (kq HB3.out HRC.out)
      have HX0 := hide (HXW.out.below HB3.out)
      have HBw0 := hide (HBW.out.trans (HB3.out.mono HBW.out.size))
      obtain ⟨x0, x1, x2, x3⟩ := def_cells HRX0.out
      go_upto_region 12 with (go_at_call 23; refine (PS.out _ xo xj HBw0.out HX0.out).mono ?_; rintro e Ws ⟨so, sj, rfl, ho1, hs1⟩; have HO1 := hide ho1; have HS1 := hide hs1; clear ho1 hs1; clear x0 x1 x2 x3)
      have nS : Hid (Below Ws.heap.size Ws (Ws.alloc (.cells #[.int .i64 q2, .int .i64 b2, .slice so n2 sj] 24))) := hide (bnew Ws (.cells #[.int .i64 q2, .int .i64 b2, .slice so n2 sj] 24))
      have bS : Hid (Below wr.heap.size wr (Ws.alloc (.cells #[.int .i64 q2, .int .i64 b2, .slice so n2 sj] 24))) := hide (HS1.out.trans (nS.out.mono HS1.out.size))
      have gS : Hid ((Ws.alloc (.cells #[.int .i64 q2, .int .i64 b2, .slice so n2 sj] 24)).heap[Ws.heap.size]? = some (.cells #[.int .i64 q2, .int .i64 b2, .slice so n2 sj] 24 (0, 0))) := hide (heap_alloc_new Ws (.cells #[.int .i64 q2, .int .i64 b2, .slice so n2 sj] 24))
      have HRC1 := hide (kq bS.out HRC0.out)
      have HRX1 := hide (kq bS.out HRX0.out)
      have HBw1 := hide (HBw0.out.trans (bS.out.mono HBw0.out.size))
      have HX1 := hide (HX0.out.below bS.out)
      generalize hWs : Ws.alloc (.cells #[.int .i64 q2, .int .i64 b2, .slice so n2 sj] 24) = Ws1 at *
      clear hWs
      obtain ⟨x0, x1, x2, x3⟩ := def_cells HRC1.out
      go_upto_region 13 with (go_at_call 24; refine (DS.out _ HBw1.out).mono ?_; rintro e Wt ⟨tA, tj, rfl, ct, ht1⟩; have CT := hide ct; have HT1 := hide ht1; clear ct ht1; clear x0 x1 x2 x3)
      have nT : Hid (Below Wt.heap.size Wt (Wt.alloc (.cells #[.int .i64 q2, .int .i64 b2, .slice tA n2 tj] 24))) := hide (bnew Wt (.cells #[.int .i64 q2, .int .i64 b2, .slice tA n2 tj] 24))
      have bT : Hid (Below Ws1.heap.size Ws1 (Wt.alloc (.cells #[.int .i64 q2, .int .i64 b2, .slice tA n2 tj] 24))) := hide (HT1.out.trans (nT.out.mono HT1.out.size))
      have gTt : Hid ((Wt.alloc (.cells #[.int .i64 q2, .int .i64 b2, .slice tA n2 tj] 24)).heap[Wt.heap.size]? = some (.cells #[.int .i64 q2, .int .i64 b2, .slice tA n2 tj] 24 (0, 0))) := hide (heap_alloc_new Wt (.cells #[.int .i64 q2, .int .i64 b2, .slice tA n2 tj] 24))
      have HRC2 := hide (kq bT.out HRC1.out)
      have HRX2 := hide (kq bT.out HRX1.out)
      have HBw2 := hide (HBw1.out.trans (bT.out.mono HBw1.out.size))
      have HX2 := hide (HX1.out.below bT.out)
      generalize hWt : Wt.alloc (.cells #[.int .i64 q2, .int .i64 b2, .slice tA n2 tj] 24) = Wt1 at *
      clear hWt
      obtain ⟨x0, x1, x2, x3⟩ := def_cells HRX2.out
      go_upto_region 14 with (go_at_call 25; refine (PP.out _ xo xj HBw2.out HX2.out).mono ?_; rintro e Wp ⟨po, pj, rfl, ho2, hp1⟩; have HO2 := hide ho2; have HP1 := hide hp1; clear ho2 hp1; clear x0 x1 x2 x3)
      have nP : Hid (Below Wp.heap.size Wp (Wp.alloc (.cells #[.int .i64 q3, .int .i64 b3, .slice po n3 pj] 24))) := hide (bnew Wp (.cells #[.int .i64 q3, .int .i64 b3, .slice po n3 pj] 24))
      have bP : Hid (Below Wt1.heap.size Wt1 (Wp.alloc (.cells #[.int .i64 q3, .int .i64 b3, .slice po n3 pj] 24))) := hide (HP1.out.trans (nP.out.mono HP1.out.size))
      have gP : Hid ((Wp.alloc (.cells #[.int .i64 q3, .int .i64 b3, .slice po n3 pj] 24)).heap[Wp.heap.size]? = some (.cells #[.int .i64 q3, .int .i64 b3, .slice po n3 pj] 24 (0, 0))) := hide (heap_alloc_new Wp (.cells #[.int .i64 q3, .int .i64 b3, .slice po n3 pj] 24))
      have HRC3 := hide (kq bP.out HRC2.out)
      have HRX3 := hide (kq bP.out HRX2.out)
      have HBw3 := hide (HBw2.out.trans (bP.out.mono HBw2.out.size))
      have HX3 := hide (HX2.out.below bP.out)
      generalize hWp : Wp.alloc (.cells #[.int .i64 q3, .int .i64 b3, .slice po n3 pj] 24) = Wp1 at *
      clear hWp
      obtain ⟨x0, x1, x2, x3⟩ := def_cells HRC3.out
      go_upto_region 15 with (go_at_call 26; refine (DP.out _ HBw3.out).mono ?_; rintro e Wq ⟨qo, qj, rfl, cq, hq1⟩; have CQ := hide cq; have HQ1 := hide hq1; clear cq hq1; clear x0 x1 x2 x3)
      have nQ : Hid (Below Wq.heap.size Wq (Wq.alloc (.cells #[.int .i64 q3, .int .i64 b3, .slice qo n3 qj] 24))) := hide (bnew Wq (.cells #[.int .i64 q3, .int .i64 b3, .slice qo n3 qj] 24))
      have bQ : Hid (Below Wp1.heap.size Wp1 (Wq.alloc (.cells #[.int .i64 q3, .int .i64 b3, .slice qo n3 qj] 24))) := hide (HQ1.out.trans (nQ.out.mono HQ1.out.size))
      have gQ : Hid ((Wq.alloc (.cells #[.int .i64 q3, .int .i64 b3, .slice qo n3 qj] 24)).heap[Wq.heap.size]? = some (.cells #[.int .i64 q3, .int .i64 b3, .slice qo n3 qj] 24 (0, 0))) := hide (heap_alloc_new Wq (.cells #[.int .i64 q3, .int .i64 b3, .slice qo n3 qj] 24))
      have HBw4 := hide (HBw3.out.trans (bQ.out.mono HBw3.out.size))
      have HRC4 := hide (kq bQ.out HRC3.out)
      have HRX4 := hide (kq bQ.out HRX3.out)
      have HX4 := hide (HX3.out.below bQ.out)
      generalize hWq : Wq.alloc (.cells #[.int .i64 q3, .int .i64 b3, .slice qo n3 qj] 24) = Wq1 at *
      clear hWq
      have bTQ := hide (bP.out.trans (bQ.out.mono bP.out.size))
      have bSQ := hide (bT.out.trans (bTQ.out.mono bT.out.size))
      have CS := hide ((ci_szs HZ2.out (by rw [HN2.out]; exact HO1.out)).below (nS.out.trans (bSQ.out.mono nS.out.size)))
      have CT2 := hide (CT.out.below (nT.out.trans (bTQ.out.mono nT.out.size)))
      obtain ⟨x0, x1, x2, x3⟩ := def_cells (kq bSQ.out gS.out)
      obtain ⟨y0, y1, y2, y3⟩ := def_cells (kq bTQ.out gTt.out)
      have KX := hide (fun (V : World) (h : Below wr.heap.size wr V) => kq h HRX0.out)
      have KC := hide (fun (V : World) (h : Below wr.heap.size wr V) => kq h HRC0.out)
      have KB := hide (fun (V : World) (h : Below wr.heap.size wr V) => HBw0.out.trans (h.mono HBw0.out.size))
      have KI := hide (fun (V : World) (h : Below wr.heap.size wr V) => HX0.out.below h)
      clear HRX0 HRC0 HRX1 HRC1 HRX2 HRC2 HRX3 HRC3 HRX4 HRC4 HX0 HX1 HX2 HX3 HX4 HBw0 HBw1 HBw2 HBw3 HBw4 HRX HRC HXW HBW HB3 d1 hin hkx PS DS PP DP HLL
      go_upto_region 16 with (first
        | (go_at_call 19; (with_reducible refine Calls.mono (SM1.out _ so sj tA tj CS.out CT2.out) ?_); rintro e W5 ⟨rfl, h5⟩; have H5 := hide h5; have bP5 := hide (bQ.out.trans (h5.mono bQ.out.size)); clear h5 x0 x1 x2 x3 y0 y1 y2 y3; obtain ⟨x0, x1, x2, x3⟩ := def_cells (kq bP5.out gP.out); obtain ⟨y0, y1, y2, y3⟩ := def_cells (kq H5.out gQ.out); have CP := hide ((ci_szs HZ3.out (by rw [HN3.out]; exact HO2.out)).below (nP.out.trans (bP5.out.mono nP.out.size))); have CQ2 := hide (CQ.out.below (nQ.out.trans (H5.out.mono nQ.out.size))))
        | (go_at_call 19; (with_reducible refine Calls.mono (SM2.out _ po pj qo qj CP.out CQ2.out) ?_); rintro e W6 ⟨rfl, h6⟩; have H6 := hide h6; clear h6 x0 x1 x2 x3 y0 y1 y2 y3))
      have h56 := hide (H5.out.trans (H6.out.mono H5.out.size))
      have bS16 := hide (bSQ.out.trans (h56.out.mono bSQ.out.size))
      have b06 := hide (bS.out.trans (bS16.out.mono bS.out.size))
      have bs6 := hide (nS.out.trans (bS16.out.mono nS.out.size))
      have bQ6 := hide (bQ.out.trans (h56.out.mono bQ.out.size))
      have bp6 := hide (nP.out.trans (bQ6.out.mono nP.out.size))
      have gS6 := hide (kq bS16.out gS.out)
      have gP6 := hide (kq bQ6.out gP.out)
      have DO1 : Hid (DOwn W6 wr.heap.size Ws.heap.size so n2 sj (R2.ops.map (·.qs.length))) := hide (HO1.out.down.kept fun g h1 h2 => bs6.out.block g h2)
      have DO2 : Hid (DOwn W6 Wt1.heap.size Wp.heap.size po n3 pj (R3.ops.map (·.qs.length))) := hide (HO2.out.down.kept fun g h1 h2 => bp6.out.block g h2)
      have HZ : Hid (Ws.heap.size <= Wt1.heap.size /\ wr.heap.size <= Wt1.heap.size /\ Wt1.heap.size <= Wp.heap.size) := hide (by
        have z1 := HS1.out.size
        have z2 := nS.out.size
        have z3 := bT.out.size
        have z4 := HP1.out.size
        exact ⟨Nat.le_trans z2 z3, Nat.le_trans z1 (Nat.le_trans z2 z3), z4⟩)
      clear HS1 nS bS gS HT1 nT bT gTt HP1 nP bP gP HQ1 nQ bQ gQ bTQ bSQ CS CT CT2 CQ CP CQ2 bP5 H5 H6 h56 bS16 bs6 bQ6 bp6 HO1 HO2 SM1 SM2
      obtain ⟨wr0, hwr0⟩ : ∃ W, wr = W := ⟨_, rfl⟩
      obtain ⟨BB1, hBB1⟩ : ∃ B, wr.heap.size = B := ⟨_, rfl⟩
      obtain ⟨EE1, hEE1⟩ : ∃ B, Ws.heap.size = B := ⟨_, rfl⟩
      obtain ⟨BB2, hBB2⟩ : ∃ B, Wt1.heap.size = B := ⟨_, rfl⟩
      obtain ⟨EE2, hEE2⟩ : ∃ B, Wp.heap.size = B := ⟨_, rfl⟩
      rw [hBB1] at KX KC KB KI b06 DO1 HZ
      rw [hEE1] at gS6 DO1 HZ
      rw [hBB2] at DO2 HZ
      rw [hEE2] at gP6 DO2 HZ
      rw [hwr0] at KX KC KB KI b06
      rw [hEE1, hEE2]
      clear hwr0 hBB1 hEE1 hBB2 hEE2
      go_wp2_with fail
      go_loopw [20] (fun vi wq => ∃ i : Nat, vi = .int .i64 (i : Int) /\ i <= n2 /\ Ot BB1 EE1 W6 wq /\ DOwn wq BB1 EE1 so n2 sj (R2.ops.map (·.qs.length))) (fun vi _ => n2 - (Go.RowKit.intOf vi).toNat)
      case atStart => exact ⟨0, rfl, Nat.zero_le _, Ot.refl _ _ _, DO1.out⟩
      case round =>
        obtain ⟨i, rfl, hi, hot, hdo⟩ := hrel
        have hcd := (hot.block _ (.inr (Nat.le_refl _))).trans gS6.out
        obtain ⟨y0, y1, y2, y3⟩ := def_cells hcd
        have HOT := hide hot
        have HDD := hide hdo
        clear hot hdo hcd
        by_cases h : i < n2
        . have hd : decide ((i : Int) < (n2 : Int)) = true := decide_eq_true (by omega)
          have hkk : (i : Int) < (n2 : Int) := by omega
          obtain ⟨mm, hm⟩ : ∃ mm, (R2.ops.map (·.qs.length))[i]? = some mm := ⟨_, List.getElem?_eq_getElem (by rw [List.length_map, HN2.out]; exact h)⟩
          have HM := hide hm
          have hmb : mm <= 17592186044416 := by
            rw [List.getElem?_map] at hm
            obtain ⟨o, ho, rfl⟩ := Option.map_eq_some_iff.1 hm
            exact HZ2.out.2 o (List.mem_of_getElem? ho)
          have hnb : n2 <= 2199023255552 := by
            rw [← HN2.out]
            exact HZ2.out.1
          clear hm
          obtain ⟨gd, -, -, -, rfl, -⟩ := HDD.out.get HM.out
          go_wp2_with fail
          go_loopw [21] (fun vk wq => ∃ k' : Nat, vk = .int .i64 (k' : Int) /\ k' <= mm /\ Ot BB1 EE1 W6 wq /\ DOwn wq BB1 EE1 (some ⟨gd, 0, none⟩) n2 sj (R2.ops.map (·.qs.length))) (fun vk _ => mm - (Go.RowKit.intOf vk).toNat)
          case atStart => exact ⟨0, rfl, Nat.zero_le _, HOT.out, HDD.out⟩
          case round =>
            obtain ⟨k', rfl, hk', hot, hdo⟩ := hrel
            have hcd := (hot.block _ (.inr (Nat.le_refl _))).trans gS6.out
            obtain ⟨z0, z1, z2, z3⟩ := def_cells hcd
            obtain ⟨aq', cq', u, p1, p2, p3, p4, p5, p6, p7, p8⟩ := hdo.getS HM.out
            have HOT2 := hide hot
            have HDD2 := hide hdo
            by_cases hk : k' < mm
            . have hd2 : decide ((k' : Int) < (mm : Int)) = true := decide_eq_true (by omega)
              have hkk2 : (k' : Int) < (mm : Int) := by omega
              obtain ⟨g, x, rfl, r1, r2, r3, r4, r5, r6⟩ := p8 k' hk
              have HR6 := hide r6
              clear hot hdo hcd p7 p8 r6
              go_wp2_with fail
              go_roundw
              case rel => exact ⟨k' + 1, by go_num, by omega, HOT2.out.setCell _ r1 r2 _, HR6.out _⟩
              case measure => simp [Go.RowKit.intOf]; omega
            . obtain rfl : mm = k' := by omega
              clear hot hdo hcd p7 p8
              go_wp2_with fail
              go_roundw
              case rel => exact ⟨i + 1, by go_num, by omega, HOT2.out, HDD2.out⟩
              case measure => simp [Go.RowKit.intOf]; omega
        . obtain rfl : n2 = i := by omega
          have DO3 : Hid (DOwn wr BB2 EE2 po n3 pj (R3.ops.map (·.qs.length))) := hide (DO2.out.kept fun g h1 h2 => HOT.out.block g (.inr (Nat.le_trans HZ.out.1 h1)))
          have gP7 := hide ((HOT.out.block _ (.inr (Nat.le_trans HZ.out.1 HZ.out.2.2))).trans gP6.out)
          have b07 := hide (b06.out.trans HOT.out.below)
          clear HDD DO1 DO2 gS6 gP6 b06 HOT
          go_wp2_with fail
          obtain ⟨wp0, hwp0⟩ : ∃ W, wr = W := ⟨_, rfl⟩
          rw [hwp0] at gP7 DO3 b07
          go_loopw [22] (fun vi wq => ∃ i : Nat, vi = .int .i64 (i : Int) /\ i <= n3 /\ Ot BB2 EE2 wp0 wq /\ DOwn wq BB2 EE2 po n3 pj (R3.ops.map (·.qs.length))) (fun vi _ => n3 - (Go.RowKit.intOf vi).toNat)
          case atStart => exact ⟨0, rfl, Nat.zero_le _, by rw [hwp0]; exact Ot.refl _ _ _, by rw [hwp0]; exact DO3.out⟩
          case round =>
            clear y0 y1 y2 y3 h hi hwp0
            obtain ⟨i, rfl, hi, hot, hdo⟩ := hrel
            have hcd := (hot.block _ (.inr (Nat.le_refl _))).trans gP7.out
            obtain ⟨y0, y1, y2, y3⟩ := def_cells hcd
            have HOT := hide hot
            have HDD := hide hdo
            clear hot hdo hcd
            by_cases h : i < n3
            . have hd : decide ((i : Int) < (n3 : Int)) = true := decide_eq_true (by omega)
              have hkk : (i : Int) < (n3 : Int) := by omega
              obtain ⟨mm, hm⟩ : ∃ mm, (R3.ops.map (·.qs.length))[i]? = some mm := ⟨_, List.getElem?_eq_getElem (by rw [List.length_map, HN3.out]; exact h)⟩
              have HM := hide hm
              have hmb : mm <= 17592186044416 := by
                rw [List.getElem?_map] at hm
                obtain ⟨o, ho, rfl⟩ := Option.map_eq_some_iff.1 hm
                exact HZ3.out.2 o (List.mem_of_getElem? ho)
              have hnb : n3 <= 2199023255552 := by
                rw [← HN3.out]
                exact HZ3.out.1
              clear hm
              obtain ⟨gd, -, -, -, rfl, -⟩ := HDD.out.get HM.out
              go_wp2_with fail
              go_loopw [23] (fun vk wq => ∃ k' : Nat, vk = .int .i64 (k' : Int) /\ k' <= mm /\ Ot BB2 EE2 wp0 wq /\ DOwn wq BB2 EE2 (some ⟨gd, 0, none⟩) n3 pj (R3.ops.map (·.qs.length))) (fun vk _ => mm - (Go.RowKit.intOf vk).toNat)
              case atStart => exact ⟨0, rfl, Nat.zero_le _, HOT.out, HDD.out⟩
              case round =>
                obtain ⟨k', rfl, hk', hot, hdo⟩ := hrel
                have hcd := (hot.block _ (.inr (Nat.le_refl _))).trans gP7.out
                obtain ⟨z0, z1, z2, z3⟩ := def_cells hcd
                obtain ⟨aq', cq', u, p1, p2, p3, p4, p5, p6, p7, p8⟩ := hdo.getS HM.out
                have HOT2 := hide hot
                have HDD2 := hide hdo
                by_cases hk : k' < mm
                . have hd2 : decide ((k' : Int) < (mm : Int)) = true := decide_eq_true (by omega)
                  have hkk2 : (k' : Int) < (mm : Int) := by omega
                  obtain ⟨g, x, rfl, r1, r2, r3, r4, r5, r6⟩ := p8 k' hk
                  have HR6 := hide r6
                  clear hot hdo hcd p7 p8 r6
                  go_wp2_with fail
                  go_roundw
                  case rel => exact ⟨k' + 1, by go_num, by omega, HOT2.out.setCell _ r1 r2 _, HR6.out _⟩
                  case measure => simp [Go.RowKit.intOf]; omega
                . obtain rfl : mm = k' := by omega
                  clear hot hdo hcd p7 p8
                  go_wp2_with fail
                  go_roundw
                  case rel => exact ⟨i + 1, by go_num, by omega, HOT2.out, HDD2.out⟩
                  case measure => simp [Go.RowKit.intOf]; omega
            . obtain rfl : n3 = i := by omega
              have BF := hide (b07.out.trans (HOT.out.below.mono HZ.out.2.1))
              obtain ⟨x0, x1, x2, x3⟩ := def_cells (KX.out _ BF.out)
              obtain ⟨z0, z1, z2, z3⟩ := def_cells (KC.out _ BF.out)
              clear HDD DO3 gP7 b07 HOT
              go_wp2_with (first
                | (go_at_call 19; (with_reducible refine Calls.mono (SM.out _ xo xj (KB.out _ BF.out) (KI.out _ BF.out)) ?_); rintro e W8 ⟨rfl, h8⟩; have HB8 := hide ((KB.out _ BF.out).trans (h8.mono (KB.out _ BF.out).size)); clear h8)
                | (go_at_call 20; (with_reducible refine Calls.mono (HD.out _ HB8.out) ?_); rintro e W9 ⟨rfl, h9⟩; have HB9 := hide (HB8.out.trans (h9.mono HB8.out.size)); clear h9))
              go_ret
              exact ⟨rfl, HB9.out⟩
end Go.Proofs.YthndpbjplcphpaaDoor.Lay
