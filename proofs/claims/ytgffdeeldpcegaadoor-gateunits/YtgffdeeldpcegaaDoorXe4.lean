/- GateUnits of kinds with 4 rows. -/
import Derived.Test.YtgffdeeldpcegaaDoorXe
import Derived.Test.YtgffdeeldpcegaaDoorXq
namespace Go.Proofs.YtgffdeeldpcegaaDoor.Gt
open Go.RowKit Go.Proofs.YtgffdeeldpcegaaDoor.Oct Go.Proofs.YtgffdeeldpcegaaDoor.Dy

set_option maxRecDepth 100000 in
set_option maxHeartbeats 40000000 in
theorem xGateUnits_4 (k : Nat) (h1 : 1 ≤ k) (h2 : k ≤ 20) (hr : rowsN k = 4) (w : World) (hT : Tb w) (hD : Td w) : Calls Tryd.prog 6 #[.int .i64 (k : Int)] w fun e w' => e = .returned (.bool true) ∧ Below w.heap.size w w' := by
  have cN := jNum
  have hstf := store_f
  obtain ⟨v1, v2, v3, v4, v5⟩ := iv_ok ⟨k, by omega⟩ h1
  dsimp only at v1 v2 v3 v4 v5
  rw [hr] at v3
  have c1 := gMat k h1 h2 w hT hD
  have c2 := fun w hT => gInverse (k : Int) w hT
  rw [v4] at c2
  have c3 := fun w hT hD => gMat (ivN k) v1 v2 w hT hD
  have c4 := fun w hT => gArity (k : Int) w hT
  rw [((q_rows ⟨k, by omega⟩ h1).2.1 hr : (rw' (k : Int)).q = 2)] at c4
  have c5 := fun w hT => gInverse (ivN k : Int) w hT
  rw [v5] at c5
  rw [hr] at c1
  rw [v3] at c3
  unfold MPost at c1 c3
  have HU : Hid (∀ r c, r < 4 → c < 4 → dotS 4 (mz k) (mz (ivN k)) r c 4 = if r = c then (4, 0) else (0, 0)) := hide (fun r c h3 h4 => unit_4 ⟨k, by omega⟩ ⟨r, h3⟩ ⟨c, h4⟩ h1 hr)
  have HC : Hid (∀ r c, r < 4 → c < 4 → (ordB (mbs (ivN k) (4 * r + c)).1 (mbs k (4 * c + r)).1 && ordB (mbs (ivN k) (4 * r + c)).2 (ngB (mbs k (4 * c + r)).2)) = true) := hide (fun r c h3 h4 => by
    have := conj_ok ⟨k, by omega⟩ ⟨r, by omega⟩ ⟨c, by omega⟩ h1 (by show r < rowsN k; omega) (by show c < rowsN k; omega)
    dsimp only at this
    rw [hr] at this
    exact this)
  have HMV : Hid (∀ r, r < 4 → mnB (rw' (k : Int)) = true → (mvT k r).1 < 4 ∧ (mvT k r).2 < 4 ∧ (ordB (mbs k (4 * (mvT k r).1 + r)).1 (ub (mvT k r).2).1 && ordB (mbs k (4 * (mvT k r).1 + r)).2 (ub (mvT k r).2).2) = true) := hide (fun r h3 h4 => by
    have := cols_ok ⟨k, by omega⟩ ⟨r, by omega⟩ h1 (by show r < rowsN k; omega) h4
    dsimp only at this
    rw [hr] at this
    exact this)
  have HOK : Hid (∀ j, j < 16 → okb (mbs k j).2 = true) := hide (fun j hj => by
    have := mbs_ok ⟨k, by omega⟩ ⟨j, by omega⟩
    rw [Bool.and_eq_true] at this
    exact this.2)
  have cMv := fun r (h : r < 4) w hT hD => gMoves k r h1 h2 (by omega) w hT hD
  have cMo := fun w hT => gMonomial (k : Int) w hT
  generalize hv : ivN k = v at *
  clear hv v1 v4 v5
  go_enter Tryd.func6, Tryd.ntmps6
  go_wp2_with fail
  refine c1.mono ?_
  rintro e w1 ⟨ga, rfl, hRa, _, q1⟩
  have hma := heap_alloc_new w1 (.cells #[.int .i64 4, .slice (some ⟨ga, 0, none⟩) 16 16] 39)
  have q2 := q1.trans ((below_new w1 (.cells #[.int .i64 4, .slice (some ⟨ga, 0, none⟩) 16 16] 39)).mono q1.size)
  replace hRa := hRa.below (below_new w1 (.cells #[.int .i64 4, .slice (some ⟨ga, 0, none⟩) 16 16] 39))
  clear c1 q1
  go_wp2_with fail
  generalize w1.alloc (.cells #[.int .i64 4, .slice (some ⟨ga, 0, none⟩) 16 16] 39) = W2 at *
  refine (c2 _ (hT.below q2)).mono ?_
  rintro e w3 ⟨rfl, q3⟩
  replace hma := (q3.block _ (Array.getElem?_eq_some_iff.1 hma).1).trans hma
  replace hRa := hRa.below q3
  replace q3 := q2.trans (q3.mono q2.size)
  clear q2
  go_wp2_with fail
  refine (c3 _ (hT.below q3) (hD.below q3)).mono ?_
  rintro e w4 ⟨gb, rfl, hRb, _, q4⟩
  replace hma := (q4.block _ (Array.getElem?_eq_some_iff.1 hma).1).trans hma
  replace hRa := hRa.below q4
  replace q4 := q3.trans (q4.mono q3.size)
  have hmb := heap_alloc_new w4 (.cells #[.int .i64 4, .slice (some ⟨gb, 0, none⟩) 16 16] 39)
  have b4 := below_new w4 (.cells #[.int .i64 4, .slice (some ⟨gb, 0, none⟩) 16 16] 39)
  replace hma := (b4.block _ (Array.getElem?_eq_some_iff.1 hma).1).trans hma
  replace hRa := hRa.below b4
  replace hRb := hRb.below b4
  have q5 := q4.trans (b4.mono q4.size)
  clear c3 q3 q4 b4
  go_wp2_with (go_at_call 13; refine (cN _ _).mono ?_; rintro e' w' ⟨rfl, hw⟩; obtain rfl := hw.symm)
  generalize w4.alloc (.cells #[.int .i64 4, .slice (some ⟨gb, 0, none⟩) 16 16] 39) = W5 at *
  refine (c4 _ (hT.below q5)).mono ?_
  rintro e w6 ⟨rfl, q6⟩
  replace hma := (q6.block _ (Array.getElem?_eq_some_iff.1 hma).1).trans hma
  replace hmb := (q6.block _ (Array.getElem?_eq_some_iff.1 hmb).1).trans hmb
  replace hRa := hRa.below q6
  replace hRb := hRb.below q6
  replace q6 := q5.trans (q6.mono q5.size)
  have a0 := cell_of_row _ _ 0 _ _ _ hma
  have a1 := cell_of_row _ _ 1 _ _ _ hma
  have b0 := cell_of_row _ _ 0 _ _ _ hmb
  have b1 := cell_of_row _ _ 1 _ _ _ hmb
  simp only [List.getElem?_toArray, List.getElem?_cons_zero, List.getElem?_cons_succ] at a0 a1 b0 b1
  clear c4 q5
  go_wp2_with (go_at_call 13; refine (cN _ _).mono ?_; rintro e' w' ⟨rfl, hw⟩; obtain rfl := hw.symm)
  refine (c2 _ (hT.below q6)).mono ?_
  rintro e w7 ⟨rfl, q7⟩
  replace hma := (q7.block _ (Array.getElem?_eq_some_iff.1 hma).1).trans hma
  replace hmb := (q7.block _ (Array.getElem?_eq_some_iff.1 hmb).1).trans hmb
  replace hRa := hRa.below q7
  replace hRb := hRb.below q7
  replace q7 := q6.trans (q7.mono q6.size)
  clear a0 a1 b0 b1 q6
  go_wp2_with fail
  refine (c5 _ (hT.below q7)).mono ?_
  rintro e w8 ⟨rfl, q8⟩
  replace hma := (q8.block _ (Array.getElem?_eq_some_iff.1 hma).1).trans hma
  replace hmb := (q8.block _ (Array.getElem?_eq_some_iff.1 hmb).1).trans hmb
  replace hRa := hRa.below q8
  replace hRb := hRb.below q8
  replace q8 := q7.trans (q8.mono q7.size)
  have b8 := below_new w8 (.cells #[.complex .f64 4607182418800017408 0, .complex .f64 0 4607182418800017408, .complex .f64 13830554455654793216 0, .complex .f64 0 13830554455654793216] 46)
  replace hma := (b8.block _ (Array.getElem?_eq_some_iff.1 hma).1).trans hma
  replace hmb := (b8.block _ (Array.getElem?_eq_some_iff.1 hmb).1).trans hmb
  replace hRa := hRa.below b8
  replace hRb := hRb.below b8
  have hU : Rk (w8.alloc (.cells #[.complex .f64 4607182418800017408 0, .complex .f64 0 4607182418800017408, .complex .f64 13830554455654793216 0, .complex .f64 0 13830554455654793216] 46)) w8.heap.size 46 4 (fun t => cx (ub t)) := ⟨_, heap_alloc_new _ _, by simp, fun i hi => by
    have hc : i = 0 ∨ i = 1 ∨ i = 2 ∨ i = 3 := by omega
    rcases hc with rfl | rfl | rfl | rfl <;> rfl⟩
  have q9 := q8.trans (b8.mono q8.size)
  clear c2 c5 q7 q8 b8
  go_wp2_with fail
  generalize w8.alloc (.cells #[.complex .f64 4607182418800017408 0, .complex .f64 0 4607182418800017408, .complex .f64 13830554455654793216 0, .complex .f64 0 13830554455654793216] 46) = W0 at *
  have mA : Mt W0 w1.heap.size 4 16 (mz k) (-1) ga (mbs k) := ⟨cell_of_row _ _ 0 _ _ _ hma, cell_of_row _ _ 1 _ _ _ hma, hRa, (mv_4 h2 hr hRa).val, (mv_4 h2 hr hRa).le⟩
  have mB : Mt W0 w4.heap.size 4 16 (mz v) (-1) gb (mbs v) := ⟨cell_of_row _ _ 0 _ _ _ hmb, cell_of_row _ _ 1 _ _ _ hmb, hRb, (mv_4 v2 v3 hRb).val, (mv_4 v2 v3 hRb).le⟩
  have MA := hide mA
  have MB := hide mB
  have UU := hide hU
  clear mA mB hU hma hmb hRa hRb
  go_loopw [9] (fun vr wr => ∃ r : Nat, vr = .int .i64 (r : Int) ∧ r ≤ 4 ∧ Below W0.heap.size W0 wr) (fun vr _ => 4 - (Go.RowKit.intOf vr).toNat)
  case atStart => exact ⟨0, rfl, by omega, Below.refl _ _⟩
  case round =>
    obtain ⟨r, rfl, hrn, hb⟩ := hrel
    by_cases h : r < 4
    · have hd : decide ((r : Int) < 4) = true := decide_eq_true (by omega)
      go_wp2_with fail
      go_loopw [10] (fun vc wc => ∃ c : Nat, vc = .int .i64 (c : Int) ∧ c ≤ 4 ∧ Below W0.heap.size W0 wc) (fun vc _ => 4 - (Go.RowKit.intOf vc).toNat)
      case atStart => exact ⟨0, rfl, by omega, hb⟩
      case round =>
        clear hb
        obtain ⟨c, rfl, hcn, hb⟩ := hrel
        by_cases hc : c < 4
        · have hdc : decide ((c : Int) < 4) = true := decide_eq_true (by omega)
          have hs0 := heap_alloc_new wr (.cells #[.float .f64 0, .float .f64 0] 53)
          have hbs := hb.trans ((below_new wr (.cells #[.float .f64 0, .float .f64 0] 53)).mono hb.size)
          have hWs := hb.size
          go_wp2_with fail
          generalize hWS : wr.alloc (.cells #[.float .f64 0, .float .f64 0] 53) = WS at *
          clear hWS
          generalize wr.heap.size = hs at *
          go_loopw [12] (fun vj wj => ∃ (j : Nat) (p : Nat × Nat), vj = .int .i64 (j : Int) ∧ j ≤ 4 ∧ wj.heap[hs]? = some (.cells #[.float .f64 p.1, .float .f64 p.2] 53) ∧ Hid (Cx p (dotS 4 (mz k) (mz v) r c j) (-2)) ∧ Below W0.heap.size W0 wj) (fun vj _ => 4 - (Go.RowKit.intOf vj).toNat)
          case atStart => exact ⟨0, (0, 0), rfl, by omega, hs0, hide (cx_zero _), hbs⟩
          case round =>
            clear hs0 hbs
            obtain ⟨j, p, rfl, hjn, hsj, HP, hbj⟩ := hrel
            by_cases hj : j < 4
            · have hdj : decide ((j : Int) < 4) = true := decide_eq_true (by omega)
              obtain ⟨J, hJ⟩ : ∃ J, 4 * r + j = J := ⟨_, rfl⟩
              obtain ⟨L, hL⟩ : ∃ L, 4 * j + c = L := ⟨_, rfl⟩
              have hJN : J < 16 := by omega
              have hLN : L < 16 := by omega
              have hJZ : (J : Int) < 16 := by omega
              have hLZ : (L : Int) < 16 := by omega
              have hw1 : IntKind.i64.wrap ((r : Int) * 4) = (r : Int) * 4 := wrap_small _ (by omega) (by omega)
              have hw2 : IntKind.i64.wrap ((r : Int) * 4 + (j : Int)) = (J : Int) := by rw [wrap_small _ (by omega) (by omega)]; omega
              have hw3 : IntKind.i64.wrap ((j : Int) * 4) = (j : Int) * 4 := wrap_small _ (by omega) (by omega)
              have hw4 : IntKind.i64.wrap ((j : Int) * 4 + (c : Int)) = (L : Int) := by rw [wrap_small _ (by omega) (by omega)]; omega
              have mA := MA.out.below hbj
              have mB := MB.out.below hbj
              obtain ⟨m, hm, cM⟩ := zx_mul (mA.val J hJN) (mB.val L hLN) (zle_mono (mz_le k J) (by decide)) (zle_mono (mz_le v L) (by decide)) (by decide) (by decide) (by decide) (by decide)
              have hz := dotS_le (n := 4) (row := r) (col := c) mA.le mB.le j (fun i hi => by omega)
              obtain ⟨y, hy, cA⟩ := zx_add HP.out hm (zle_mono hz (by omega)) (zle_mono (zmul_le (mz_le k J) (mz_le v L)) (by decide)) (by decide) (by decide)
              have HY : Hid (Cx y (dotS 4 (mz k) (mz v) r c (j + 1)) (-2)) := hide (by rw [dotS, hJ, hL]; exact hy)
              have xa1 := mA.c1
              have xb1 := mB.c1
              have xa : wr.cell? ⟨ga, J, none⟩ = some (.complex .f64 (mbs k J).1 (mbs k J).2) := mA.row.cell J hJN
              have xb : wr.cell? ⟨gb, L, none⟩ = some (.complex .f64 (mbs v L).1 (mbs v L).2) := mB.row.cell L hLN
              have cZ := lZ
              generalize mbs k J = PA at *
              generalize mbs v L = PB at *
              clear hJ hL hm hy hz mA mB HP
              have hne : w1.heap.size ≠ hs ∧ w4.heap.size ≠ hs ∧ ga ≠ hs ∧ gb ≠ hs := by
                have l1 := World.block_lt_of_cell? W0 _ MA.out.c1
                have l2 := World.block_lt_of_cell? W0 _ MB.out.c1
                have l3 := MA.out.row.lt
                have l4 := MB.out.row.lt
                dsimp only at l1 l2
                omega
              go_wp2_with fail
              refine wp_region_quiet_last (C := fun W => Below wr.heap.size wr W) (by kernel_rfl) 23 rfl (by kernel_rfl) (by kernel_rfl) (below_drewN (Below.refl _ _) 1) ?_
              simp only [List.take_succ_cons, List.take_zero]
              repeat
                refine wpQuiet_step (fun K hK => ?_)
                go_simp
                first
                  | (refine hK _ ?_; clear hK K)
                  | (apply Exists.intro
                     refine ⟨fun W hW => ?_, hK _ ?_⟩
                     first
                       | with_reducible rfl
                       | (refine (cZ _ _ _).mono ?_; rintro e x ⟨rfl, q⟩; exact ⟨rfl, hW.trans (q.mono hW.size)⟩)
                       | (refine (cM _).mono ?_; rintro e x ⟨rfl, q⟩; exact ⟨rfl, hW.trans (q.mono hW.size)⟩)
                       | (refine (cA _).mono ?_; rintro e x ⟨rfl, q⟩; exact ⟨rfl, hW.trans (q.mono hW.size)⟩)
                       | (obtain ⟨a0, a1, a2, a3⟩ := four_keep hW ⟨xa1, xb1, xa, xb⟩; have r0 := row_keep hW hsj; have r1 := row2_0 r0; have r2 := row2_1 r0; go_simp; rfl)
                     clear hK K)
              refine wpQuiet_nil ?_
              intro W hW
              have hbS := ((hbj.trans (hW.mono hbj.size)).setCell (p := ⟨hs, 0, none⟩) hWs (.float .f64 y.1)).setCell (p := ⟨hs, 1, none⟩) hWs (.float .f64 y.2)
              have hcur := row_keep hW hsj
              have s0 := row2_0 hcur
              have s1 := row2_1 hcur
              have z0 := frozen_row hcur 0
              have z1 := frozen_row hcur 1
              have z2 := frozen_row (one_set hcur (.float .f64 y.1)) 1
              have hset := two_set hcur (.float .f64 y.1) (.float .f64 y.2)
              clear hsj hbj hW xa1 xb1 xa xb cZ cM cA hcur
              go_wp2_with fail
              exact ⟨⟨j + 1, y, by go_num, by omega, hset, HY, hbS⟩, by simp [Go.RowKit.intOf]; omega⟩
            · have hdj : decide ((j : Int) < 4) = false := decide_eq_false (by omega)
              have ej : j = 4 := by omega
              rw [ej, HU.out r c h hc] at HP
              clear ej hjn hj
              obtain ⟨J, hJ⟩ : ∃ J, 4 * r + c = J := ⟨_, rfl⟩
              obtain ⟨L, hL⟩ : ∃ L, 4 * c + r = L := ⟨_, rfl⟩
              have hJN : J < 16 := by omega
              have hLN : L < 16 := by omega
              have hJZ : (J : Int) < 16 := by omega
              have hLZ : (L : Int) < 16 := by omega
              have hw1 : IntKind.i64.wrap ((r : Int) * 4) = (r : Int) * 4 := wrap_small _ (by omega) (by omega)
              have hw2 : IntKind.i64.wrap ((r : Int) * 4 + (c : Int)) = (J : Int) := by rw [wrap_small _ (by omega) (by omega)]; omega
              have hw3 : IntKind.i64.wrap ((c : Int) * 4) = (c : Int) * 4 := wrap_small _ (by omega) (by omega)
              have hw4 : IntKind.i64.wrap ((c : Int) * 4 + (r : Int)) = (L : Int) := by rw [wrap_small _ (by omega) (by omega)]; omega
              have cNg := neg_ok (mbs k L).2 (HOK.out L hLN)
              have cNe := neq_c (mbs v J).1 (mbs v J).2 (mbs k L).1 (ngB (mbs k L).2) (by have := HC.out r c h hc; rw [hJ, hL] at this; exact this)
              have h13 := heap_alloc_new wr (.cells #[.float .f64 0, .float .f64 0] 53)
              have z13 := frozen_row h13 0
              have bN := below_new wr (.cells #[.float .f64 0, .float .f64 0] 53)
              have hsN := row_keep bN hsj
              have hbN := hbj.trans (bN.mono hbj.size)
              have hsl : hs < wr.heap.size := (Array.getElem?_eq_some_iff.1 hsj).1
              have hbz := hbj.size
              clear hJ hL bN
              by_cases hrc : r = c
              · have hrd : ((r : Int) == (c : Int)) = true := beq_iff_eq.2 (by rw [hrc])
                rw [if_pos hrc] at HP
                have cE := fun w => zx_equal HP.out cx_four ⟨by decide, by decide⟩ ⟨by decide, by decide⟩ (by decide) (by decide) w
                have bX := hbj.trans ((below_new wr (.cells #[.float .f64 4607182418800017408, .float .f64 0] 53)).mono hbj.size)
                have hx1 := heap_alloc_new wr (.cells #[.float .f64 4607182418800017408, .float .f64 0] 53)
                have hx0 := row_keep (below_new wr (.cells #[.float .f64 4607182418800017408, .float .f64 0] 53)) hsj
                clear h13 hbN hsN HP hrc hsj hbj
                go_wp2_with fail
                generalize wr.alloc (.cells #[.float .f64 4607182418800017408, .float .f64 0] 53) = WX at *
                have mA := MA.out.below bX
                have mB := MB.out.below bX
                have xa1 := mA.c1
                have xb1 := mB.c1
                have xa : WX.cell? ⟨ga, L, none⟩ = some (.complex .f64 (mbs k L).1 (mbs k L).2) := mA.row.cell L hLN
                have xb : WX.cell? ⟨gb, J, none⟩ = some (.complex .f64 (mbs v J).1 (mbs v J).2) := mB.row.cell J hJN
                generalize mbs k L = PA at *
                generalize mbs v J = PB at *
                clear mA mB
                refine wp_region_quiet (C := fun W => Below WX.heap.size WX W) (by kernel_rfl) (by kernel_rfl) (below_drewN (Below.refl _ _) 1) ?_
                refine unhideP ?_
                repeat
                  refine wpQuiet_stepH (fun K hK => ?_)
                  go_simp
                  first
                    | (refine hK _ ?_; clear hK K)
                    | (apply Exists.intro
                       refine ⟨fun W hW => ?_, hK _ ?_⟩
                       first
                         | with_reducible rfl
                         | (refine (cE _).mono ?_; rintro e x ⟨rfl, q⟩; exact ⟨rfl, hW.trans (q.mono hW.size)⟩)
                         | (obtain ⟨a0, a1, a2, a3⟩ := four_keep hW ⟨xa1, xb1, xa, xb⟩; have r0 := row_keep hW hx0; have r1 := row2_0 r0; have r2 := row2_1 r0; have r3 := row_keep hW hx1; have r4 := row2_0 r3; have r5 := row2_1 r3; go_simp; rfl)
                       clear hK K)
                refine wpQuiet_nilH ?_
                intro W hW
                have hbF := bX.trans (hW.mono bX.size)
                clear hW
                go_wp2_with fail
                exact ⟨⟨c + 1, by go_num, by omega, hbF⟩, by simp [Go.RowKit.intOf]; omega⟩
              · have hrd : ((r : Int) == (c : Int)) = false := by simpa using fun e : (r : Int) = c => hrc (by omega)
                rw [if_neg hrc] at HP
                have cE := fun w => zx_equal HP.out (cx_zero (-2)) ⟨by decide, by decide⟩ ⟨by decide, by decide⟩ (by decide) (by decide) w
                have bX := hbN
                have hx1 := h13
                have hx0 := hsN
                clear h13 hbN hsN HP hrc hsj hbj
                go_wp2_with fail
                generalize wr.alloc (.cells #[.float .f64 0, .float .f64 0] 53) = WX at *
                have mA := MA.out.below bX
                have mB := MB.out.below bX
                have xa1 := mA.c1
                have xb1 := mB.c1
                have xa : WX.cell? ⟨ga, L, none⟩ = some (.complex .f64 (mbs k L).1 (mbs k L).2) := mA.row.cell L hLN
                have xb : WX.cell? ⟨gb, J, none⟩ = some (.complex .f64 (mbs v J).1 (mbs v J).2) := mB.row.cell J hJN
                generalize mbs k L = PA at *
                generalize mbs v J = PB at *
                clear mA mB
                refine wp_region_quiet (C := fun W => Below WX.heap.size WX W) (by kernel_rfl) (by kernel_rfl) (below_drewN (Below.refl _ _) 1) ?_
                refine unhideP ?_
                repeat
                  refine wpQuiet_stepH (fun K hK => ?_)
                  go_simp
                  first
                    | (refine hK _ ?_; clear hK K)
                    | (apply Exists.intro
                       refine ⟨fun W hW => ?_, hK _ ?_⟩
                       first
                         | with_reducible rfl
                         | (refine (cE _).mono ?_; rintro e x ⟨rfl, q⟩; exact ⟨rfl, hW.trans (q.mono hW.size)⟩)
                         | (obtain ⟨a0, a1, a2, a3⟩ := four_keep hW ⟨xa1, xb1, xa, xb⟩; have r0 := row_keep hW hx0; have r1 := row2_0 r0; have r2 := row2_1 r0; have r3 := row_keep hW hx1; have r4 := row2_0 r3; have r5 := row2_1 r3; go_simp; rfl)
                       clear hK K)
                refine wpQuiet_nilH ?_
                intro W hW
                have hbF := bX.trans (hW.mono bX.size)
                clear hW
                go_wp2_with fail
                exact ⟨⟨c + 1, by go_num, by omega, hbF⟩, by simp [Go.RowKit.intOf]; omega⟩
        · have hdc : decide ((c : Int) < 4) = false := decide_eq_false (by omega)
          have qT := q9.trans (hb.mono q9.size)
          have cMv := cMv r h wr (hT.below qT) (hD.below qT)
          go_wp2_with fail
          refine cMv.mono ?_
          rintro e' wm ⟨rfl, qm⟩
          have bm := hb.trans (qm.mono hb.size)
          have qmT := qT.trans (qm.mono qT.size)
          clear cMv qm hb qT
          have cMo := fun (W : World) (hW : Below wm.heap.size wm W) => cMo W (hT.below (qmT.trans (hW.mono qmT.size)))
          unfold mvR
          by_cases hm : mnB (rw' (k : Int)) = true
          · obtain ⟨m1, m2, m3⟩ := HMV.out r h hm
            rw [if_pos hm]
            rw [hm] at cMo
            generalize mvT k r = mt at *
            obtain ⟨mi, mu⟩ := mt
            dsimp only at m1 m2 m3 ⊢
            obtain ⟨J, hJ⟩ : ∃ J, 4 * mi + r = J := ⟨_, rfl⟩
            rw [hJ] at m3
            have hJN : J < 16 := by omega
            have hJZ : (J : Int) < 16 := by omega
            have hmZ : (mu : Int) < 4 := by omega
            have hw1 : IntKind.i64.wrap ((mi : Int) * 4) = (mi : Int) * 4 := wrap_small _ (by omega) (by omega)
            have hw2 : IntKind.i64.wrap ((mi : Int) * 4 + (r : Int)) = (J : Int) := by rw [wrap_small _ (by omega) (by omega)]; omega
            have d1 : decide ((mi : Int) < 0) = false := decide_eq_false (by omega)
            have d2 : decide ((4 : Int) ≤ (mi : Int)) = false := decide_eq_false (by omega)
            have d3 : decide ((mu : Int) < 0) = false := decide_eq_false (by omega)
            have d4 : decide ((3 : Int) < (mu : Int)) = false := decide_eq_false (by omega)
            have cNe := neq_c _ _ _ _ m3
            have mA := MA.out.below bm
            have xa1 := mA.c1
            have xa : wm.cell? ⟨ga, J, none⟩ = some (.complex .f64 (mbs k J).1 (mbs k J).2) := mA.row.cell J hJN
            have xu : wm.cell? ⟨w8.heap.size, mu, none⟩ = some (.complex .f64 (ub mu).1 (ub mu).2) := (UU.out.below bm).cell mu m2
            generalize mbs k J = PA at *
            generalize ub mu = PU at *
            clear mA hJ m3 hm
            go_wp2_with fail
            refine wp_region_quiet (C := fun W => Below wm.heap.size wm W) (by kernel_rfl) (by kernel_rfl) (below_drewN (Below.refl _ _) 1) ?_
            refine unhideP ?_
            repeat
              refine wpQuiet_stepH (fun K hK => ?_)
              go_simp
              first
                | (refine hK _ ?_; clear hK K)
                | (apply Exists.intro
                   refine ⟨fun W hW => ?_, hK _ ?_⟩
                   first
                     | with_reducible rfl
                     | (refine (cMo _ hW).mono ?_; rintro e x ⟨rfl, q⟩; exact ⟨rfl, hW.trans (q.mono hW.size)⟩)
                     | (obtain ⟨a0, a1, a2, a3⟩ := four_keep hW ⟨xa1, xa1, xa, xu⟩; go_simp; rfl)
                   clear hK K)
            refine wpQuiet_nilH ?_
            intro W hW
            have hbF := bm.trans (hW.mono bm.size)
            clear hW
            go_wp2_with fail
            exact ⟨⟨r + 1, by go_num, by omega, hbF⟩, by simp [Go.RowKit.intOf]; omega⟩
          · have hm' : mnB (rw' (k : Int)) = false := by simpa using hm
            rw [if_neg hm]
            rw [hm'] at cMo
            dsimp only
            clear hm hm'
            have xa1 := (MA.out.below bm).c1
            have xa := xa1
            have xu := xa1
            go_wp2_with fail
            refine wp_region_quiet (C := fun W => Below wm.heap.size wm W) (by kernel_rfl) (by kernel_rfl) (below_drewN (Below.refl _ _) 1) ?_
            refine unhideP ?_
            repeat
              refine wpQuiet_stepH (fun K hK => ?_)
              go_simp
              first
                | (refine hK _ ?_; clear hK K)
                | (apply Exists.intro
                   refine ⟨fun W hW => ?_, hK _ ?_⟩
                   first
                     | with_reducible rfl
                     | (refine (cMo _ hW).mono ?_; rintro e x ⟨rfl, q⟩; exact ⟨rfl, hW.trans (q.mono hW.size)⟩)
                     | (obtain ⟨a0, a1, a2, a3⟩ := four_keep hW ⟨xa1, xa1, xa, xu⟩; go_simp; rfl)
                   clear hK K)
            refine wpQuiet_nilH ?_
            intro W hW
            have hbF := bm.trans (hW.mono bm.size)
            clear hW
            go_wp2_with fail
            exact ⟨⟨r + 1, by go_num, by omega, hbF⟩, by simp [Go.RowKit.intOf]; omega⟩
    · have hd : decide ((r : Int) < 4) = false := decide_eq_false (by omega)
      have qT := q9.trans (hb.mono q9.size)
      have cAl := jAlive wr (hT.below qT) (hD.below qT)
      go_wp2_with fail
      refine cAl.mono ?_
      rintro e' wm ⟨rfl, qm⟩
      have bm := qT.trans (qm.mono qT.size)
      go_wp2_with fail
      go_ret
      exact ⟨rfl, bm⟩
end Go.Proofs.YtgffdeeldpcegaaDoor.Gt
