import Derived.Test.YtaggifpnamjghaaDoorKa4177cc1
set_option maxRecDepth 100000
set_option maxHeartbeats 4000000
namespace Go.Proofs.YtaggifpnamjghaaDoor.Pau
open Go.RowKit Go.Shelf Go.Proofs.YtaggifpnamjghaaDoor.Oct Go.Proofs.YtaggifpnamjghaaDoor.Gt
theorem At4.set1 {w : World} {g : Nat} {a b c d : Value} (h : At4 w g a b c d) (v : Value) : At4 (w.setCell ⟨g, 1, none⟩ v) g a v c d := by
  unfold At4 at *
  simp [World.setCell, Array.getElem?_modify, h]
theorem At4.set2 {w : World} {g : Nat} {a b c d : Value} (h : At4 w g a b c d) (v : Value) : At4 (w.setCell ⟨g, 2, none⟩ v) g a b v d := by
  unfold At4 at *
  simp [World.setCell, Array.getElem?_modify, h]
theorem pParse_in (l : List UInt8) (hc0 : 0 <= (cutP l).1) (hc1 : (cutP l).2.length <= 64) (w : World) (hT : Ts w) : Calls Tryd.prog 80 #[str l] w fun e w' => e = .returned (.tuple #[pV (parR l).1, .int .i64 (parR l).2]) /\ Below w.heap.size w w' := by
  have c1 := fun W (h : Below w.heap.size w W) => pCut l W (hT.below h)
  have HG := hide (show parR l = if (cutP l).2.all okB = false then (oP, 130) else (⟨((cutP l).2.length : Int), rd cx (cutP l).2 (cutP l).2.length, rd cz (cutP l).2 (cutP l).2.length, (cutP l).1⟩, 0) by
    unfold parR
    by_cases h : (cutP l).2.all okB = false
    . rw [if_pos (.inr (.inr h)), if_pos h]
    . rw [if_neg (fun g => g.elim (fun g => absurd g (by omega)) (fun g => g.elim (fun g => absurd g (by omega)) h)), if_neg h])
  generalize parR l = G at *
  generalize (cutP l).1 = ph at *
  generalize (cutP l).2 = row at *
  have hR0 := hide (At4.new w (.int .i64 0) (.int .u64 0) (.int .u64 0) (.int .i64 0))
  have HB := hide (bnew w (.cells #[.int .i64 0, .int .u64 0, .int .u64 0, .int .i64 0] 32))
  have hsz := size_str row
  have HIX := hide (fun (k : Nat) (b : UInt8) (h : row[k]? = some b) W => ix_at row k b h W)
  have HIB := hide (fun (b : UInt8) W => sIB [73, 88, 90, 89] b W)
  have d0 : decide (ph < 0) = false := decide_eq_false (by omega)
  have d1 : decide (64 < (row.length : Int)) = false := decide_eq_false (by omega)
  have HXL := hide (fun k => rd_lt cx_le row k)
  have HZL := hide (fun k => rd_lt cz_le row k)
  have HXO := hide (fun k => rd_or cx_le row k)
  have HZO := hide (fun k => rd_or cz_le row k)
  unfold str at *
  generalize (⟨l.toArray⟩ : ByteArray) = s at *
  generalize (⟨row.toArray⟩ : ByteArray) = r at *
  rw [show ([73, 88, 90, 89] : List UInt8).toArray = #[73, 88, 90, 89] from rfl] at HIB
  obtain ⟨N, hN⟩ : ∃ N, row.length = N := ⟨_, rfl⟩
  have HN := hide hN
  rw [hN] at hsz d1 HG hc1
  clear hN hT
  go_enter Tryd.func80, Tryd.ntmps80
  go_wp2_with fail
  refine (c1 _ HB.out).mono ?_
  rintro e w1 ⟨rfl, hw⟩
  subst hw
  have HB1 := hide (bkp HB.out (bnew _ (.cells #[.int .i64 (N : Int), .int .u64 0, .int .u64 0, .int .i64 ph] 32)))
  obtain ⟨G1, G2⟩ := At4.two w (.int .i64 0) (.int .u64 0) (.int .u64 0) (.int .i64 0) (.int .i64 (N : Int)) (.int .u64 0) (.int .u64 0) (.int .i64 ph)
  have HG1 := hide G1
  have HG2 := hide G2
  clear G1 G2 c1
  go_wp2_with fail
  generalize hw2 : (w.alloc (.cells #[.int .i64 0, .int .u64 0, .int .u64 0, .int .i64 0] 32)).alloc (.cells #[.int .i64 (N : Int), .int .u64 0, .int .u64 0, .int .i64 ph] 32) = w2 at *
  clear hw2
  go_loopw [28] (fun vi wr => ∃ k : Nat, vi = .int .i64 (k : Int) /\ k <= N /\ Hid (Below w.heap.size w wr /\ At4 wr w.heap.size (.int .i64 0) (.int .u64 0) (.int .u64 0) (.int .i64 0) /\ At4 wr (w.heap.size + 1) (.int .i64 (N : Int)) (.int .u64 (rd cx row k : Int)) (.int .u64 (rd cz row k : Int)) (.int .i64 ph) /\ ∀ j b, j < k -> row[j]? = some b -> okB b = true)) (fun vi _ => N - (Go.RowKit.intOf vi).toNat)
  case atStart => exact ⟨0, rfl, Nat.zero_le _, hide ⟨HB1.out, HG1.out, HG2.out, fun j b h => absurd h (by omega)⟩⟩
  case round =>
    obtain ⟨k, rfl, hk, HI⟩ := hrel
    obtain ⟨x0, x1, x2, x3, x4⟩ := HI.out.2.2.1.cells
    by_cases h : k < N
    . have hd : decide ((k : Int) < (N : Int)) = true := decide_eq_true (by omega)
      obtain ⟨b, hb⟩ : ∃ b, row[k]? = some b := ⟨_, List.getElem?_eq_getElem (by rw [HN.out]; exact h)⟩
      have hgd : row.getD k 0 = b := by rw [List.getD_eq_getElem?_getD, hb]; rfl
      have hix := fun W => HIX.out k b hb W
      have hib := fun W => HIB.out b W
      have HBB := hide hb
      have hxo := HXO.out k
      have hzo := HZO.out k
      rw [hgd] at hxo hzo
      have hxl := HXL.out k
      have hzl := HZL.out k
      rcases index_ok b with ⟨o1, o2⟩ | ⟨o1, u, v, o2, o3, o4, o5, o6⟩
      . have HE : Hid (G = (oP, 130)) := hide (by
          rw [HG.out, if_pos]
          rw [Bool.eq_false_iff]
          intro hall
          have := List.all_eq_true.1 hall b (List.mem_of_getElem? hb)
          rw [o1] at this
          cases this)
        rw [o2] at hib
        have hR := HI.out.2.1
        have HBi := hide HI.out.1
        unfold At4 at hR
        clear hgd hxo hzo hxl hzl o1 o2 HXL HZL HXO HZO HI hb
        go_wp2_with (first
          | (go_at_call 82; refine (hib _).mono ?_; rintro e w3 ⟨rfl, hw⟩; obtain rfl := hw.symm)
          | (refine wpList_store_row rfl _ _ _ rfl w.heap.size _ rfl rfl _ _ hR (by exact infoP) (by rfl) (allP _ _ _ _) ?_))
        refine bodyPost_ret (results_ct rfl _ _ w.heap.size _ _ _ _ rfl (setRow_heap _ _ _ _ _ _ hR) Tryd.underlying32 rfl (by exact infoP)) rfl ?_
        exact ⟨by rw [HE.out]; rfl, below_setRow HBi.out (Nat.le_refl _) _⟩
      . rw [o2] at hib
        rw [o3] at hxo
        rw [o4] at hzo
        have HOK := hide o1
        have hk64 : k < 64 := by omega
        have hk64' : (k : Int) < 64 := by omega
        have e64 : 2 ^ k <= 2 ^ 63 := Nat.pow_le_pow_right (by decide) (by omega)
        generalize hX : rd cx row k = X at *
        generalize hZ : rd cz row k = Z at *
        generalize hX1 : rd cx row (k + 1) = X1 at *
        generalize hZ1 : rd cz row (k + 1) = Z1 at *
        clear hgd o1 o2 o3 o4 HXL HZL HXO HZO hb
        obtain ⟨c, hcc⟩ : ∃ c : Int, ((u + 2 * v : Nat) : Int) = c := ⟨_, rfl⟩
        rw [hcc] at hib
        have a0 : decide (c < 0) = false := decide_eq_false (by omega)
        have a1 : bits .and .i64 c 1 = (u : Int) := by
          rw [← hcc]
          have hu : u = 0 ∨ u = 1 := by omega
          have hv : v = 0 ∨ v = 1 := by omega
          rcases hu with rfl | rfl <;> rcases hv with rfl | rfl <;> decide
        have a2 : IntKind.u64.wrap (u : Int) = (u : Int) := by rw [wrapU]; omega
        have a2' : IntKind.u64.wrap (v : Int) = (v : Int) := by rw [wrapU]; omega
        have a6 : c / 2 = (v : Int) := by omega
        have sh : ∀ t : Nat, t < 2 -> IntKind.u64.wrap ((t : Int) * 2 ^ k) = ((t * 2 ^ k : Nat) : Int) /\ t * 2 ^ k < 18446744073709551616 := fun t ht => by
          have e : (t : Int) * 2 ^ k = ((t * 2 ^ k : Nat) : Int) := by simp
          have hl : t * 2 ^ k <= 1 * 2 ^ 63 := Nat.mul_le_mul (by omega) e64
          rw [e, wrapU]
          generalize t * 2 ^ k = y at *
          exact ⟨by omega, by omega⟩
        obtain ⟨a3, l3⟩ := sh u o5
        obtain ⟨b3, m3⟩ := sh v o6
        have hX64 : X < 18446744073709551616 := Nat.lt_of_lt_of_le hxl (Nat.le_trans e64 (by decide))
        have hZ64 : Z < 18446744073709551616 := Nat.lt_of_lt_of_le hzl (Nat.le_trans e64 (by decide))
        have a4 : bits .or .u64 (X : Int) ((u * 2 ^ k : Nat) : Int) = (X1 : Int) := by rw [u64_or_nat X _ hX64 l3, hxo]
        have b4 : bits .or .u64 (Z : Int) ((v * 2 ^ k : Nat) : Int) = (Z1 : Int) := by rw [u64_or_nat Z _ hZ64 m3, hzo]
        generalize u * 2 ^ k = ku at *
        generalize v * 2 ^ k = kv at *
        clear sh l3 m3 hxo hzo hxl hzl hX64 hZ64 e64 hcc o5 o6
        have HC1 : Hid (∀ W, Below wr.heap.size wr W -> (W.cell? ⟨w.heap.size + 1, 0, none⟩ = some (.int .i64 (N : Int)) /\ W.cell? ⟨w.heap.size + 1, 1, none⟩ = some (.int .u64 (X : Int)) /\ W.cell? ⟨w.heap.size + 1, 2, none⟩ = some (.int .u64 (Z : Int)) /\ W.cell? ⟨w.heap.size + 1, 3, none⟩ = some (.int .i64 ph) /\ w.heap.size + 1 < W.heap.size) /\ W.frozen? ⟨w.heap.size + 1, 1, none⟩ = false /\ W.frozen? ⟨w.heap.size + 1, 2, none⟩ = false) := hide (fun W hW => ⟨(HI.out.2.2.1.below hW).cells, (HI.out.2.2.1.below hW).fz 1, (HI.out.2.2.1.below hW).fz 2⟩)
        have HT1 : Hid (∀ W, Below wr.heap.size wr W -> Below w.heap.size w (W.setCell ⟨w.heap.size + 1, 1, none⟩ (.int .u64 (X1 : Int))) /\ At4 (W.setCell ⟨w.heap.size + 1, 1, none⟩ (.int .u64 (X1 : Int))) w.heap.size (.int .i64 0) (.int .u64 0) (.int .u64 0) (.int .i64 0) /\ At4 (W.setCell ⟨w.heap.size + 1, 1, none⟩ (.int .u64 (X1 : Int))) (w.heap.size + 1) (.int .i64 (N : Int)) (.int .u64 (X1 : Int)) (.int .u64 (Z : Int)) (.int .i64 ph)) := hide (fun W hW => ⟨(bkp HI.out.1 hW).setCell (p := ⟨w.heap.size + 1, 1, none⟩) (show w.heap.size <= w.heap.size + 1 by omega) _, (HI.out.2.1.below hW).off (by omega), (HI.out.2.2.1.below hW).set1 _⟩)
        have HPA := hide HI.out.2.2.2
        have hst := store_i
        clear HI
        go_wp2_with (first
          | (go_at_call 82; refine (hib _).mono ?_; rintro e w3 ⟨rfl, hw⟩; obtain rfl := hw.symm))
        refine wp_region_quiet_last (C := fun W => Below wr.heap.size wr W) (by kernel_rfl) 9 rfl (by kernel_rfl) (by kernel_rfl) (bdrew (Below.refl _ _) 1) ?_
        simp only [List.take_succ_cons, List.take_zero]
        repeat
          refine wpQuiet_step (fun K hK => ?_)
          go_simp
          first
            | (refine hK _ ?_; clear hK K)
            | (apply Exists.intro
               refine ⟨fun W hW => ?_, hK _ ?_⟩
               first
                 | (obtain ⟨⟨d0, d1, d2, d3, d4⟩, d5, d6⟩ := HC1.out W hW; go_simp; rfl)
               clear hK K)
        refine wpQuiet_nil ?_
        intro W1 hW
        obtain ⟨⟨d0, d1, d2, d3, d4⟩, d5, d6⟩ := HC1.out W1 hW
        have HT1' := hide (HT1.out W1 hW)
        clear hW HC1 HT1
        clear x0 x1 x2 x3 x4
        go_wp2_with fail
        generalize W1.setCell ⟨w.heap.size + 1, 1, none⟩ (.int .u64 (X1 : Int)) = wm at *
        have HC2 : Hid (∀ W, Below wm.heap.size wm W -> (W.cell? ⟨w.heap.size + 1, 0, none⟩ = some (.int .i64 (N : Int)) /\ W.cell? ⟨w.heap.size + 1, 1, none⟩ = some (.int .u64 (X1 : Int)) /\ W.cell? ⟨w.heap.size + 1, 2, none⟩ = some (.int .u64 (Z : Int)) /\ W.cell? ⟨w.heap.size + 1, 3, none⟩ = some (.int .i64 ph) /\ w.heap.size + 1 < W.heap.size) /\ W.frozen? ⟨w.heap.size + 1, 1, none⟩ = false /\ W.frozen? ⟨w.heap.size + 1, 2, none⟩ = false) := hide (fun W hW => ⟨(HT1'.out.2.2.below hW).cells, (HT1'.out.2.2.below hW).fz 1, (HT1'.out.2.2.below hW).fz 2⟩)
        have HT2 : Hid (∀ W, Below wm.heap.size wm W -> Below w.heap.size w (W.setCell ⟨w.heap.size + 1, 2, none⟩ (.int .u64 (Z1 : Int))) /\ At4 (W.setCell ⟨w.heap.size + 1, 2, none⟩ (.int .u64 (Z1 : Int))) w.heap.size (.int .i64 0) (.int .u64 0) (.int .u64 0) (.int .i64 0) /\ At4 (W.setCell ⟨w.heap.size + 1, 2, none⟩ (.int .u64 (Z1 : Int))) (w.heap.size + 1) (.int .i64 (N : Int)) (.int .u64 (X1 : Int)) (.int .u64 (Z1 : Int)) (.int .i64 ph)) := hide (fun W hW => ⟨(bkp HT1'.out.1 hW).setCell (p := ⟨w.heap.size + 1, 2, none⟩) (show w.heap.size <= w.heap.size + 1 by omega) _, (HT1'.out.2.1.below hW).off (by omega), (HT1'.out.2.2.below hW).set2 _⟩)
        clear d0 d1 d2 d3 d4 d5 d6
        refine wp_region_quiet_last (C := fun W => Below wm.heap.size wm W) (by kernel_rfl) 9 rfl (by kernel_rfl) (by kernel_rfl) (bdrew (Below.refl _ _) 1) ?_
        simp only [List.take_succ_cons, List.take_zero]
        repeat
          refine wpQuiet_step (fun K hK => ?_)
          go_simp
          first
            | (refine hK _ ?_; clear hK K)
            | (apply Exists.intro
               refine ⟨fun W hW => ?_, hK _ ?_⟩
               first
                 | (obtain ⟨⟨d0, d1, d2, d3, d4⟩, d5, d6⟩ := HC2.out W hW; go_simp; rfl)
               clear hK K)
        refine wpQuiet_nil ?_
        intro W2 hW
        obtain ⟨⟨d0, d1, d2, d3, d4⟩, d5, d6⟩ := HC2.out W2 hW
        have HT2' := hide (HT2.out W2 hW)
        clear hW HC2 HT2
        go_wp2_with fail
        go_roundw
        case rel => exact ⟨k + 1, by go_num, by omega, hide ⟨HT2'.out.1, HT2'.out.2.1, by rw [hX1, hZ1]; exact HT2'.out.2.2, fun j b' hj hb' => by
          by_cases e : j = k
          . subst e
            rw [HBB.out] at hb'
            cases hb'
            exact HOK.out
          . exact HPA.out j b' (by omega) hb'⟩⟩
        case measure => simp [Go.RowKit.intOf]; omega
    . obtain rfl : k = N := by omega
      have hd : decide ((k : Int) < (k : Int)) = false := decide_eq_false (by omega)
      have HE : Hid (G = (⟨(k : Int), rd cx row k, rd cz row k, ph⟩, 0)) := hide (by
        rw [HG.out, if_neg]
        rw [Bool.not_eq_false]
        refine List.all_eq_true.2 (fun b hb => ?_)
        obtain ⟨j, hj⟩ := List.getElem?_of_mem hb
        have hlt : j < k := by have := (List.getElem?_eq_some_iff.1 hj).1; have := HN.out; omega
        exact HI.out.2.2.2 j b hlt hj)
      have hR := HI.out.2.1
      have HBi := hide HI.out.1
      unfold At4 at hR
      clear HI HG
      go_wp2_with (first
        | (refine wpList_store_row rfl _ _ _ rfl w.heap.size _ rfl rfl _ _ hR (by exact infoP) (by rfl) (allP _ _ _ _) ?_))
      refine bodyPost_ret (results_ct rfl _ _ w.heap.size _ _ _ _ rfl (setRow_heap _ _ _ _ _ _ hR) Tryd.underlying32 rfl (by exact infoP)) rfl ?_
      exact ⟨by rw [HE.out]; rfl, below_setRow HBi.out (Nat.le_refl _) _⟩
theorem pParse (l : List UInt8) (w : World) (hT : Ts w) : Calls Tryd.prog 80 #[str l] w fun e w' => e = .returned (.tuple #[pV (parR l).1, .int .i64 (parR l).2]) /\ Below w.heap.size w w' := by
  by_cases h : (cutP l).1 < 0 ∨ 64 < (cutP l).2.length
  . have e : parR l = (oP, 130) := by
      unfold parR
      rw [if_pos (h.elim .inl (fun h => .inr (.inl h)))]
    rw [e]
    exact pParse_out l h w hT
  . exact pParse_in l (by omega) (by omega) w hT
end Go.Proofs.YtaggifpnamjghaaDoor.Pau
