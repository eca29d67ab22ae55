import Derived.Test.YtllfplkefbhnfaaDoorKb6301d29
set_option maxRecDepth 100000
set_option maxHeartbeats 4000000
namespace Go.Proofs.YtllfplkefbhnfaaDoor.Tbl
open Go.RowKit Go.Proofs.YtllfplkefbhnfaaDoor.Pau Go.Proofs.YtllfplkefbhnfaaDoor.Gt
def fillL (N : Nat) (f : Nat -> P) (q : Nat) : List P := (List.range N).map (fun k => if k < q then f k else oP)
theorem fill_zero (N : Nat) (f : Nat -> P) : fillL N f 0 = List.replicate N oP := by
  unfold fillL
  rw [List.eq_replicate_iff]
  simp
theorem fill_len (N : Nat) (f : Nat -> P) (q : Nat) : (fillL N f q).length = N := by simp [fillL]
theorem fill_succ (N : Nat) (f : Nat -> P) (q : Nat) : (fillL N f q).set q (f q) = fillL N f (q + 1) := by
  unfold fillL
  refine List.ext_getElem? fun j => ?_
  rw [List.getElem?_set]
  simp only [List.getElem?_map, List.length_map, List.length_range]
  by_cases e : q = j
  . subst e
    rw [if_pos rfl]
    by_cases h : q < N
    . rw [if_pos h, List.getElem?_range h]
      simp
    . rw [if_neg h, List.getElem?_eq_none (by simp; omega)]
      rfl
  . rw [if_neg e]
    by_cases h : j < N
    . rw [List.getElem?_range h]
      simp only [Option.map_some, Option.some.injEq]
      by_cases h2 : j < q
      . rw [if_pos h2, if_pos (by omega)]
      . rw [if_neg h2, if_neg (by omega)]
    . rw [List.getElem?_eq_none (by simp; omega)]
      rfl
theorem fill_all (N : Nat) (f : Nat -> P) : fillL N f N = (List.range N).map f := by
  unfold fillL
  refine List.map_congr_left fun k hk => ?_
  rw [if_pos (List.mem_range.1 hk)]
def nzP (N q : Nat) : P := ⟨N, 0, 2 ^ q, 0⟩
def nxP (N q : Nat) : P := ⟨N, 2 ^ q, 0, 0⟩
def newT (N : Nat) : TT := ⟨N, (List.range N).map (nzP N), (List.range N).map (nxP N)⟩
theorem pow_lt64 {q : Nat} (h : q < 64) : 2 ^ q < 18446744073709551616 := by
  have h2 : 2 ^ q < 2 ^ 64 := Nat.pow_lt_pow_right (by decide) h
  exact Nat.lt_of_lt_of_eq h2 (by decide)
theorem shl_one (q : Nat) (h : q < 64) : IntKind.u64.wrap ((2 : Int) ^ q) = ((2 ^ q : Nat) : Int) := by
  have h2 := pow_lt64 h
  rw [wrapU, show ((2 : Int) ^ q) = ((2 ^ q : Nat) : Int) by simp]
  generalize 2 ^ q = m at *
  omega
theorem tNew_ok (N : Nat) (hN : N <= 64) (w : World) :
    Calls Tryd.prog 7 #[.int .i64 (N : Int)] w fun e w' => ∃ g1 g2, e = .returned (.tuple #[.agg #[.int .i64 (N : Int), .slice (some ⟨g1, 0, none⟩) N N, .slice (some ⟨g2, 0, none⟩) N N], .int .i64 0]) /\ To w' w.heap.size (newT N) g1 g2 /\ Below w.heap.size w w' := by
  have c1 := fun W => tBlank N hN W
  have d1 : decide ((N : Int) < 0) = false := decide_eq_false (by omega)
  have d2 : decide (64 < (N : Int)) = false := decide_eq_false (by omega)
  have HB0 := hide (bnew w (.cells #[.int .i64 0, .slice none 0 0, .slice none 0 0] 24))
  have HA0 := hide (At3.new w (.int .i64 0) (.slice none 0 0) (.slice none 0 0))
  go_enter Tryd.func7, Tryd.ntmps7
  go_wp2_with fail
  refine (c1 _).mono ?_
  rintro e w1 ⟨g1, g2, rfl, ht, hb1⟩
  have hbn := bnew w1 (.cells #[.int .i64 (N : Int), .slice (some ⟨g1, 0, none⟩) N N, .slice (some ⟨g2, 0, none⟩) N N] 24)
  have HB1 := hide (bkp (bkp HB0.out hb1) hbn)
  have HA1 := hide ((HA0.out.below hb1).below hbn)
  have HT1 := hide (At3.new w1 (.int .i64 (N : Int)) (.slice (some ⟨g1, 0, none⟩) N N) (.slice (some ⟨g2, 0, none⟩) N N))
  have HO1 := hide (ht.below hbn)
  have hlt1 := ht.s.lt
  have hlt2 := ht.d.lt
  have hg1 := ht.b1
  have hg2 := ht.b2
  simp only [World.size_alloc] at hg1 hg2
  clear ht hb1 hbn HB0 HA0
  go_wp2_with fail
  generalize w1.alloc (.cells #[.int .i64 (N : Int), .slice (some ⟨g1, 0, none⟩) N N, .slice (some ⟨g2, 0, none⟩) N N] 24) = W1 at *
  generalize w1.heap.size = gt at *
  have HI0 : Hid (Below w.heap.size w W1 /\ At3 W1 w.heap.size (.int .i64 0) (.slice none 0 0) (.slice none 0 0) /\ At3 W1 gt (.int .i64 (N : Int)) (.slice (some ⟨g1, 0, none⟩) N N) (.slice (some ⟨g2, 0, none⟩) N N) /\ PO W1 g1 (fillL N (nzP N) 0) /\ PO W1 g2 (fillL N (nxP N) 0)) := hide ⟨HB1.out, HA1.out, HT1.out, by rw [fill_zero]; exact HO1.out.s, by rw [fill_zero]; exact HO1.out.d⟩
  have hne := HO1.out.ne
  have h64 := shl_one
  clear HB1 HA1 HT1 HO1
  go_loopw [16] (fun vi wr => ∃ q : Nat, vi = .int .i64 (q : Int) /\ q <= N /\ Hid (Below w.heap.size w wr /\ At3 wr w.heap.size (.int .i64 0) (.slice none 0 0) (.slice none 0 0) /\ At3 wr gt (.int .i64 (N : Int)) (.slice (some ⟨g1, 0, none⟩) N N) (.slice (some ⟨g2, 0, none⟩) N N) /\ PO wr g1 (fillL N (nzP N) q) /\ PO wr g2 (fillL N (nxP N) q))) (fun vi _ => N - (Go.RowKit.intOf vi).toNat)
  case atStart => exact ⟨0, rfl, Nat.zero_le _, HI0⟩
  case round =>
    obtain ⟨q, rfl, hq, HI⟩ := hrel
    clear HI0
    obtain ⟨t0, t1, t2, t3⟩ := HI.out.2.2.1.cells
    by_cases hlt : q < N
    . have hd : decide ((q : Int) < (N : Int)) = true := decide_eq_true (by omega)
      have h64' := h64 q (by omega)
      have hp1 := HI.out.2.2.2.1.at (get_of (l := fillL N (nzP N) q) (i := q) (by rw [fill_len]; exact hlt))
      generalize (fillL N (nzP N) q).getD q oP = p1 at *
      obtain ⟨n1, x1, z1, ph1⟩ := p1
      obtain ⟨a0, a1, a2, a3⟩ := hp1
      have f1 := HI.out.2.2.2.1.fz
      have k1 := HI.out.2.2.2.1.lt
      simp only at a0 a1 a2 a3
      have HX : Hid (Below w.heap.size w (set4 wr g1 (q * 4) (nzP N q)) /\ At3 (set4 wr g1 (q * 4) (nzP N q)) w.heap.size (.int .i64 0) (.slice none 0 0) (.slice none 0 0) /\ At3 (set4 wr g1 (q * 4) (nzP N q)) gt (.int .i64 (N : Int)) (.slice (some ⟨g1, 0, none⟩) N N) (.slice (some ⟨g2, 0, none⟩) N N) /\ PO (set4 wr g1 (q * 4) (nzP N q)) g1 (fillL N (nzP N) (q + 1)) /\ PO (set4 wr g1 (q * 4) (nzP N q)) g2 (fillL N (nxP N) q)) := hide ⟨below_set4 HI.out.1 (by omega), HI.out.2.1.off (by omega), HI.out.2.2.1.off (by omega), by rw [← fill_succ]; exact HI.out.2.2.2.1.set _, HI.out.2.2.2.2.off (by omega)⟩
      clear HI
      go_wp2_with fail
      go_region
      change Exit.then _ _ _ _ (set4 wr g1 (q * 4) (nzP N q)).drew
      clear a0 a1 a2 a3 f1 k1 t0 t1 t2 t3
      generalize set4 wr g1 (q * 4) (nzP N q) = W2 at *
      obtain ⟨t0, t1, t2, t3⟩ := HX.out.2.2.1.cells
      have hp1 := HX.out.2.2.2.2.at (get_of (l := fillL N (nxP N) q) (i := q) (by rw [fill_len]; exact hlt))
      generalize (fillL N (nxP N) q).getD q oP = p1 at *
      obtain ⟨n1, x1, z1, ph1⟩ := p1
      obtain ⟨a0, a1, a2, a3⟩ := hp1
      have f1 := HX.out.2.2.2.2.fz
      have k1 := HX.out.2.2.2.2.lt
      simp only at a0 a1 a2 a3
      have HY : Hid (Below w.heap.size w (set4 W2 g2 (q * 4) (nxP N q)) /\ At3 (set4 W2 g2 (q * 4) (nxP N q)) w.heap.size (.int .i64 0) (.slice none 0 0) (.slice none 0 0) /\ At3 (set4 W2 g2 (q * 4) (nxP N q)) gt (.int .i64 (N : Int)) (.slice (some ⟨g1, 0, none⟩) N N) (.slice (some ⟨g2, 0, none⟩) N N) /\ PO (set4 W2 g2 (q * 4) (nxP N q)) g1 (fillL N (nzP N) (q + 1)) /\ PO (set4 W2 g2 (q * 4) (nxP N q)) g2 (fillL N (nxP N) (q + 1))) := hide ⟨below_set4 HX.out.1 (by omega), HX.out.2.1.off (by omega), HX.out.2.2.1.off (by omega), HX.out.2.2.2.1.off (by omega), by rw [← fill_succ]; exact HX.out.2.2.2.2.set _⟩
      clear HX
      go_wp2_with fail
      go_region
      change Exit.inBlock _ _ _ _ (set4 W2 g2 (q * 4) (nxP N q)).drew.drew
      clear a0 a1 a2 a3 f1 k1 t0 t1 t2 t3
      generalize set4 W2 g2 (q * 4) (nxP N q) = W3 at *
      go_wp2_with fail
      go_roundw
      case rel => exact ⟨q + 1, by go_num, by omega, hide ⟨HY.out.1.drew.drew, HY.out.2.1, HY.out.2.2.1, HY.out.2.2.2.1, HY.out.2.2.2.2⟩⟩
      case measure => simp [Go.RowKit.intOf]; omega
    . obtain rfl : N = q := by omega
      have hR := HI.out.2.1
      unfold At3 at hR
      have HZ : Hid (To (wr.setRow w.heap.size #[.int .i64 (N : Int), .slice (some ⟨g1, 0, none⟩) N N, .slice (some ⟨g2, 0, none⟩) N N]) w.heap.size (newT N) g1 g2) := hide ⟨(HI.out.2.2.2.1.of_block (setRow_other _ _ _ _ (by omega))).mono (fun i p h => by rw [fill_all]; exact h), (HI.out.2.2.2.2.of_block (setRow_other _ _ _ _ (by omega))).mono (fun i p h => by rw [fill_all]; exact h), by omega, by omega, hne⟩
      have HB := hide HI.out.1
      clear HI
      go_wp2_with (first
        | (refine wpList_store_row rfl _ _ _ rfl w.heap.size _ rfl rfl _ _ hR (by exact infoT) (by rfl) (all3 _ _ _ _ _ _ _) ?_))
      refine bodyPost_ret (results_ct rfl _ _ w.heap.size _ _ _ _ rfl (setRow_heap _ _ _ _ _ _ hR) Tryd.underlying24 rfl (by exact infoT)) rfl ?_
      exact ⟨g1, g2, rfl, HZ.out, below_setRow HB.out (Nat.le_refl _) _⟩
theorem tNew_no (n : Int) (hn : n < 0 ∨ 64 < n) (w : World) :
    Calls Tryd.prog 7 #[.int .i64 n] w fun e w' => e = .returned (.tuple #[.agg #[.int .i64 0, .slice none 0 0, .slice none 0 0], .int .i64 2]) /\ Below w.heap.size w w' := by
  have HB0 := hide (bnew w (.cells #[.int .i64 0, .slice none 0 0, .slice none 0 0] 24))
  have hR := At3.new w (.int .i64 0) (.slice none 0 0) (.slice none 0 0)
  unfold At3 at hR
  by_cases h : n < 0
  . have d1 : decide (n < 0) = true := decide_eq_true h
    clear hn
    go_enter Tryd.func7, Tryd.ntmps7
    go_wp2_with (first
      | (refine wpList_store_row rfl _ _ _ rfl w.heap.size _ rfl rfl _ _ hR (by exact infoT) (by rfl) (all3 _ _ _ _ _ _ _) ?_))
    refine bodyPost_ret (results_ct rfl _ _ w.heap.size _ _ _ _ rfl (setRow_heap _ _ _ _ _ _ hR) Tryd.underlying24 rfl (by exact infoT)) rfl ?_
    exact ⟨rfl, below_setRow HB0.out (Nat.le_refl _) _⟩
  . have d1 : decide (n < 0) = false := decide_eq_false h
    have d2 : decide (64 < n) = true := decide_eq_true (by omega)
    clear hn
    go_enter Tryd.func7, Tryd.ntmps7
    go_wp2_with (first
      | (refine wpList_store_row rfl _ _ _ rfl w.heap.size _ rfl rfl _ _ hR (by exact infoT) (by rfl) (all3 _ _ _ _ _ _ _) ?_))
    refine bodyPost_ret (results_ct rfl _ _ w.heap.size _ _ _ _ rfl (setRow_heap _ _ _ _ _ _ hR) Tryd.underlying24 rfl (by exact infoT)) rfl ?_
    exact ⟨rfl, below_setRow HB0.out (Nat.le_refl _) _⟩
end Go.Proofs.YtllfplkefbhnfaaDoor.Tbl
