import Derived.Test.YtllfplkefbhnfaaDoorKb27dd8dd
set_option maxRecDepth 100000
set_option maxHeartbeats 8000000
namespace Go.Proofs.YtllfplkefbhnfaaDoor.Tbl
open Go.RowKit Go.Shelf Go.Proofs.YtllfplkefbhnfaaDoor.Pau Go.Proofs.YtllfplkefbhnfaaDoor.Gt
theorem sz_iff {t : TT} : szB t = true ↔ 0 <= t.n /\ t.n <= 64 /\ (t.s.length : Int) = t.n /\ (t.d.length : Int) = t.n := by unfold szB; exact decide_eq_true_iff
theorem sz_fc {t : TT} (h : szB t = true) (p : P) : szB (fcT t p) = true := by
  rw [sz_iff] at h ⊢
  have e1 : (fcT t p).s.length = t.s.length := by show (List.set _ _ _).length = _; rw [List.length_set, ml_len]
  have e2 : (fcT t p).d.length = t.d.length := by show (List.set _ _ _).length = _; rw [List.length_set, ml_len]
  rw [e1, e2]
  exact h
theorem sz_fr {t : TT} (h : szB t = true) {p : P} (h0 : (frR t p).2.2 = 0) : szB (frR t p).1 = true := by
  rcases mem_three t p with hm | hm | hm
  . rw [fr_two hm]; exact sz_fc h p
  . rw [fr_one hm]; exact h
  . rw [fr_neg hm] at h0; cases h0
theorem sz_pr {t : TT} {q v : Int} (h0 : (prR t q v).2 = 0) : szB (prR t q v).1 = true := by
  unfold prR at h0 ⊢
  split at h0
  . rename_i hc
    rw [if_pos hc]
    split at h0
    . rename_i hv
      rw [if_pos hv]
      exact sz_fr (cq_ok hc).2.2.2.2 h0
    . cases h0
  . rename_i hc
    exact absurd h0 hc
def stR (t : TT) (q v : Int) : TT × Int := if (prR t q v).2 = 0 then (if v = 0 then prR t q v else (thT (prR t q v).1 2 [q], 0)) else prR t q v
theorem ns_one (w : World) (q : Int) : Ns (w.alloc (.cells #[.int .i64 q] 3)) (some ⟨w.heap.size, 0, none⟩) [q] := .inr ⟨w.heap.size, 0, rfl, fun j z hj => by
  match j, hj with
  | 0, hj =>
    simp at hj
    subst hj
    exact cell_of_row _ _ 0 _ _ _ (heap_alloc_new _ _)⟩
theorem tSettle (t : TT) (a b : Option Addr) (ca cb : Nat) (q v : Int) (w : World) (h : Th w t a b ca cb) (hT : Tg w) :
    Calls Tryd.prog 30 #[tV t a b ca cb, .int .i64 q, .int .i64 v] w fun e w' => ∃ a' b' ca' cb', e = .returned (.tuple #[tV (stR t q v).1 a' b' ca' cb', .int .i64 (stR t q v).2]) /\ Th w' (stR t q v).1 a' b' ca' cb' /\ Below w.heap.size w w' := by
  have HC1 := hide (fun W (hb : Below w.heap.size w W) => tProject t a b ca cb q v W (h.below hb))
  have HC2 := hide (fun W (hb : Below w.heap.size w W) a' b' ca' cb' (hh : Th W (prR t q v).1 a' b' ca' cb') g (hn : Ns W (some ⟨g, 0, none⟩) [q]) (hz : szB (prR t q v).1 = true) => tThrough (prR t q v).1 a' b' ca' cb' hz 2 [q] (by simp) (some ⟨g, 0, none⟩) 1 (by simp) W hh (hT.below hb) hn)
  have hsz : (prR t q v).2 = 0 -> szB (prR t q v).1 = true := sz_pr
  obtain ⟨hA, hZ⟩ := two3 w (.int .i64 t.n) (.slice a t.s.length ca) (.slice b t.d.length cb) (.int .i64 0) (.slice none 0 0) (.slice none 0 0)
  have HA := hide hA
  have HZ := hide hZ
  have HB0 := hide (bkp (bnew w (.cells #[.int .i64 t.n, .slice a t.s.length ca, .slice b t.d.length cb] 24)) (bnew _ (.cells #[.int .i64 0, .slice none 0 0, .slice none 0 0] 24)))
  have HNS := hide (fun W => ns_one W q)
  unfold stR
  unfold tV at HC1 HC2 ⊢
  generalize prR t q v = R at *
  obtain ⟨R, r2⟩ := R
  simp only [List.length_cons, List.length_nil] at *
  generalize t.s.length = ns at *
  generalize t.d.length = nd at *
  generalize t.n = n at *
  generalize hG : thT R 2 [q] = G at *
  clear hA hZ h hT hG
  have key : (r2 = 0 /\ ¬ v = 0) ∨ (r2 = 0 /\ v = 0) ∨ ¬ r2 = 0 := by
    by_cases h1 : r2 = 0
    . by_cases h2 : v = 0
      . exact .inr (.inl ⟨h1, h2⟩)
      . exact .inl ⟨h1, h2⟩
    . exact .inr (.inr h1)
  rcases key with ⟨rfl, h2⟩ | ⟨rfl, rfl⟩ | h1
  . rw [if_pos rfl, if_neg h2]
    have hz := hsz rfl
    have d1 : (v == 0) = false := beq_false_of_ne h2
    go_enter Tryd.func30, Tryd.ntmps30
    go_wp2_with fail
    refine (HC1.out _ HB0.out).mono ?_
    rintro e w1 ⟨a', b', ca', cb', rfl, hth, hb1⟩
    have hbn := bnew w1 (.cells #[.int .i64 R.n, .slice a' R.s.length ca', .slice b' R.d.length cb'] 24)
    have HB1 := hide (bkp (bkp HB0.out hb1) hbn)
    have HZ1 := hide ((HZ.out.below hb1).below hbn)
    have HT1 := hide (hth.below hbn)
    have H81 := hide (At3.new w1 (.int .i64 R.n) (.slice a' R.s.length ca') (.slice b' R.d.length cb'))
    have hW : (w1.alloc (.cells #[.int .i64 R.n, .slice a' R.s.length ca', .slice b' R.d.length cb'] 24)).heap.size = w1.heap.size + 1 := World.size_alloc ..
    have HN1 := hide (HNS.out (w1.alloc (.cells #[.int .i64 R.n, .slice a' R.s.length ca', .slice b' R.d.length cb'] 24)))
    rw [hW] at HN1
    clear hb1 hbn hth HB0 HA HZ HC1 hW
    go_wp2_with fail
    generalize w1.alloc (.cells #[.int .i64 R.n, .slice a' R.s.length ca', .slice b' R.d.length cb'] 24) = W1 at *
    generalize w1.heap.size = g8 at *
    have hbq := bnew W1 (.cells #[.int .i64 q] 3)
    refine (HC2.out _ (bkp HB1.out hbq) _ _ _ _ (HT1.out.below hbq) _ HN1.out hz).mono ?_
    rintro e w2 ⟨a2, b2, ca2, cb2, rfl, hth2, hb2⟩
    have hR := (HZ1.out.below hbq).below hb2
    have HX := hide (And.intro (hth2.row hR #[.int .i64 G.n, .slice a2 G.s.length ca2, .slice b2 G.d.length cb2]) (bkp (bkp HB1.out hbq) hb2))
    clear hb2 hth2 hbq HB1 HZ1 HT1 H81 HC2 HNS HN1
    unfold At3 at hR
    go_wp2_with (first
      | (refine wpList_store_row rfl _ _ _ rfl (w.heap.size + 1) _ rfl rfl _ _ hR (by exact infoT) (by rfl) (all3 _ _ _ _ _ _ _) ?_))
    refine bodyPost_ret (Pau.results_ct rfl _ _ (w.heap.size + 1) _ _ _ _ rfl (setRow_heap _ _ _ _ _ _ hR) Tryd.underlying24 rfl (by exact infoT)) rfl ?_
    exact ⟨a2, b2, ca2, cb2, rfl, HX.out.1, below_setRow HX.out.2 (by omega) _⟩
  . simp only [if_true]
    go_enter Tryd.func30, Tryd.ntmps30
    go_wp2_with fail
    refine (HC1.out _ HB0.out).mono ?_
    rintro e w1 ⟨a', b', ca', cb', rfl, hth, hb1⟩
    have hbn := bnew w1 (.cells #[.int .i64 R.n, .slice a' R.s.length ca', .slice b' R.d.length cb'] 24)
    have HB1 := hide (bkp (bkp HB0.out hb1) hbn)
    have hR := (HZ.out.below hb1).below hbn
    have HT1 := hide ((hth.below hbn).row hR #[.int .i64 R.n, .slice a' R.s.length ca', .slice b' R.d.length cb'])
    have H81 := hide (At3.new w1 (.int .i64 R.n) (.slice a' R.s.length ca') (.slice b' R.d.length cb'))
    clear hb1 hbn hth HB0 HA HZ HC1 HC2 HNS
    unfold At3 at hR
    go_wp2_with (first
      | (refine wpList_store_row rfl _ _ _ rfl (w.heap.size + 1) _ rfl rfl _ _ hR (by exact infoT) (by rfl) (all3 _ _ _ _ _ _ _) ?_))
    refine bodyPost_ret (Pau.results_ct rfl _ _ (w.heap.size + 1) _ _ _ _ rfl (setRow_heap _ _ _ _ _ _ hR) Tryd.underlying24 rfl (by exact infoT)) rfl ?_
    exact ⟨a', b', ca', cb', rfl, HT1.out, below_setRow HB1.out (by omega) _⟩
  . simp only [h1, if_false]
    have d1 : (r2 != 0) = true := bne_iff_ne.2 h1
    go_enter Tryd.func30, Tryd.ntmps30
    go_wp2_with fail
    refine (HC1.out _ HB0.out).mono ?_
    rintro e w1 ⟨a', b', ca', cb', rfl, hth, hb1⟩
    have hbn := bnew w1 (.cells #[.int .i64 R.n, .slice a' R.s.length ca', .slice b' R.d.length cb'] 24)
    have HB1 := hide (bkp (bkp HB0.out hb1) hbn)
    have hR := (HZ.out.below hb1).below hbn
    have HT1 := hide ((hth.below hbn).row hR #[.int .i64 R.n, .slice a' R.s.length ca', .slice b' R.d.length cb'])
    have H81 := hide (At3.new w1 (.int .i64 R.n) (.slice a' R.s.length ca') (.slice b' R.d.length cb'))
    clear hb1 hbn hth HB0 HA HZ HC1 HC2 HNS
    unfold At3 at hR
    go_wp2_with (first
      | (refine wpList_store_row rfl _ _ _ rfl (w.heap.size + 1) _ rfl rfl _ _ hR (by exact infoT) (by rfl) (all3 _ _ _ _ _ _ _) ?_))
    refine bodyPost_ret (Pau.results_ct rfl _ _ (w.heap.size + 1) _ _ _ _ rfl (setRow_heap _ _ _ _ _ _ hR) Tryd.underlying24 rfl (by exact infoT)) rfl ?_
    exact ⟨a', b', ca', cb', rfl, HT1.out, below_setRow HB1.out (by omega) _⟩
end Go.Proofs.YtllfplkefbhnfaaDoor.Tbl
