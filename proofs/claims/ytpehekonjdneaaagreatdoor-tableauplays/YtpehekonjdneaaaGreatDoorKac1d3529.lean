import Derived.Test.YtpehekonjdneaaaGreatDoorK294ddee7
import Derived.Test.YtpehekonjdneaaaGreatDoorK3329f2d9
set_option maxRecDepth 100000
set_option maxHeartbeats 4000000
namespace Go.Proofs.YtpehekonjdneaaaGreatDoor.Tbl
open Go.RowKit Go.Shelf Go.Proofs.YtpehekonjdneaaaGreatDoor.Pau Go.Proofs.YtpehekonjdneaaaGreatDoor.Gt
theorem cq_three (t : TT) (q : Int) : cqI t q = 0 ∨ cqI t q = 2 ∨ cqI t q = 140 := by
  unfold cqI
  split
  . split
    . exact .inl rfl
    . exact .inr (.inl rfl)
  . exact .inr (.inr rfl)
theorem dProject (t : TT) (a b : Option Addr) (ca cb : Nat) (q v : Int) (w : World) (h : Th w t a b ca cb) :
    Calls Tryz.prog 23 #[tV t a b ca cb, .int .i64 q, .int .i64 v] w fun e w' => ∃ a' b' ca' cb', e = .returned (.tuple #[tV (prR t q v).1 a' b' ca' cb', .int .i64 (prR t q v).2]) /\ Th w' (prR t q v).1 a' b' ca' cb' /\ Below w.heap.size w w' := by
  by_cases hc : cqI t q = 0
  . by_cases hv : v = 0 ∨ v = 1
    . obtain ⟨hch, h0, h1, h64, hz⟩ := cq_ok hc
      obtain ⟨k, rfl⟩ := Int.eq_ofNat_of_zero_le h0
      obtain ⟨N, hN⟩ : ∃ N : Nat, t.n = (N : Int) := ⟨t.n.toNat, by omega⟩
      have hkN : k < N := by omega
      have hng := lz_neg hch hN hkN
      have epr : prR t (k : Int) v = ((frR t (lzP t.n k v)).1, (frR t (lzP t.n k v)).2.2) := by unfold prR; rw [if_pos hc, if_pos hv, Int.toNat_natCast]
      have eod : odI t (k : Int) = if memI t (lzP (N : Int) k 0) = 1 then 0 else if memI t (lzP (N : Int) k 0) = -1 then 1 else 2 := by unfold odI; rw [if_pos hc, hN, Int.toNat_natCast]
      rw [epr]
      rcases mem_three t (lzP t.n k v) with hm | hm | hm
      . rw [fr_two hm]
        have hm0 : memI t (lzP (N : Int) k 0) = 0 := by
          rw [hN] at hm
          rcases hv with rfl | rfl
          . exact hm
          . omega
        have hod : odI t (k : Int) = 2 := by rw [eod, hm0]; rfl
        have hl : lsB t (lzP t.n k 0) = true := by rw [hN]; exact mem_zero hm0
        exact dProject_two t a b ca cb k v hch hc hv hod hl w h
      . rw [fr_one hm]
        have hod : odI t (k : Int) = v := by
          rw [eod]
          rw [hN] at hm
          rcases hv with rfl | rfl
          . rw [hm]; rfl
          . rw [show memI t (lzP (N : Int) k 0) = -1 by omega]; rfl
        exact dProject_one t a b ca cb k v hch hc hv hod w h
      . rw [fr_neg hm]
        refine dProject_z t a b ca cb k v 142 ?_ w h
        rw [hN] at hm
        rcases hv with rfl | rfl
        . exact .inr (.inr (.inr (.inr (.inl ⟨hc, rfl, by rw [eod, hm]; rfl, rfl⟩))))
        . exact .inr (.inr (.inr (.inr (.inr ⟨hc, rfl, by rw [eod, show memI t (lzP (N : Int) k 0) = 1 by omega]; rfl, rfl⟩))))
    . have e : prR t q v = (zrT, 2) := by unfold prR; rw [if_pos hc, if_neg hv]
      rw [e]
      refine dProject_z t a b ca cb q v 2 ?_ w h
      by_cases h1 : v < 0
      . exact .inr (.inr (.inl ⟨hc, h1, rfl⟩))
      . exact .inr (.inr (.inr (.inl ⟨hc, by omega, rfl⟩)))
  . have e : prR t q v = (zrT, cqI t q) := by unfold prR; rw [if_neg hc]
    rw [e]
    rcases cq_three t q with h1 | h1 | h1
    . exact absurd h1 hc
    . rw [h1]; exact dProject_z t a b ca cb q v 2 (.inr (.inl ⟨h1, rfl⟩)) w h
    . rw [h1]; exact dProject_z t a b ca cb q v 140 (.inl ⟨h1, rfl⟩) w h
theorem chk_x {q n : Int} (h0 : 0 <= q) (h1 : q < n) : chkP 2 [q] n = 0 := by
  have e1 : knB (rw' 2) = true := by decide
  have e2 : (rw' 2).q = 1 := by decide
  have e3 : apP 1 [q] = true := by simp [apP, apG]; omega
  unfold chkP
  rw [e1, e2, e3, if_neg (by decide), if_neg (by decide), if_neg]
  simp [mxG]
  omega
theorem gt_x {u : TT} {q : Int} (hc : chB u = true) (h0 : 0 <= q) (h1 : q < u.n) : gtR u 2 [q] = (thT u 2 [q], 0) := by
  unfold gtR
  rw [if_pos hc, if_pos (chk_x h0 h1), if_pos (by decide)]
theorem dSettle_p (t R : TT) (a b : Option Addr) (ca cb : Nat) (q v r : Int) (hpr : prR t q v = (R, r)) (hno : r ≠ 0 ∨ v ≠ 1) (w : World) (h : Th w t a b ca cb) :
    Calls Tryz.prog 25 #[tV t a b ca cb, .int .i64 q, .int .i64 v] w fun e w' => ∃ a' b' ca' cb', e = .returned (.tuple #[tV R a' b' ca' cb', .int .i64 r]) /\ Th w' R a' b' ca' cb' /\ Below w.heap.size w w' := by
  have HC1 := hide (fun W (hb : Below w.heap.size w W) => dProject t a b ca cb q v W (h.below hb))
  rw [hpr] at HC1
  obtain ⟨hA, hZ⟩ := two3 w (.int .i64 t.n) (.slice a t.s.length ca) (.slice b t.d.length cb) (.int .i64 0) (.slice none 0 0) (.slice none 0 0)
  have HZ := hide hZ
  have HB0 := hide (bkp (bnew w (.cells #[.int .i64 t.n, .slice a t.s.length ca, .slice b t.d.length cb] 29)) (bnew _ (.cells #[.int .i64 0, .slice none 0 0, .slice none 0 0] 29)))
  clear hA hZ h hpr
  unfold tV at HC1 ⊢
  simp only at HC1
  generalize t.s.length = ns at *
  generalize t.d.length = nd at *
  generalize t.n = n at *
  generalize hrs : R.s.length = rs at *
  generalize hrd : R.d.length = rd at *
  generalize hrn : R.n = rn at *
  clear hrs hrd hrn
  have hd : (r == 0) = false ∨ ((r == 0) = true /\ (v == 1) = false) := by
    by_cases e : r = 0
    . exact .inr ⟨by rw [e]; rfl, beq_false_of_ne (hno.resolve_left (fun h => h e))⟩
    . exact .inl (beq_false_of_ne e)
  clear hno
  rcases hd with hd | ⟨hd, hd2⟩
  all_goals (
    go_enter Tryz.func25, Tryz.ntmps25
    go_wp2_with fail
    refine (HC1.out _ HB0.out).mono ?_
    rintro e w1 ⟨a', b', ca', cb', rfl, hTh, hb1⟩
    have hbn := bnew w1 (.cells #[.int .i64 rn, .slice a' rs ca', .slice b' rd cb'] 29)
    have hR := (HZ.out.below hb1).below hbn
    obtain ⟨y0, y1, y2, y3⟩ := (At3.new w1 (.int .i64 rn) (.slice a' rs ca') (.slice b' rd cb')).cells
    have HX := hide (And.intro ((hTh.below hbn).row hR #[.int .i64 rn, .slice a' rs ca', .slice b' rd cb']) (bkp (bkp HB0.out hb1) hbn))
    unfold At3 at hR
    clear hTh hb1 hbn HZ HB0 HC1
    go_wp2_with (first
      | (refine wpList_store_row rfl _ _ _ rfl (w.heap.size + 1) _ rfl rfl _ _ hR (by exact infoT) (by rfl) (all3 _ _ _ _ _ _ _) ?_))
    refine bodyPost_ret (Pau.results_ct rfl _ _ (w.heap.size + 1) _ _ _ _ rfl (setRow_heap _ _ _ _ _ _ hR) Tryz.underlying29 rfl (by exact infoT)) rfl ?_
    exact ⟨a', b', ca', cb', rfl, HX.out.1, below_setRow HX.out.2 (by omega) _⟩)
theorem dSettle_x (t R : TT) (a b : Option Addr) (ca cb : Nat) (q : Int) (hpr : prR t q 1 = (R, 0)) (hgt : gtR R 2 [q] = (thT R 2 [q], 0)) (w : World) (h : Th w t a b ca cb) :
    Calls Tryz.prog 25 #[tV t a b ca cb, .int .i64 q, .int .i64 1] w fun e w' => ∃ a' b' ca' cb', e = .returned (.tuple #[tV (thT R 2 [q]) a' b' ca' cb', .int .i64 0]) /\ Th w' (thT R 2 [q]) a' b' ca' cb' /\ Below w.heap.size w w' := by
  have HC1 := hide (fun W (hb : Below w.heap.size w W) => dProject t a b ca cb q 1 W (h.below hb))
  rw [hpr] at HC1
  have HC2 : Hid (∀ W a b ca cb (ao : Option Addr) (c : Nat), Th W R a b ca cb -> Ns W ao [q] -> Calls Tryz.prog 20 #[tV R a b ca cb, .int .i64 2, .slice ao 1 c] W fun e w' => ∃ a' b' ca' cb', e = .returned (.tuple #[tV (thT R 2 [q]) a' b' ca' cb', .int .i64 0]) /\ Th w' (thT R 2 [q]) a' b' ca' cb' /\ Below W.heap.size W w') := hide (fun W a b ca cb ao c hT hN => by
    have := dGate R a b ca cb 2 [q] (by simp) ao c W hT hN
    rw [hgt] at this
    exact this)
  obtain ⟨hA, hZ⟩ := two3 w (.int .i64 t.n) (.slice a t.s.length ca) (.slice b t.d.length cb) (.int .i64 0) (.slice none 0 0) (.slice none 0 0)
  have HZ := hide hZ
  have HB0 := hide (bkp (bnew w (.cells #[.int .i64 t.n, .slice a t.s.length ca, .slice b t.d.length cb] 29)) (bnew _ (.cells #[.int .i64 0, .slice none 0 0, .slice none 0 0] 29)))
  have HN := hide (fun W => ns_one W q)
  clear hA hZ h hpr hgt
  unfold tV at HC1 HC2 ⊢
  simp only at HC1
  generalize t.s.length = ns at *
  generalize t.d.length = nd at *
  generalize t.n = n at *
  generalize thT R 2 [q] = X at *
  generalize hrs : R.s.length = rs at *
  generalize hrd : R.d.length = rd at *
  generalize hrn : R.n = rn at *
  clear hrs hrd hrn
  generalize hxs : X.s.length = xs at *
  generalize hxd : X.d.length = xd at *
  generalize hxn : X.n = xn at *
  clear hxs hxd hxn
  go_enter Tryz.func25, Tryz.ntmps25
  go_wp2_with fail
  refine (HC1.out _ HB0.out).mono ?_
  rintro e w1 ⟨a', b', ca', cb', rfl, hTh, hb1⟩
  have hbn := bnew w1 (.cells #[.int .i64 rn, .slice a' rs ca', .slice b' rd cb'] 29)
  have HK := hide (And.intro (bkp (bkp HB0.out hb1) hbn) (And.intro ((HZ.out.below hb1).below hbn) (hTh.below hbn)))
  obtain ⟨y0, y1, y2, y3⟩ := (At3.new w1 (.int .i64 rn) (.slice a' rs ca') (.slice b' rd cb')).cells
  have HNS : Hid (Ns ((w1.alloc (.cells #[.int .i64 rn, .slice a' rs ca', .slice b' rd cb'] 29)).alloc (.cells #[.int .i64 q] 3)) (some ⟨w1.heap.size + 1, 0, none⟩) [q]) := hide (by
    have := HN.out (w1.alloc (.cells #[.int .i64 rn, .slice a' rs ca', .slice b' rd cb'] 29))
    rw [show (w1.alloc (.cells #[.int .i64 rn, .slice a' rs ca', .slice b' rd cb'] 29)).heap.size = w1.heap.size + 1 by simp] at this
    exact this)
  clear hTh hb1 hbn HZ HB0 HC1
  go_wp2_with fail
  clear y0 y1 y2 y3
  generalize w1.alloc (.cells #[.int .i64 rn, .slice a' rs ca', .slice b' rd cb'] 29) = V1 at *
  have hb2 := bnew V1 (.cells #[.int .i64 q] 3)
  have HK2 := hide (And.intro (bkp HK.out.1 hb2) (And.intro (HK.out.2.1.below hb2) (HK.out.2.2.below hb2)))
  clear hb2
  refine (HC2.out _ _ _ _ _ _ _ HK2.out.2.2 HNS.out).mono ?_
  rintro e w3 ⟨a3, b3, ca3, cb3, rfl, hT3, hb3⟩
  have hR := HK2.out.2.1.below hb3
  have HX := hide (And.intro (hT3.row hR #[.int .i64 xn, .slice a3 xs ca3, .slice b3 xd cb3]) (bkp HK2.out.1 hb3))
  unfold At3 at hR
  clear hT3 hb3 HK HK2 HC2
  go_wp2_with (first
    | (refine wpList_store_row rfl _ _ _ rfl (w.heap.size + 1) _ rfl rfl _ _ hR (by exact infoT) (by rfl) (all3 _ _ _ _ _ _ _) ?_))
  refine bodyPost_ret (Pau.results_ct rfl _ _ (w.heap.size + 1) _ _ _ _ rfl (setRow_heap _ _ _ _ _ _ hR) Tryz.underlying29 rfl (by exact infoT)) rfl ?_
  exact ⟨a3, b3, ca3, cb3, rfl, HX.out.1, below_setRow HX.out.2 (by omega) _⟩
theorem dSettle (t : TT) (a b : Option Addr) (ca cb : Nat) (q v : Int) (w : World) (h : Th w t a b ca cb) :
    Calls Tryz.prog 25 #[tV t a b ca cb, .int .i64 q, .int .i64 v] w fun e w' => ∃ a' b' ca' cb', e = .returned (.tuple #[tV (stR t q v).1 a' b' ca' cb', .int .i64 (stR t q v).2]) /\ Th w' (stR t q v).1 a' b' ca' cb' /\ Below w.heap.size w w' := by
  by_cases hr : (prR t q v).2 = 0
  . by_cases hv : v = 0
    . have e : stR t q v = ((prR t q v).1, (prR t q v).2) := by unfold stR; rw [if_pos hr, if_pos hv]
      rw [e]
      exact dSettle_p t _ a b ca cb q v _ rfl (.inr (by omega)) w h
    . have hcq : cqI t q = 0 := by
        refine Classical.byContradiction fun hc => ?_
        unfold prR at hr
        rw [if_neg hc] at hr
        exact hc hr
      have hv1 : v = 0 ∨ v = 1 := by
        refine Classical.byContradiction fun hc => ?_
        unfold prR at hr
        rw [if_pos hcq, if_neg hc] at hr
        exact absurd hr (by decide)
      obtain rfl : v = 1 := hv1.resolve_left hv
      rcases ms_case hcq (.inr rfl) with ⟨-, e⟩ | ⟨-, u, hm⟩
      . rw [e] at hr; exact absurd hr (by decide)
      . obtain ⟨-, h0, h1, -, -⟩ := cq_ok hcq
        have e : stR t q 1 = (thT u 2 [q], 0) := by unfold stR; rw [hm.pr, if_pos rfl, if_neg (by decide)]
        rw [e]
        exact dSettle_x t u a b ca cb q hm.pr (gt_x hm.ch h0 (by rw [hm.n]; exact h1)) w h
  . have e : stR t q v = ((prR t q v).1, (prR t q v).2) := by unfold stR; rw [if_neg hr]
    rw [e]
    exact dSettle_p t _ a b ca cb q v _ rfl (.inl hr) w h
end Go.Proofs.YtpehekonjdneaaaGreatDoor.Tbl
