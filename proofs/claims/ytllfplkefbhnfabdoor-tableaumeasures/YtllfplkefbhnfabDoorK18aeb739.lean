import Derived.Test.YtllfplkefbhnfabDoorKaf770b61
import Derived.Test.YtllfplkefbhnfabDoorK4ea220cf
set_option maxRecDepth 100000
set_option maxHeartbeats 16000000
namespace Go.Proofs.YtllfplkefbhnfabDoor.Tbl
open Go.RowKit Go.Shelf Go.Proofs.YtllfplkefbhnfabDoor.Pau Go.Proofs.YtllfplkefbhnfabDoor.Gt
theorem cq_three (t : TT) (q : Int) : cqI t q = 140 ∨ cqI t q = 2 ∨ cqI t q = 0 := by
  unfold cqI
  split
  . split
    . exact .inr (.inr rfl)
    . exact .inr (.inl rfl)
  . exact .inl rfl
theorem ms_no {t : TT} {q v : Int} (hno : ¬ (cqI t q = 0 /\ (v = 0 ∨ v = 1))) : (cqI t q = 140 /\ prR t q v = (zrT, 140)) ∨ (cqI t q = 2 /\ prR t q v = (zrT, 2)) ∨ (cqI t q = 0 /\ prR t q v = (zrT, 2) /\ v < 0) ∨ (cqI t q = 0 /\ prR t q v = (zrT, 2) /\ 0 <= v /\ 1 < v) := by
  unfold prR
  rcases cq_three t q with e | e | e
  . left; exact ⟨e, by rw [if_neg (by omega), e]⟩
  . right; left; exact ⟨e, by rw [if_neg (by omega), e]⟩
  . right; right
    by_cases hv : v < 0
    . left; exact ⟨e, by rw [if_pos e, if_neg (by omega)], hv⟩
    . right; exact ⟨e, by rw [if_pos e, if_neg (by omega)], by omega, by omega⟩
theorem xMs_no (t : TT) (a b : Option Addr) (ca cb : Nat) (q v : Int) (p : P) (w : World) (hT : Tg w) (h : Th w t a b ca cb) (hno : ¬ (cqI t q = 0 /\ (v = 0 ∨ v = 1))) :
    Calls Tryd.prog 3 #[tV t a b ca cb, .int .i64 q, .int .i64 v, pV p] w fun e w' => e = .returned (.bool true) /\ Below w.heap.size w w' := by
  have HC1 := hide (fun W (hb : Below w.heap.size w W) => tOdds t a b ca cb q W (h.below hb))
  have HC2 := hide (fun W (hb : Below w.heap.size w W) => tProject t a b ca cb q v W (h.below hb))
  have HC6 := hide (fun W (hb : Below w.heap.size w W) => tAlive W (hT.below hb))
  have HTB : Hid (∀ W W' a b ca cb, Th W zrT a b ca cb -> Below W.heap.size W W' -> Th W' zrT a b ca cb) := hide (fun W W' a b ca cb h hb => h.below hb)
  obtain ⟨hA, hP⟩ := two34 w (.int .i64 t.n) (.slice a t.s.length ca) (.slice b t.d.length cb) (.int .i64 p.n) (.int .u64 (p.x : Int)) (.int .u64 (p.z : Int)) (.int .i64 p.ph)
  have HB0 := hide (bkp (bnew w (.cells #[.int .i64 t.n, .slice a t.s.length ca, .slice b t.d.length cb] 24)) (bnew _ (.cells #[.int .i64 p.n, .int .u64 (p.x : Int), .int .u64 (p.z : Int), .int .i64 p.ph] 27)))
  have HA0 := hide hA
  have HP0 := hide hP
  clear hA hP
  have hnum := tNum
  have hcs := ms_no hno
  unfold tV at HC1 HC2 ⊢
  generalize cqI t q = E at *
  generalize odI t q = O at *
  generalize prR t q v = R at *
  generalize t.s.length = ns at *
  generalize t.d.length = nd at *
  generalize t.n = tn at *
  clear h hT hno
  obtain ⟨pn, px, pz, pph⟩ := p
  unfold pV
  simp only at *
  have zn : zrT.n = 0 := rfl
  have zs : zrT.s.length = 0 := rfl
  have zd : zrT.d.length = 0 := rfl
  obtain ⟨un, hun⟩ : ∃ un, zrT.n = un := ⟨_, rfl⟩
  obtain ⟨us, hus⟩ : ∃ us, zrT.s.length = us := ⟨_, rfl⟩
  obtain ⟨ud, hud⟩ : ∃ ud, zrT.d.length = ud := ⟨_, rfl⟩
  clear zn zs zd
  rcases hcs with ⟨rfl, rfl⟩ | ⟨rfl, rfl⟩ | ⟨rfl, rfl, hv⟩ | ⟨rfl, rfl, hv, hv'⟩
  all_goals simp only at HC2
  all_goals rw [hun, hus, hud] at HC2
  all_goals clear hun hus hud
  . go_enter Tryd.func3, Tryd.ntmps3
    go_wp2_with fail
    generalize (w.alloc (.cells #[.int .i64 tn, .slice a ns ca, .slice b nd cb] 24)).alloc (.cells #[.int .i64 pn, .int .u64 (px : Int), .int .u64 (pz : Int), .int .i64 pph] 27) = W0 at *
    refine (HC1.out _ HB0.out).mono ?_
    rintro e w1 ⟨rfl, hb1⟩
    have HB1 := hide (bkp HB0.out hb1)
    have HA1 := hide (HA0.out.below hb1)
    have HP1 := hide (HP0.out.below hb1)
    clear hb1 HB0 HA0 HP0 HC1
    obtain ⟨x0, x1, x2, x3⟩ := HA1.out.cells
    go_wp2_with fail
    refine (HC2.out _ HB1.out).mono ?_
    rintro e w2 ⟨a1, b1, ca1, cb1, rfl, th2, hb2⟩
    have hbn := bnew w2 (.cells #[.int .i64 un, .slice a1 us ca1, .slice b1 ud cb1] 24)
    have HB2 := hide (bkp (bkp HB1.out hb2) hbn)
    have HA2 := hide ((HA1.out.below hb2).below hbn)
    have HP2 := hide ((HP1.out.below hb2).below hbn)
    have HTU := hide (HTB.out _ _ _ _ _ _ th2 hbn)
    have HU2 := hide (At3.new w2 (.int .i64 un) (.slice a1 us ca1) (.slice b1 ud cb1))
    clear hb2 hbn th2 HB1 HA1 HP1 HC2 x0 x1 x2 x3
    obtain ⟨y0, y1, y2, y3⟩ := HU2.out.cells
    go_wp2_with (first | (go_at_call 7; refine (hnum _ _).mono ?_; rintro e wn ⟨rfl, hw⟩; obtain rfl := hw.symm))
    refine (HC6.out _ HB2.out).mono ?_
    rintro e w6 ⟨rfl, hb6⟩
    have HB6 := hide (bkp HB2.out hb6)
    clear hb6 HB2
    go_wp2_with fail
    go_ret
    exact ⟨rfl, HB6.out⟩
  . go_enter Tryd.func3, Tryd.ntmps3
    go_wp2_with fail
    generalize (w.alloc (.cells #[.int .i64 tn, .slice a ns ca, .slice b nd cb] 24)).alloc (.cells #[.int .i64 pn, .int .u64 (px : Int), .int .u64 (pz : Int), .int .i64 pph] 27) = W0 at *
    refine (HC1.out _ HB0.out).mono ?_
    rintro e w1 ⟨rfl, hb1⟩
    have HB1 := hide (bkp HB0.out hb1)
    have HA1 := hide (HA0.out.below hb1)
    have HP1 := hide (HP0.out.below hb1)
    clear hb1 HB0 HA0 HP0 HC1
    obtain ⟨x0, x1, x2, x3⟩ := HA1.out.cells
    go_wp2_with fail
    refine (HC2.out _ HB1.out).mono ?_
    rintro e w2 ⟨a1, b1, ca1, cb1, rfl, th2, hb2⟩
    have hbn := bnew w2 (.cells #[.int .i64 un, .slice a1 us ca1, .slice b1 ud cb1] 24)
    have HB2 := hide (bkp (bkp HB1.out hb2) hbn)
    have HA2 := hide ((HA1.out.below hb2).below hbn)
    have HP2 := hide ((HP1.out.below hb2).below hbn)
    have HTU := hide (HTB.out _ _ _ _ _ _ th2 hbn)
    have HU2 := hide (At3.new w2 (.int .i64 un) (.slice a1 us ca1) (.slice b1 ud cb1))
    clear hb2 hbn th2 HB1 HA1 HP1 HC2 x0 x1 x2 x3
    obtain ⟨y0, y1, y2, y3⟩ := HU2.out.cells
    go_wp2_with (first | (go_at_call 7; refine (hnum _ _).mono ?_; rintro e wn ⟨rfl, hw⟩; obtain rfl := hw.symm))
    refine (HC6.out _ HB2.out).mono ?_
    rintro e w6 ⟨rfl, hb6⟩
    have HB6 := hide (bkp HB2.out hb6)
    clear hb6 HB2
    go_wp2_with fail
    go_ret
    exact ⟨rfl, HB6.out⟩
  . have hd : decide (v < 0) = true := decide_eq_true hv
    go_enter Tryd.func3, Tryd.ntmps3
    go_wp2_with fail
    generalize (w.alloc (.cells #[.int .i64 tn, .slice a ns ca, .slice b nd cb] 24)).alloc (.cells #[.int .i64 pn, .int .u64 (px : Int), .int .u64 (pz : Int), .int .i64 pph] 27) = W0 at *
    refine (HC1.out _ HB0.out).mono ?_
    rintro e w1 ⟨rfl, hb1⟩
    have HB1 := hide (bkp HB0.out hb1)
    have HA1 := hide (HA0.out.below hb1)
    have HP1 := hide (HP0.out.below hb1)
    clear hb1 HB0 HA0 HP0 HC1
    obtain ⟨x0, x1, x2, x3⟩ := HA1.out.cells
    go_wp2_with fail
    refine (HC2.out _ HB1.out).mono ?_
    rintro e w2 ⟨a1, b1, ca1, cb1, rfl, th2, hb2⟩
    have hbn := bnew w2 (.cells #[.int .i64 un, .slice a1 us ca1, .slice b1 ud cb1] 24)
    have HB2 := hide (bkp (bkp HB1.out hb2) hbn)
    have HA2 := hide ((HA1.out.below hb2).below hbn)
    have HP2 := hide ((HP1.out.below hb2).below hbn)
    have HTU := hide (HTB.out _ _ _ _ _ _ th2 hbn)
    have HU2 := hide (At3.new w2 (.int .i64 un) (.slice a1 us ca1) (.slice b1 ud cb1))
    clear hb2 hbn th2 HB1 HA1 HP1 HC2 x0 x1 x2 x3
    obtain ⟨y0, y1, y2, y3⟩ := HU2.out.cells
    go_wp2_with (first | (go_at_call 7; refine (hnum _ _).mono ?_; rintro e wn ⟨rfl, hw⟩; obtain rfl := hw.symm))
    refine (HC6.out _ HB2.out).mono ?_
    rintro e w6 ⟨rfl, hb6⟩
    have HB6 := hide (bkp HB2.out hb6)
    clear hb6 HB2
    go_wp2_with fail
    go_ret
    exact ⟨rfl, HB6.out⟩
  . have hd : decide (v < 0) = false := decide_eq_false (by omega)
    have hd' : decide (1 < v) = true := decide_eq_true hv'
    go_enter Tryd.func3, Tryd.ntmps3
    go_wp2_with fail
    generalize (w.alloc (.cells #[.int .i64 tn, .slice a ns ca, .slice b nd cb] 24)).alloc (.cells #[.int .i64 pn, .int .u64 (px : Int), .int .u64 (pz : Int), .int .i64 pph] 27) = W0 at *
    refine (HC1.out _ HB0.out).mono ?_
    rintro e w1 ⟨rfl, hb1⟩
    have HB1 := hide (bkp HB0.out hb1)
    have HA1 := hide (HA0.out.below hb1)
    have HP1 := hide (HP0.out.below hb1)
    clear hb1 HB0 HA0 HP0 HC1
    obtain ⟨x0, x1, x2, x3⟩ := HA1.out.cells
    go_wp2_with fail
    refine (HC2.out _ HB1.out).mono ?_
    rintro e w2 ⟨a1, b1, ca1, cb1, rfl, th2, hb2⟩
    have hbn := bnew w2 (.cells #[.int .i64 un, .slice a1 us ca1, .slice b1 ud cb1] 24)
    have HB2 := hide (bkp (bkp HB1.out hb2) hbn)
    have HA2 := hide ((HA1.out.below hb2).below hbn)
    have HP2 := hide ((HP1.out.below hb2).below hbn)
    have HTU := hide (HTB.out _ _ _ _ _ _ th2 hbn)
    have HU2 := hide (At3.new w2 (.int .i64 un) (.slice a1 us ca1) (.slice b1 ud cb1))
    clear hb2 hbn th2 HB1 HA1 HP1 HC2 x0 x1 x2 x3
    obtain ⟨y0, y1, y2, y3⟩ := HU2.out.cells
    go_wp2_with (first | (go_at_call 7; refine (hnum _ _).mono ?_; rintro e wn ⟨rfl, hw⟩; obtain rfl := hw.symm))
    refine (HC6.out _ HB2.out).mono ?_
    rintro e w6 ⟨rfl, hb6⟩
    have HB6 := hide (bkp HB2.out hb6)
    clear hb6 HB2
    go_wp2_with fail
    go_ret
    exact ⟨rfl, HB6.out⟩
theorem xMs_nil (t : TT) (a b : Option Addr) (ca cb : Nat) (q v : Int) (p : P) (w : World) (hT : Tg w) (h : Th w t a b ca cb) (hv : v = 0 ∨ v = 1) (hcq : cqI t q = 0) (ho : odI t q = 1 - v) (hr : prR t q v = (zrT, 142)) :
    Calls Tryd.prog 3 #[tV t a b ca cb, .int .i64 q, .int .i64 v, pV p] w fun e w' => e = .returned (.bool true) /\ Below w.heap.size w w' := by
  have HC1 := hide (fun W (hb : Below w.heap.size w W) => tOdds t a b ca cb q W (h.below hb))
  have HC2 := hide (fun W (hb : Below w.heap.size w W) => tProject t a b ca cb q v W (h.below hb))
  have HC6 := hide (fun W (hb : Below w.heap.size w W) => tAlive W (hT.below hb))
  have HTB : Hid (∀ W W' a b ca cb, Th W zrT a b ca cb -> Below W.heap.size W W' -> Th W' zrT a b ca cb) := hide (fun W W' a b ca cb h hb => h.below hb)
  obtain ⟨hA, hP⟩ := two34 w (.int .i64 t.n) (.slice a t.s.length ca) (.slice b t.d.length cb) (.int .i64 p.n) (.int .u64 (p.x : Int)) (.int .u64 (p.z : Int)) (.int .i64 p.ph)
  have HB0 := hide (bkp (bnew w (.cells #[.int .i64 t.n, .slice a t.s.length ca, .slice b t.d.length cb] 24)) (bnew _ (.cells #[.int .i64 p.n, .int .u64 (p.x : Int), .int .u64 (p.z : Int), .int .i64 p.ph] 27)))
  have HA0 := hide hA
  have HP0 := hide hP
  clear hA hP
  have hnum := tNum
  rw [hr] at HC2
  rw [hcq, ho] at HC1
  unfold tV at HC1 HC2 ⊢
  generalize t.s.length = ns at *
  generalize t.d.length = nd at *
  clear h hT hcq ho hr
  generalize t.n = tn at *
  obtain ⟨pn, px, pz, pph⟩ := p
  unfold pV
  simp only at *
  have zn : zrT.n = 0 := rfl
  obtain ⟨un, hun⟩ : ∃ un, zrT.n = un := ⟨_, rfl⟩
  obtain ⟨us, hus⟩ : ∃ us, zrT.s.length = us := ⟨_, rfl⟩
  obtain ⟨ud, hud⟩ : ∃ ud, zrT.d.length = ud := ⟨_, rfl⟩
  rw [hun, hus, hud] at HC2
  rw [hun] at zn
  subst zn
  clear hun hus hud
  rcases hv with rfl | rfl
  . go_enter Tryd.func3, Tryd.ntmps3
    go_wp2_with fail
    generalize (w.alloc (.cells #[.int .i64 tn, .slice a ns ca, .slice b nd cb] 24)).alloc (.cells #[.int .i64 pn, .int .u64 (px : Int), .int .u64 (pz : Int), .int .i64 pph] 27) = W0 at *
    refine (HC1.out _ HB0.out).mono ?_
    rintro e w1 ⟨rfl, hb1⟩
    have HB1 := hide (bkp HB0.out hb1)
    have HA1 := hide (HA0.out.below hb1)
    have HP1 := hide (HP0.out.below hb1)
    clear hb1 HB0 HA0 HP0 HC1
    obtain ⟨x0, x1, x2, x3⟩ := HA1.out.cells
    go_wp2_with fail
    refine (HC2.out _ HB1.out).mono ?_
    rintro e w2 ⟨a1, b1, ca1, cb1, rfl, th2, hb2⟩
    have hbn := bnew w2 (.cells #[.int .i64 0, .slice a1 us ca1, .slice b1 ud cb1] 24)
    have HB2 := hide (bkp (bkp HB1.out hb2) hbn)
    have HA2 := hide ((HA1.out.below hb2).below hbn)
    have HP2 := hide ((HP1.out.below hb2).below hbn)
    have HTU := hide (HTB.out _ _ _ _ _ _ th2 hbn)
    have HU2 := hide (At3.new w2 (.int .i64 0) (.slice a1 us ca1) (.slice b1 ud cb1))
    clear hb2 hbn th2 HB1 HA1 HP1 HC2 x0 x1 x2 x3
    obtain ⟨y0, y1, y2, y3⟩ := HU2.out.cells
    go_wp2_with (first | (go_at_call 7; refine (hnum _ _).mono ?_; rintro e wn ⟨rfl, hw⟩; obtain rfl := hw.symm))
    refine (HC6.out _ HB2.out).mono ?_
    rintro e w6 ⟨rfl, hb6⟩
    have HB6 := hide (bkp HB2.out hb6)
    clear hb6 HB2
    go_wp2_with fail
    go_ret
    exact ⟨rfl, HB6.out⟩
  . go_enter Tryd.func3, Tryd.ntmps3
    go_wp2_with fail
    generalize (w.alloc (.cells #[.int .i64 tn, .slice a ns ca, .slice b nd cb] 24)).alloc (.cells #[.int .i64 pn, .int .u64 (px : Int), .int .u64 (pz : Int), .int .i64 pph] 27) = W0 at *
    refine (HC1.out _ HB0.out).mono ?_
    rintro e w1 ⟨rfl, hb1⟩
    have HB1 := hide (bkp HB0.out hb1)
    have HA1 := hide (HA0.out.below hb1)
    have HP1 := hide (HP0.out.below hb1)
    clear hb1 HB0 HA0 HP0 HC1
    obtain ⟨x0, x1, x2, x3⟩ := HA1.out.cells
    go_wp2_with fail
    refine (HC2.out _ HB1.out).mono ?_
    rintro e w2 ⟨a1, b1, ca1, cb1, rfl, th2, hb2⟩
    have hbn := bnew w2 (.cells #[.int .i64 0, .slice a1 us ca1, .slice b1 ud cb1] 24)
    have HB2 := hide (bkp (bkp HB1.out hb2) hbn)
    have HA2 := hide ((HA1.out.below hb2).below hbn)
    have HP2 := hide ((HP1.out.below hb2).below hbn)
    have HTU := hide (HTB.out _ _ _ _ _ _ th2 hbn)
    have HU2 := hide (At3.new w2 (.int .i64 0) (.slice a1 us ca1) (.slice b1 ud cb1))
    clear hb2 hbn th2 HB1 HA1 HP1 HC2 x0 x1 x2 x3
    obtain ⟨y0, y1, y2, y3⟩ := HU2.out.cells
    go_wp2_with (first | (go_at_call 7; refine (hnum _ _).mono ?_; rintro e wn ⟨rfl, hw⟩; obtain rfl := hw.symm))
    refine (HC6.out _ HB2.out).mono ?_
    rintro e w6 ⟨rfl, hb6⟩
    have HB6 := hide (bkp HB2.out hb6)
    clear hb6 HB2
    go_wp2_with fail
    go_ret
    exact ⟨rfl, HB6.out⟩
theorem ms_key {t u : TT} {q v : Int} (hcq : cqI t q = 0) (h : Ms t u q v) (p : P) : csI u p = csI t p /\ (csI t p = 2 ∨ (csI t p = 0 /\ (if fitP p (lzP t.n q.toNat 0) = true then (0 : Int) else 130) = 0 /\ (mbI t p = 0 ∨ (fitP p (lzP t.n q.toNat 0) && comB p (lzP t.n q.toNat 0)) = false ∨ mbI t p = mbI u p))) := by
  obtain ⟨hch, h0, h1, h64, hsz⟩ := cq_ok hcq
  have e1 : csI t p = if sgB p t.n = true then 0 else 2 := by unfold csI; rw [if_pos hch]
  have e2 : csI u p = if sgB p t.n = true then 0 else 2 := by unfold csI; rw [if_pos h.ch, h.n]
  refine ⟨by rw [e1, e2], ?_⟩
  cases hs : sgB p t.n
  . left; rw [e1, hs]; rfl
  . right
    rw [hs] at e1 e2
    have f1 : csI t p = 0 := e1
    have f2 : csI u p = 0 := e2
    obtain ⟨N, hN⟩ : ∃ N : Nat, t.n = (N : Int) := ⟨t.n.toNat, by omega⟩
    have hn64 := (sz_of hsz).2.1
    have hs' := hs
    rw [hN] at hs'
    have rz := (sgB_iff.1 (sg_lz (N := N) (q := q.toNat) (by omega) (by omega) (v := 0) (.inl rfl))).1
    have hf : fitP p (lzP t.n q.toNat 0) = true := by rw [hN]; exact (sgB_iff.1 hs').1.fit rz
    refine ⟨f1, by rw [if_pos hf], ?_⟩
    rw [hf]
    unfold mbI
    rw [if_pos f1, if_pos f2]
    by_cases hm : memI t p = 0
    . exact .inl hm
    . right
      cases hc : comB p (lzP t.n q.toNat 0)
      . exact .inl rfl
      . exact .inr (h.keep p hs hm hc).symm
theorem xMs_ok (t u : TT) (a b : Option Addr) (ca cb : Nat) (k : Nat) (v : Int) (p : P) (hp : Wd p) (w : World) (hT : Tg w) (h : Th w t a b ca cb) (hv : v = 0 ∨ v = 1) (hcq : cqI t (k : Int) = 0) (ho : odI t (k : Int) ≠ 1 - v) (hm : Ms t u (k : Int) v) :
    Calls Tryd.prog 3 #[tV t a b ca cb, .int .i64 (k : Int), .int .i64 v, pV p] w fun e w' => e = .returned (.bool true) /\ Below w.heap.size w w' := by
  obtain ⟨ecs, hkey⟩ := ms_key hcq hm p
  have hk64 : k < 64 := by have := (cq_ok hcq).2.2.2.1; omega
  have HC1 := hide (fun W (hb : Below w.heap.size w W) => tOdds t a b ca cb (k : Int) W (h.below hb))
  have HC2 := hide (fun W (hb : Below w.heap.size w W) => tProject t a b ca cb (k : Int) v W (h.below hb))
  have HC3 := hide (fun W a b ca cb (h : Th W u a b ca cb) => tOdds u a b ca cb (k : Int) W h)
  have HC4 := hide (fun W a b ca cb (h : Th W u a b ca cb) => tProject u a b ca cb (k : Int) v W h)
  have HC5 := hide (fun W a b ca cb (h : Th W u a b ca cb) => tProject u a b ca cb (k : Int) (1 - v) W h)
  have HC7 := hide (fun W a b ca cb a2 b2 ca2 cb2 (h1 : Th W u a b ca cb) (h2 : Th W u a2 b2 ca2 cb2) => dAlike u u a b a2 b2 ca cb ca2 cb2 W h1 h2)
  have HC8 := hide (fun W a b ca cb (h : Th W u a b ca cb) => tCheck u a b ca cb W h)
  have HC9 := hide (fun W (hb : Below w.heap.size w W) => tMemberP t a b ca cb p hp W (h.below hb))
  have HC10 := hide (fun W a b ca cb (h : Th W u a b ca cb) => tMemberP u a b ca cb p hp W h)
  have HC11 := hide (fun W => pCommute p (lzP t.n k 0) hp (wd_lz t.n hk64 0) W)
  have HC6 := hide (fun W (hb : Below w.heap.size w W) => tAlive W (hT.below hb))
  have HTB : Hid (∀ W W' a b ca cb, Th W u a b ca cb -> Below W.heap.size W W' -> Th W' u a b ca cb) := hide (fun W W' a b ca cb h hb => h.below hb)
  obtain ⟨hA, hP⟩ := two34 w (.int .i64 t.n) (.slice a t.s.length ca) (.slice b t.d.length cb) (.int .i64 p.n) (.int .u64 (p.x : Int)) (.int .u64 (p.z : Int)) (.int .i64 p.ph)
  have HB0 := hide (bkp (bnew w (.cells #[.int .i64 t.n, .slice a t.s.length ca, .slice b t.d.length cb] 24)) (bnew _ (.cells #[.int .i64 p.n, .int .u64 (p.x : Int), .int .u64 (p.z : Int), .int .i64 p.ph] 27)))
  have HA0 := hide hA
  have HP0 := hide hP
  clear hA hP
  have hnum := tNum
  have hch : chI u = 0 := by unfold chI; rw [if_pos hm.ch]
  rw [hcq] at HC1
  rw [hm.pr] at HC2
  rw [hm.od, hm.cq] at HC3
  rw [hm.pr2] at HC4
  rw [hm.no] at HC5
  rw [hch] at HC8
  rw [ecs] at HC10
  simp only [decide_true] at HC7
  rw [Int.toNat_natCast] at hkey
  have hlz : pV (lzP t.n k 0) = .agg #[.int .i64 t.n, .int .u64 0, .int .u64 ((2 ^ k : Nat) : Int), .int .i64 0] := rfl
  rw [hlz] at HC11
  clear hlz
  generalize (fitP p (lzP t.n k 0) && comB p (lzP t.n k 0)) = is at *
  generalize (if fitP p (lzP t.n k 0) = true then (0 : Int) else 130) = L at *
  unfold tV at HC1 HC2 HC3 HC4 HC5 HC7 HC8 HC9 HC10 ⊢
  have HK := hide hkey
  generalize (prR u (k : Int) (1 - v)).1 = R5 at *
  clear hkey h hT hcq hm hch ecs hp
  generalize odI t (k : Int) = O at *
  generalize mbI t p = A at *
  generalize mbI u p = B at *
  generalize csI t p = J at *
  generalize t.s.length = ns at *
  generalize t.d.length = nd at *
  generalize t.n = tn at *
  generalize R5.s.length = rs at *
  generalize R5.d.length = rd at *
  generalize R5.n = rn at *
  generalize hus : u.s.length = us at *
  generalize hud : u.d.length = ud at *
  generalize hun : u.n = un at *
  clear hus hud hun
  obtain ⟨pn, px, pz, pph⟩ := p
  unfold pV at HC9 HC10 HC11 ⊢
  simp only at *
  have e1 := shl_one k hk64
  have hq64 : (k : Int) <= 64 := by omega
  have hq0 : (0 : Int) <= (k : Int) := by omega
  rcases hv with rfl | rfl
  . have hO : (O == 1) = false := beq_false_of_ne ho
    clear ho
    go_enter Tryd.func3, Tryd.ntmps3
    go_wp2_with fail
    generalize (w.alloc (.cells #[.int .i64 tn, .slice a ns ca, .slice b nd cb] 24)).alloc (.cells #[.int .i64 pn, .int .u64 (px : Int), .int .u64 (pz : Int), .int .i64 pph] 27) = W0 at *
    refine (HC1.out _ HB0.out).mono ?_
    rintro e w1 ⟨rfl, hb1⟩
    have HB1 := hide (bkp HB0.out hb1)
    have HA1 := hide (HA0.out.below hb1)
    have HP1 := hide (HP0.out.below hb1)
    clear hb1 HB0 HA0 HP0 HC1
    obtain ⟨x0, x1, x2, x3⟩ := HA1.out.cells
    go_wp2_with fail
    refine (HC2.out _ HB1.out).mono ?_
    rintro e w2 ⟨a1, b1, ca1, cb1, rfl, th2, hb2⟩
    have hbn := bnew w2 (.cells #[.int .i64 un, .slice a1 us ca1, .slice b1 ud cb1] 24)
    have HB2 := hide (bkp (bkp HB1.out hb2) hbn)
    have HA2 := hide ((HA1.out.below hb2).below hbn)
    have HP2 := hide ((HP1.out.below hb2).below hbn)
    have HT2 := hide (HTB.out _ _ _ _ _ _ th2 hbn)
    have HU2 := hide (At3.new w2 (.int .i64 un) (.slice a1 us ca1) (.slice b1 ud cb1))
    clear hb2 hbn th2 HB1 HA1 HP1 HC2 x0 x1 x2 x3
    obtain ⟨y0, y1, y2, y3⟩ := HU2.out.cells
    go_wp2_with (go_at_call 7; refine (hnum _ _).mono ?_; rintro e wn ⟨rfl, hw⟩; obtain rfl := hw.symm)
    clear y0 y1 y2 y3
    generalize w2.alloc (.cells #[.int .i64 un, .slice a1 us ca1, .slice b1 ud cb1] 24) = W2 at *
    generalize w2.heap.size = g11 at *
    refine (HC3.out _ _ _ _ _ HT2.out).mono ?_
    rintro e w3 ⟨rfl, hb3⟩
    have HB3 := hide (bkp HB2.out hb3)
    have HA3 := hide (HA2.out.below hb3)
    have HP3 := hide (HP2.out.below hb3)
    have HT3 := hide (HTB.out _ _ _ _ _ _ HT2.out hb3)
    have HU3 := hide (HU2.out.below hb3)
    clear hb3 HB2 HA2 HP2 HT2 HU2 HC3
    obtain ⟨y0, y1, y2, y3⟩ := HU3.out.cells
    go_wp2_with fail
    refine (HC4.out _ _ _ _ _ HT3.out).mono ?_
    rintro e w4 ⟨a2, b2, ca2, cb2, rfl, th4, hb4⟩
    have hbn := bnew w4 (.cells #[.int .i64 un, .slice a2 us ca2, .slice b2 ud cb2] 24)
    have HB4 := hide (bkp (bkp HB3.out hb4) hbn)
    have HA4 := hide ((HA3.out.below hb4).below hbn)
    have HP4 := hide ((HP3.out.below hb4).below hbn)
    have HT4 := hide (HTB.out _ _ _ _ _ _ (HTB.out _ _ _ _ _ _ HT3.out hb4) hbn)
    have HU4 := hide ((HU3.out.below hb4).below hbn)
    have HX4 := hide (HTB.out _ _ _ _ _ _ th4 hbn)
    have HY4 := hide (At3.new w4 (.int .i64 un) (.slice a2 us ca2) (.slice b2 ud cb2))
    clear hb4 hbn th4 HB3 HA3 HP3 HT3 HU3 HC4 y0 y1 y2 y3
    obtain ⟨y0, y1, y2, y3⟩ := HU4.out.cells
    go_wp2_with fail
    clear y0 y1 y2 y3
    generalize w4.alloc (.cells #[.int .i64 un, .slice a2 us ca2, .slice b2 ud cb2] 24) = W4 at *
    generalize w4.heap.size = g15 at *
    refine (HC5.out _ _ _ _ _ HT4.out).mono ?_
    rintro e w5 ⟨a3, b3, ca3, cb3, rfl, -, hb5⟩
    have hbn := bnew w5 (.cells #[.int .i64 rn, .slice a3 rs ca3, .slice b3 rd cb3] 24)
    have HB5 := hide (bkp (bkp HB4.out hb5) hbn)
    have HA5 := hide ((HA4.out.below hb5).below hbn)
    have HP5 := hide ((HP4.out.below hb5).below hbn)
    have HT5 := hide (HTB.out _ _ _ _ _ _ (HTB.out _ _ _ _ _ _ HT4.out hb5) hbn)
    have HU5 := hide ((HU4.out.below hb5).below hbn)
    have HX5 := hide (HTB.out _ _ _ _ _ _ (HTB.out _ _ _ _ _ _ HX4.out hb5) hbn)
    have HY5 := hide ((HY4.out.below hb5).below hbn)
    clear hb5 hbn HB4 HA4 HP4 HT4 HU4 HX4 HY4 HC5
    obtain ⟨y0, y1, y2, y3⟩ := HU5.out.cells
    obtain ⟨z0, z1, z2, z3⟩ := HY5.out.cells
    go_wp2_with (go_at_call 7; refine (hnum _ _).mono ?_; rintro e wn ⟨rfl, hw⟩; obtain rfl := hw.symm)
    clear y0 y1 y2 y3 z0 z1 z2 z3
    generalize w5.alloc (.cells #[.int .i64 rn, .slice a3 rs ca3, .slice b3 rd cb3] 24) = W5 at *
    refine (HC7.out _ _ _ _ _ _ _ _ _ HX5.out HT5.out).mono ?_
    rintro e w6 ⟨rfl, hb6⟩
    have HB6 := hide (bkp HB5.out hb6)
    have HA6 := hide (HA5.out.below hb6)
    have HP6 := hide (HP5.out.below hb6)
    have HT6 := hide (HTB.out _ _ _ _ _ _ HT5.out hb6)
    have HU6 := hide (HU5.out.below hb6)
    clear hb6 HB5 HA5 HP5 HT5 HU5 HX5 HY5 HC7
    obtain ⟨y0, y1, y2, y3⟩ := HU6.out.cells
    go_wp2_with (go_at_call 7; refine (hnum _ _).mono ?_; rintro e wn ⟨rfl, hw⟩; obtain rfl := hw.symm)
    refine (HC8.out _ _ _ _ _ HT6.out).mono ?_
    rintro e w7 ⟨rfl, hb7⟩
    have HB7 := hide (bkp HB6.out hb7)
    have HA7 := hide (HA6.out.below hb7)
    have HP7 := hide (HP6.out.below hb7)
    have HT7 := hide (HTB.out _ _ _ _ _ _ HT6.out hb7)
    have HU7 := hide (HU6.out.below hb7)
    clear hb7 HB6 HA6 HP6 HT6 HU6 HC8 y0 y1 y2 y3
    obtain ⟨x0, x1, x2, x3⟩ := HA7.out.cells
    obtain ⟨f0, f1, f2, f3, f4⟩ := HP7.out.cells
    go_wp2_with (go_at_call 7; refine (hnum _ _).mono ?_; rintro e wn ⟨rfl, hw⟩; obtain rfl := hw.symm)
    refine (HC9.out _ HB7.out).mono ?_
    rintro e w8 ⟨rfl, hb8⟩
    have HB8 := hide (bkp HB7.out hb8)
    have HA8 := hide (HA7.out.below hb8)
    have HP8 := hide (HP7.out.below hb8)
    have HT8 := hide (HTB.out _ _ _ _ _ _ HT7.out hb8)
    have HU8 := hide (HU7.out.below hb8)
    clear hb8 HB7 HA7 HP7 HT7 HU7 HC9 x0 x1 x2 x3 f0 f1 f2 f3 f4
    obtain ⟨y0, y1, y2, y3⟩ := HU8.out.cells
    obtain ⟨f0, f1, f2, f3, f4⟩ := HP8.out.cells
    go_wp2_with fail
    refine (HC10.out _ _ _ _ _ HT8.out).mono ?_
    rintro e w9 ⟨rfl, hb9⟩
    have hbn := bnew w9 (.cells #[.int .i64 tn, .int .u64 0, .int .u64 ((2 ^ k : Nat) : Int), .int .i64 0] 27)
    have HB9 := hide (bkp (bkp HB8.out hb9) hbn)
    have HA9 := hide (HA8.out.below hb9)
    have HP9 := hide (HP8.out.below hb9)
    have HZ9 := hide (HP9.out.below hbn)
    clear hb9 hbn HB8 HA8 HP8 HT8 HU8 HC10 y0 y1 y2 y3 f0 f1 f2 f3 f4
    obtain ⟨x0, x1, x2, x3⟩ := HA9.out.cells
    obtain ⟨f0, f1, f2, f3, f4⟩ := HP9.out.cells
    obtain ⟨j0, j1, j2, j3, j4⟩ := HZ9.out.cells
    go_wp2_with fail
    refine (HC11.out _).mono ?_
    rintro e w10 ⟨rfl, hb10⟩
    have HB10 := hide (bkp HB9.out hb10)
    clear hb10 HB9 HA9 HP9 HZ9 HC11 x0 x1 x2 x3 f0 f1 f2 f3 f4 j0 j1 j2 j3 j4
    rcases HK.out with rfl | ⟨rfl, rfl, hk⟩
    . clear HK
      go_wp2_with (go_at_call 7; refine (hnum _ _).mono ?_; rintro e wn ⟨rfl, hw⟩; obtain rfl := hw.symm)
      refine (HC6.out _ HB10.out).mono ?_
      rintro e w11 ⟨rfl, hb11⟩
      have HB11 := hide (bkp HB10.out hb11)
      clear hb11 HB10
      go_wp2_with fail
      go_ret
      exact ⟨rfl, HB11.out⟩
    . clear HK
      by_cases hA : A = 0
      . subst hA
        clear hk
        go_wp2_with (go_at_call 7; refine (hnum _ _).mono ?_; rintro e wn ⟨rfl, hw⟩; obtain rfl := hw.symm)
        refine (HC6.out _ HB10.out).mono ?_
        rintro e w11 ⟨rfl, hb11⟩
        have HB11 := hide (bkp HB10.out hb11)
        clear hb11 HB10
        go_wp2_with fail
        go_ret
        exact ⟨rfl, HB11.out⟩
      . have hA' : (A == 0) = false := beq_false_of_ne hA
        rcases hk with hk | rfl | rfl
        . exact absurd hk hA
        . clear hA
          go_wp2_with (go_at_call 7; refine (hnum _ _).mono ?_; rintro e wn ⟨rfl, hw⟩; obtain rfl := hw.symm)
          refine (HC6.out _ HB10.out).mono ?_
          rintro e w11 ⟨rfl, hb11⟩
          have HB11 := hide (bkp HB10.out hb11)
          clear hb11 HB10
          go_wp2_with fail
          go_ret
          exact ⟨rfl, HB11.out⟩
        . clear hA
          cases is
          all_goals (
            go_wp2_with (go_at_call 7; refine (hnum _ _).mono ?_; rintro e wn ⟨rfl, hw⟩; obtain rfl := hw.symm)
            refine (HC6.out _ HB10.out).mono ?_
            rintro e w11 ⟨rfl, hb11⟩
            have HB11 := hide (bkp HB10.out hb11)
            clear hb11 HB10
            go_wp2_with fail
            go_ret
            exact ⟨rfl, HB11.out⟩)
  . have hO : (O == 0) = false := beq_false_of_ne ho
    clear ho
    go_enter Tryd.func3, Tryd.ntmps3
    go_wp2_with fail
    generalize (w.alloc (.cells #[.int .i64 tn, .slice a ns ca, .slice b nd cb] 24)).alloc (.cells #[.int .i64 pn, .int .u64 (px : Int), .int .u64 (pz : Int), .int .i64 pph] 27) = W0 at *
    refine (HC1.out _ HB0.out).mono ?_
    rintro e w1 ⟨rfl, hb1⟩
    have HB1 := hide (bkp HB0.out hb1)
    have HA1 := hide (HA0.out.below hb1)
    have HP1 := hide (HP0.out.below hb1)
    clear hb1 HB0 HA0 HP0 HC1
    obtain ⟨x0, x1, x2, x3⟩ := HA1.out.cells
    go_wp2_with fail
    refine (HC2.out _ HB1.out).mono ?_
    rintro e w2 ⟨a1, b1, ca1, cb1, rfl, th2, hb2⟩
    have hbn := bnew w2 (.cells #[.int .i64 un, .slice a1 us ca1, .slice b1 ud cb1] 24)
    have HB2 := hide (bkp (bkp HB1.out hb2) hbn)
    have HA2 := hide ((HA1.out.below hb2).below hbn)
    have HP2 := hide ((HP1.out.below hb2).below hbn)
    have HT2 := hide (HTB.out _ _ _ _ _ _ th2 hbn)
    have HU2 := hide (At3.new w2 (.int .i64 un) (.slice a1 us ca1) (.slice b1 ud cb1))
    clear hb2 hbn th2 HB1 HA1 HP1 HC2 x0 x1 x2 x3
    obtain ⟨y0, y1, y2, y3⟩ := HU2.out.cells
    go_wp2_with (go_at_call 7; refine (hnum _ _).mono ?_; rintro e wn ⟨rfl, hw⟩; obtain rfl := hw.symm)
    clear y0 y1 y2 y3
    generalize w2.alloc (.cells #[.int .i64 un, .slice a1 us ca1, .slice b1 ud cb1] 24) = W2 at *
    generalize w2.heap.size = g11 at *
    refine (HC3.out _ _ _ _ _ HT2.out).mono ?_
    rintro e w3 ⟨rfl, hb3⟩
    have HB3 := hide (bkp HB2.out hb3)
    have HA3 := hide (HA2.out.below hb3)
    have HP3 := hide (HP2.out.below hb3)
    have HT3 := hide (HTB.out _ _ _ _ _ _ HT2.out hb3)
    have HU3 := hide (HU2.out.below hb3)
    clear hb3 HB2 HA2 HP2 HT2 HU2 HC3
    obtain ⟨y0, y1, y2, y3⟩ := HU3.out.cells
    go_wp2_with fail
    refine (HC4.out _ _ _ _ _ HT3.out).mono ?_
    rintro e w4 ⟨a2, b2, ca2, cb2, rfl, th4, hb4⟩
    have hbn := bnew w4 (.cells #[.int .i64 un, .slice a2 us ca2, .slice b2 ud cb2] 24)
    have HB4 := hide (bkp (bkp HB3.out hb4) hbn)
    have HA4 := hide ((HA3.out.below hb4).below hbn)
    have HP4 := hide ((HP3.out.below hb4).below hbn)
    have HT4 := hide (HTB.out _ _ _ _ _ _ (HTB.out _ _ _ _ _ _ HT3.out hb4) hbn)
    have HU4 := hide ((HU3.out.below hb4).below hbn)
    have HX4 := hide (HTB.out _ _ _ _ _ _ th4 hbn)
    have HY4 := hide (At3.new w4 (.int .i64 un) (.slice a2 us ca2) (.slice b2 ud cb2))
    clear hb4 hbn th4 HB3 HA3 HP3 HT3 HU3 HC4 y0 y1 y2 y3
    obtain ⟨y0, y1, y2, y3⟩ := HU4.out.cells
    go_wp2_with fail
    clear y0 y1 y2 y3
    generalize w4.alloc (.cells #[.int .i64 un, .slice a2 us ca2, .slice b2 ud cb2] 24) = W4 at *
    generalize w4.heap.size = g15 at *
    refine (HC5.out _ _ _ _ _ HT4.out).mono ?_
    rintro e w5 ⟨a3, b3, ca3, cb3, rfl, -, hb5⟩
    have hbn := bnew w5 (.cells #[.int .i64 rn, .slice a3 rs ca3, .slice b3 rd cb3] 24)
    have HB5 := hide (bkp (bkp HB4.out hb5) hbn)
    have HA5 := hide ((HA4.out.below hb5).below hbn)
    have HP5 := hide ((HP4.out.below hb5).below hbn)
    have HT5 := hide (HTB.out _ _ _ _ _ _ (HTB.out _ _ _ _ _ _ HT4.out hb5) hbn)
    have HU5 := hide ((HU4.out.below hb5).below hbn)
    have HX5 := hide (HTB.out _ _ _ _ _ _ (HTB.out _ _ _ _ _ _ HX4.out hb5) hbn)
    have HY5 := hide ((HY4.out.below hb5).below hbn)
    clear hb5 hbn HB4 HA4 HP4 HT4 HU4 HX4 HY4 HC5
    obtain ⟨y0, y1, y2, y3⟩ := HU5.out.cells
    obtain ⟨z0, z1, z2, z3⟩ := HY5.out.cells
    go_wp2_with (go_at_call 7; refine (hnum _ _).mono ?_; rintro e wn ⟨rfl, hw⟩; obtain rfl := hw.symm)
    clear y0 y1 y2 y3 z0 z1 z2 z3
    generalize w5.alloc (.cells #[.int .i64 rn, .slice a3 rs ca3, .slice b3 rd cb3] 24) = W5 at *
    refine (HC7.out _ _ _ _ _ _ _ _ _ HX5.out HT5.out).mono ?_
    rintro e w6 ⟨rfl, hb6⟩
    have HB6 := hide (bkp HB5.out hb6)
    have HA6 := hide (HA5.out.below hb6)
    have HP6 := hide (HP5.out.below hb6)
    have HT6 := hide (HTB.out _ _ _ _ _ _ HT5.out hb6)
    have HU6 := hide (HU5.out.below hb6)
    clear hb6 HB5 HA5 HP5 HT5 HU5 HX5 HY5 HC7
    obtain ⟨y0, y1, y2, y3⟩ := HU6.out.cells
    go_wp2_with (go_at_call 7; refine (hnum _ _).mono ?_; rintro e wn ⟨rfl, hw⟩; obtain rfl := hw.symm)
    refine (HC8.out _ _ _ _ _ HT6.out).mono ?_
    rintro e w7 ⟨rfl, hb7⟩
    have HB7 := hide (bkp HB6.out hb7)
    have HA7 := hide (HA6.out.below hb7)
    have HP7 := hide (HP6.out.below hb7)
    have HT7 := hide (HTB.out _ _ _ _ _ _ HT6.out hb7)
    have HU7 := hide (HU6.out.below hb7)
    clear hb7 HB6 HA6 HP6 HT6 HU6 HC8 y0 y1 y2 y3
    obtain ⟨x0, x1, x2, x3⟩ := HA7.out.cells
    obtain ⟨f0, f1, f2, f3, f4⟩ := HP7.out.cells
    go_wp2_with (go_at_call 7; refine (hnum _ _).mono ?_; rintro e wn ⟨rfl, hw⟩; obtain rfl := hw.symm)
    refine (HC9.out _ HB7.out).mono ?_
    rintro e w8 ⟨rfl, hb8⟩
    have HB8 := hide (bkp HB7.out hb8)
    have HA8 := hide (HA7.out.below hb8)
    have HP8 := hide (HP7.out.below hb8)
    have HT8 := hide (HTB.out _ _ _ _ _ _ HT7.out hb8)
    have HU8 := hide (HU7.out.below hb8)
    clear hb8 HB7 HA7 HP7 HT7 HU7 HC9 x0 x1 x2 x3 f0 f1 f2 f3 f4
    obtain ⟨y0, y1, y2, y3⟩ := HU8.out.cells
    obtain ⟨f0, f1, f2, f3, f4⟩ := HP8.out.cells
    go_wp2_with fail
    refine (HC10.out _ _ _ _ _ HT8.out).mono ?_
    rintro e w9 ⟨rfl, hb9⟩
    have hbn := bnew w9 (.cells #[.int .i64 tn, .int .u64 0, .int .u64 ((2 ^ k : Nat) : Int), .int .i64 0] 27)
    have HB9 := hide (bkp (bkp HB8.out hb9) hbn)
    have HA9 := hide (HA8.out.below hb9)
    have HP9 := hide (HP8.out.below hb9)
    have HZ9 := hide (HP9.out.below hbn)
    clear hb9 hbn HB8 HA8 HP8 HT8 HU8 HC10 y0 y1 y2 y3 f0 f1 f2 f3 f4
    obtain ⟨x0, x1, x2, x3⟩ := HA9.out.cells
    obtain ⟨f0, f1, f2, f3, f4⟩ := HP9.out.cells
    obtain ⟨j0, j1, j2, j3, j4⟩ := HZ9.out.cells
    go_wp2_with fail
    refine (HC11.out _).mono ?_
    rintro e w10 ⟨rfl, hb10⟩
    have HB10 := hide (bkp HB9.out hb10)
    clear hb10 HB9 HA9 HP9 HZ9 HC11 x0 x1 x2 x3 f0 f1 f2 f3 f4 j0 j1 j2 j3 j4
    rcases HK.out with rfl | ⟨rfl, rfl, hk⟩
    . clear HK
      go_wp2_with (go_at_call 7; refine (hnum _ _).mono ?_; rintro e wn ⟨rfl, hw⟩; obtain rfl := hw.symm)
      refine (HC6.out _ HB10.out).mono ?_
      rintro e w11 ⟨rfl, hb11⟩
      have HB11 := hide (bkp HB10.out hb11)
      clear hb11 HB10
      go_wp2_with fail
      go_ret
      exact ⟨rfl, HB11.out⟩
    . clear HK
      by_cases hA : A = 0
      . subst hA
        clear hk
        go_wp2_with (go_at_call 7; refine (hnum _ _).mono ?_; rintro e wn ⟨rfl, hw⟩; obtain rfl := hw.symm)
        refine (HC6.out _ HB10.out).mono ?_
        rintro e w11 ⟨rfl, hb11⟩
        have HB11 := hide (bkp HB10.out hb11)
        clear hb11 HB10
        go_wp2_with fail
        go_ret
        exact ⟨rfl, HB11.out⟩
      . have hA' : (A == 0) = false := beq_false_of_ne hA
        rcases hk with hk | rfl | rfl
        . exact absurd hk hA
        . clear hA
          go_wp2_with (go_at_call 7; refine (hnum _ _).mono ?_; rintro e wn ⟨rfl, hw⟩; obtain rfl := hw.symm)
          refine (HC6.out _ HB10.out).mono ?_
          rintro e w11 ⟨rfl, hb11⟩
          have HB11 := hide (bkp HB10.out hb11)
          clear hb11 HB10
          go_wp2_with fail
          go_ret
          exact ⟨rfl, HB11.out⟩
        . clear hA
          cases is
          all_goals (
            go_wp2_with (go_at_call 7; refine (hnum _ _).mono ?_; rintro e wn ⟨rfl, hw⟩; obtain rfl := hw.symm)
            refine (HC6.out _ HB10.out).mono ?_
            rintro e w11 ⟨rfl, hb11⟩
            have HB11 := hide (bkp HB10.out hb11)
            clear hb11 HB10
            go_wp2_with fail
            go_ret
            exact ⟨rfl, HB11.out⟩)
theorem xTableauMeasures (t : TT) (a b : Option Addr) (ca cb : Nat) (q v : Int) (p : P) (hp : Wd p) (w : World) (hT : Tg w) (h : Th w t a b ca cb) :
    Calls Tryd.prog 3 #[tV t a b ca cb, .int .i64 q, .int .i64 v, pV p] w fun e w' => e = .returned (.bool true) /\ Below w.heap.size w w' := by
  by_cases hok : cqI t q = 0 /\ (v = 0 ∨ v = 1)
  . obtain ⟨hcq, hv⟩ := hok
    rcases ms_case hcq hv with ⟨h1, h2⟩ | ⟨h1, u, hm⟩
    . exact xMs_nil t a b ca cb q v p w hT h hv hcq h1 h2
    . obtain ⟨k, rfl⟩ : ∃ k : Nat, q = (k : Int) := ⟨q.toNat, by have := (cq_ok hcq).2.1; omega⟩
      exact xMs_ok t u a b ca cb k v p hp w hT h hv hcq h1 hm
  . exact xMs_no t a b ca cb q v p w hT h hok
end Go.Proofs.YtllfplkefbhnfabDoor.Tbl
