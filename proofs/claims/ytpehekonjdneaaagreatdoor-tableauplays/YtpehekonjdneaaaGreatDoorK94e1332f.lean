import Derived.Test.YtpehekonjdneaaaGreatDoorK780cc812
set_option maxRecDepth 100000
set_option maxHeartbeats 8000000
namespace Go.Proofs.YtpehekonjdneaaaGreatDoor.Tbl
open Go.RowKit Go.Shelf Go.Proofs.YtpehekonjdneaaaGreatDoor.Pau Go.Proofs.YtpehekonjdneaaaGreatDoor.Gt
theorem mem_doc2 {t : TT} {N : Nat} (hc : chB t = true) (hN : t.n = (N : Int)) {p : P} (hp : Rr N p) : (loI t p ≥ 0 /\ memI t p = 0) ∨ (loI t p = -1 /\ memI t p = if decide ((alP t p N).ph = p.ph) = true then 1 else -1) := by
  unfold loI memI
  have hn : t.n.toNat = N := by rw [hN, Int.toNat_natCast]
  cases h : lsB t p
  . right
    refine ⟨by simp, ?_⟩
    rw [hn, al_sign hc hN hp h]
    simp
  . left
    refine ⟨?_, by simp⟩
    rw [if_pos rfl]
    omega
theorem dOdds_no (t : TT) (a b : Option Addr) (ca cb : Nat) (q : Int) (hno : cqI t q ≠ 0) (w : World) (h : Th w t a b ca cb) :
    Calls Tryz.prog 30 #[tV t a b ca cb, .int .i64 q] w fun e w' => e = .returned (.tuple #[.int .i64 (odI t q), .int .i64 (cqI t q)]) /\ Below w.heap.size w w' := by
  have HC1 := hide (fun W (hb : Below w.heap.size w W) => dRightT t a b ca cb W (h.below hb))
  have HA0 := hide (At3.new w (.int .i64 t.n) (.slice a t.s.length ca) (.slice b t.d.length cb))
  have HB0 := hide (bnew w (.cells #[.int .i64 t.n, .slice a t.s.length ca, .slice b t.d.length cb] 29))
  have e0 : odI t q = 0 := by unfold odI; rw [if_neg hno]
  rw [e0]
  unfold cqI at hno ⊢
  unfold tV at HC1 ⊢
  by_cases hc : chB t = true
  . rw [if_pos hc] at hno ⊢
    have hq : ¬ (0 <= q /\ q < t.n) := fun e => hno (if_pos e)
    rw [if_neg hq]
    rw [hc] at HC1
    clear hno e0 h hc
    have hd : (decide (q < 0) = true) ∨ (decide (q < 0) = false /\ decide (t.n <= q) = true) := by
      by_cases e : q < 0
      . exact .inl (decide_eq_true e)
      . exact .inr ⟨decide_eq_false e, decide_eq_true (by omega)⟩
    clear hq
    generalize t.n = n at *
    generalize t.s.length = ns at *
    generalize t.d.length = nd at *
    rcases hd with hd | ⟨hd, hd2⟩
    all_goals (
      go_enter Tryz.func30, Tryz.ntmps30
      go_wp2_with fail
      refine (HC1.out _ HB0.out).mono ?_
      rintro e w1 ⟨rfl, hb1⟩
      have HB1 := hide (bkp HB0.out hb1)
      obtain ⟨x0, x1, x2, x3⟩ := (HA0.out.below hb1).cells
      clear hb1 HA0 HB0 HC1
      go_wp2_with fail
      go_ret2
      exact ⟨rfl, HB1.out⟩)
  . rw [if_neg hc]
    rw [Bool.eq_false_iff.2 hc] at HC1
    clear hno e0 h hc
    generalize t.n = n at *
    generalize t.s.length = ns at *
    generalize t.d.length = nd at *
    go_enter Tryz.func30, Tryz.ntmps30
    go_wp2_with fail
    refine (HC1.out _ HB0.out).mono ?_
    rintro e w1 ⟨rfl, hb1⟩
    have HB1 := hide (bkp HB0.out hb1)
    clear hb1 HA0 HB0 HC1
    go_wp2_with fail
    go_ret2
    exact ⟨rfl, HB1.out⟩
theorem dOdds_ok (t : TT) (a b : Option Addr) (ca cb : Nat) (k : Nat) (hcq : cqI t (k : Int) = 0) (w : World) (h : Th w t a b ca cb) :
    Calls Tryz.prog 30 #[tV t a b ca cb, .int .i64 (k : Int)] w fun e w' => e = .returned (.tuple #[.int .i64 (odI t (k : Int)), .int .i64 0]) /\ Below w.heap.size w w' := by
  obtain ⟨hc, -, hk, -, hz⟩ := cq_ok hcq
  obtain ⟨h0, h64, -, -⟩ := sz_of hz
  obtain ⟨N, hN⟩ : ∃ N : Nat, t.n = (N : Int) := ⟨t.n.toNat, by omega⟩
  have hkN : k < N := by omega
  have hk64 : k < 64 := by omega
  have hr : Rr N (lzP (N : Int) k 0) := (sgB_iff.1 (sg_lz hkN (by omega) (.inl rfl))).1
  have hod : odI t (k : Int) = if memI t (lzP (N : Int) k 0) = 1 then 0 else if memI t (lzP (N : Int) k 0) = -1 then 1 else 2 := by unfold odI; rw [if_pos hcq, hN, Int.toNat_natCast]
  have hdoc := mem_doc2 hc hN hr
  have HC1 := hide (fun W (hb : Below w.heap.size w W) => dRightT t a b ca cb W (h.below hb))
  have HC2 := hide (fun W => dLetter14 (N : Int) k hk64 false W)
  have HC3 := hide (fun W (hb : Below w.heap.size w W) => dLoose t a b ca cb hc _ N hN hr W (h.below hb))
  have HC4 := hide (fun W (hb : Below w.heap.size w W) => dSign t a b ca cb hc _ N hN hr W (h.below hb))
  rw [hc] at HC1
  have hlz : lzP (N : Int) k 0 = ⟨(N : Int), 0, 2 ^ k, 0⟩ := rfl
  rw [if_neg (by decide), ← hlz] at HC2
  have HA0 := hide (At3.new w (.int .i64 t.n) (.slice a t.s.length ca) (.slice b t.d.length cb))
  have HB0 := hide (bnew w (.cells #[.int .i64 t.n, .slice a t.s.length ca, .slice b t.d.length cb] 29))
  have hd1 : decide ((k : Int) < 0) = false := decide_eq_false (by omega)
  have hd2 : decide ((N : Int) <= (k : Int)) = false := decide_eq_false (by omega)
  rw [hod]
  clear hod hcq h hz h0 h64 hlz hc
  unfold tV at HC1 HC3 HC4 ⊢
  rw [hN] at HC1 HC3 HC4 HA0 HB0 ⊢
  clear hN hr
  generalize memI t (lzP (N : Int) k 0) = m at *
  generalize loI t (lzP (N : Int) k 0) = lo at *
  generalize decide ((alP t (lzP (N : Int) k 0) N).ph = (lzP (N : Int) k 0).ph) = sg at *
  generalize lzP (N : Int) k 0 = p at *
  obtain ⟨pn, px, pz, pph⟩ := p
  unfold pV at HC2 HC3 HC4
  simp only at *
  generalize t.s.length = ns at *
  generalize t.d.length = nd at *
  rcases hdoc with ⟨hlo, rfl⟩ | ⟨rfl, hm⟩
  . rw [if_neg (by decide), if_neg (by decide)]
    have hd3 : decide (0 <= lo) = true := decide_eq_true hlo
    clear HC4 hlo
    go_enter Tryz.func30, Tryz.ntmps30
    go_wp2_with fail
    refine (HC1.out _ HB0.out).mono ?_
    rintro e w1 ⟨rfl, hb1⟩
    have HB1 := hide (bkp HB0.out hb1)
    have HA1 := hide (HA0.out.below hb1)
    clear hb1 HA0 HB0 HC1
    obtain ⟨x0, x1, x2, x3⟩ := HA1.out.cells
    go_wp2_with fail
    refine (HC2.out _).mono ?_
    rintro e w2 ⟨rfl, hb2⟩
    have hbn := bnew w2 (.cells #[.int .i64 pn, .int .u64 (px : Int), .int .u64 (pz : Int), .int .i64 pph] 25)
    have HB2 := hide (bkp (bkp HB1.out hb2) hbn)
    have HA2 := hide ((HA1.out.below hb2).below hbn)
    have HP2 := hide (At4.new w2 (.int .i64 pn) (.int .u64 (px : Int)) (.int .u64 (pz : Int)) (.int .i64 pph))
    clear hb2 hbn HA1 HB1 HC2 x0 x1 x2 x3
    obtain ⟨x0, x1, x2, x3⟩ := HA2.out.cells
    obtain ⟨y0, y1, y2, y3, y4⟩ := HP2.out.cells
    go_wp2_with fail
    clear x0 x1 x2 x3 y0 y1 y2 y3 y4
    generalize w2.alloc (.cells #[.int .i64 pn, .int .u64 (px : Int), .int .u64 (pz : Int), .int .i64 pph] 25) = V2 at *
    generalize w2.heap.size = gz at *
    refine (HC3.out _ HB2.out).mono ?_
    rintro e w3 ⟨rfl, hb3⟩
    have HB3 := hide (bkp HB2.out hb3)
    have HA3 := hide (HA2.out.below hb3)
    have HP3 := hide (HP2.out.below hb3)
    clear hb3 HB2 HA2 HP2 HC3
    obtain ⟨x0, x1, x2, x3⟩ := HA3.out.cells
    obtain ⟨y0, y1, y2, y3, y4⟩ := HP3.out.cells
    go_wp2_with fail
    go_ret2
    exact ⟨rfl, HB3.out⟩
  . cases sg with
    | true =>
      rw [if_pos rfl] at hm HC4
      subst hm
      rw [if_pos rfl]
      go_enter Tryz.func30, Tryz.ntmps30
      go_wp2_with fail
      refine (HC1.out _ HB0.out).mono ?_
      rintro e w1 ⟨rfl, hb1⟩
      have HB1 := hide (bkp HB0.out hb1)
      have HA1 := hide (HA0.out.below hb1)
      clear hb1 HA0 HB0 HC1
      obtain ⟨x0, x1, x2, x3⟩ := HA1.out.cells
      go_wp2_with fail
      refine (HC2.out _).mono ?_
      rintro e w2 ⟨rfl, hb2⟩
      have hbn := bnew w2 (.cells #[.int .i64 pn, .int .u64 (px : Int), .int .u64 (pz : Int), .int .i64 pph] 25)
      have HB2 := hide (bkp (bkp HB1.out hb2) hbn)
      have HA2 := hide ((HA1.out.below hb2).below hbn)
      have HP2 := hide (At4.new w2 (.int .i64 pn) (.int .u64 (px : Int)) (.int .u64 (pz : Int)) (.int .i64 pph))
      clear hb2 hbn HA1 HB1 HC2 x0 x1 x2 x3
      obtain ⟨x0, x1, x2, x3⟩ := HA2.out.cells
      obtain ⟨y0, y1, y2, y3, y4⟩ := HP2.out.cells
      go_wp2_with fail
      clear x0 x1 x2 x3 y0 y1 y2 y3 y4
      generalize w2.alloc (.cells #[.int .i64 pn, .int .u64 (px : Int), .int .u64 (pz : Int), .int .i64 pph] 25) = V2 at *
      generalize w2.heap.size = gz at *
      refine (HC3.out _ HB2.out).mono ?_
      rintro e w3 ⟨rfl, hb3⟩
      have HB3 := hide (bkp HB2.out hb3)
      have HA3 := hide (HA2.out.below hb3)
      have HP3 := hide (HP2.out.below hb3)
      clear hb3 HB2 HA2 HP2 HC3
      obtain ⟨x0, x1, x2, x3⟩ := HA3.out.cells
      obtain ⟨y0, y1, y2, y3, y4⟩ := HP3.out.cells
      go_wp2_with fail
      clear x0 x1 x2 x3 y0 y1 y2 y3 y4
      refine (HC4.out _ HB3.out).mono ?_
      rintro e w4 ⟨rfl, hb4⟩
      have HB4 := hide (bkp HB3.out hb4)
      clear hb4 HB3 HA3 HP3 HC4
      go_wp2_with fail
      go_ret2
      exact ⟨rfl, HB4.out⟩
    | false =>
      rw [if_neg (by decide)] at hm HC4
      subst hm
      rw [if_neg (by decide), if_pos rfl]
      go_enter Tryz.func30, Tryz.ntmps30
      go_wp2_with fail
      refine (HC1.out _ HB0.out).mono ?_
      rintro e w1 ⟨rfl, hb1⟩
      have HB1 := hide (bkp HB0.out hb1)
      have HA1 := hide (HA0.out.below hb1)
      clear hb1 HA0 HB0 HC1
      obtain ⟨x0, x1, x2, x3⟩ := HA1.out.cells
      go_wp2_with fail
      refine (HC2.out _).mono ?_
      rintro e w2 ⟨rfl, hb2⟩
      have hbn := bnew w2 (.cells #[.int .i64 pn, .int .u64 (px : Int), .int .u64 (pz : Int), .int .i64 pph] 25)
      have HB2 := hide (bkp (bkp HB1.out hb2) hbn)
      have HA2 := hide ((HA1.out.below hb2).below hbn)
      have HP2 := hide (At4.new w2 (.int .i64 pn) (.int .u64 (px : Int)) (.int .u64 (pz : Int)) (.int .i64 pph))
      clear hb2 hbn HA1 HB1 HC2 x0 x1 x2 x3
      obtain ⟨x0, x1, x2, x3⟩ := HA2.out.cells
      obtain ⟨y0, y1, y2, y3, y4⟩ := HP2.out.cells
      go_wp2_with fail
      clear x0 x1 x2 x3 y0 y1 y2 y3 y4
      generalize w2.alloc (.cells #[.int .i64 pn, .int .u64 (px : Int), .int .u64 (pz : Int), .int .i64 pph] 25) = V2 at *
      generalize w2.heap.size = gz at *
      refine (HC3.out _ HB2.out).mono ?_
      rintro e w3 ⟨rfl, hb3⟩
      have HB3 := hide (bkp HB2.out hb3)
      have HA3 := hide (HA2.out.below hb3)
      have HP3 := hide (HP2.out.below hb3)
      clear hb3 HB2 HA2 HP2 HC3
      obtain ⟨x0, x1, x2, x3⟩ := HA3.out.cells
      obtain ⟨y0, y1, y2, y3, y4⟩ := HP3.out.cells
      go_wp2_with fail
      clear x0 x1 x2 x3 y0 y1 y2 y3 y4
      refine (HC4.out _ HB3.out).mono ?_
      rintro e w4 ⟨rfl, hb4⟩
      have HB4 := hide (bkp HB3.out hb4)
      clear hb4 HB3 HA3 HP3 HC4
      go_wp2_with fail
      go_ret2
      exact ⟨rfl, HB4.out⟩
theorem dOdds (t : TT) (a b : Option Addr) (ca cb : Nat) (q : Int) (w : World) (h : Th w t a b ca cb) :
    Calls Tryz.prog 30 #[tV t a b ca cb, .int .i64 q] w fun e w' => e = .returned (.tuple #[.int .i64 (odI t q), .int .i64 (cqI t q)]) /\ Below w.heap.size w w' := by
  by_cases hc : cqI t q = 0
  . obtain ⟨k, rfl⟩ := Int.eq_ofNat_of_zero_le (cq_ok hc).2.1
    rw [hc]
    exact dOdds_ok t a b ca cb k hc w h
  . exact dOdds_no t a b ca cb q hc w h
def fsI : List Int -> Int
  | [] => -1
  | q :: _ => q
theorem jFirst (l : List Int) (ao : Option Addr) (c : Nat) (w : World) (hN : Ns w ao l) : Calls Tryz.prog 22 #[.slice ao l.length c] w fun e w' => e = .returned (.int .i64 (fsI l)) /\ w' = w := by
  cases l with
  | nil =>
    rw [List.length_nil]
    unfold fsI
    go_enter Tryz.func22, Tryz.ntmps22
    go_wp2_with fail
    go_ret
    exact ⟨rfl, rfl⟩
  | cons q l =>
    obtain ⟨g, off, rfl, hc⟩ := hN.resolve_left (by simp)
    have h0 := hc 0 q rfl
    rw [Nat.add_zero] at h0
    have hlt : g < w.heap.size := World.block_lt_of_cell? _ _ h0
    rw [List.length_cons]
    unfold fsI
    generalize l.length = m
    have hd : (((m + 1 : Nat) : Int) == 0) = false := beq_false_of_ne (by omega)
    clear hc hN
    go_enter Tryz.func22, Tryz.ntmps22
    go_wp2_with fail
    go_ret
    exact ⟨rfl, rfl⟩
structure Te (w V : World) (t : TT) (tn : Int) (ns nd : Nat) (pn : Int) (px pz : Nat) (pph : Int) (a b a2 b2 : Option Addr) (ca cb ca2 cb2 : Nat) : Prop where
  tt : At3 V w.heap.size (.int .i64 tn) (.slice a ns ca) (.slice b nd cb)
  uu : At3 V (w.heap.size + 1) (.int .i64 tn) (.slice a2 ns ca2) (.slice b2 nd cb2)
  pp : At4 V (w.heap.size + 1 + 1) (.int .i64 pn) (.int .u64 (px : Int)) (.int .u64 (pz : Int)) (.int .i64 pph)
  bw : Below w.heap.size w V
theorem Te.keep {w V V' : World} {t : TT} {tn : Int} {ns nd : Nat} {pn : Int} {px pz : Nat} {pph : Int} {a b a2 b2 : Option Addr} {ca cb ca2 cb2 : Nat} (h : Te w V t tn ns nd pn px pz pph a b a2 b2 ca cb ca2 cb2) (hb : Below V.heap.size V V') : Te w V' t tn ns nd pn px pz pph a b a2 b2 ca cb ca2 cb2 :=
  ⟨h.tt.below hb, h.uu.below hb, h.pp.below hb, bkp h.bw hb⟩
theorem three334 (w : World) (a b c a1 b1 c1 a2 b2 c2 d2 : Value) : At3 (((w.alloc (.cells #[a, b, c] 29)).alloc (.cells #[a1, b1, c1] 29)).alloc (.cells #[a2, b2, c2, d2] 25)) w.heap.size a b c /\ At3 (((w.alloc (.cells #[a, b, c] 29)).alloc (.cells #[a1, b1, c1] 29)).alloc (.cells #[a2, b2, c2, d2] 25)) (w.heap.size + 1) a1 b1 c1 /\ At4 (((w.alloc (.cells #[a, b, c] 29)).alloc (.cells #[a1, b1, c1] 29)).alloc (.cells #[a2, b2, c2, d2] 25)) (w.heap.size + 1 + 1) a2 b2 c2 d2 :=
  ⟨(two3 w a b c a1 b1 c1).1.below (bnew _ _), (two3 w a b c a1 b1 c1).2.below (bnew _ _), by have := At4.new ((w.alloc (.cells #[a, b, c] 29)).alloc (.cells #[a1, b1, c1] 29)) a2 b2 c2 d2; simpa using this⟩
theorem below334 (w : World) (a b c : Obj) : Below w.heap.size w (((w.alloc a).alloc b).alloc c) := bkp (bkp (bnew w a) (bnew _ b)) (bnew _ c)
theorem jTells (t : TT) (a b a2 b2 : Option Addr) (ca cb ca2 cb2 : Nat) (p : P) (hp : Wd p) (l : List Int) (hl : l.length <= 1000000000000000) (ao : Option Addr) (c : Nat) (w : World) (h : Th w t a b ca cb) (h2 : Th w t a2 b2 ca2 cb2) (hN : Ns w ao l) :
    Calls Tryz.prog 11 #[tV t a b ca cb, tV t a2 b2 ca2 cb2, pV p, .slice ao l.length c] w fun e w' => e = .returned (.bool true) /\ Below w.heap.size w w' := by
  have HO1 := hide (fun q W (hb : Below w.heap.size w W) => tOdds t a b ca cb q W (h.below hb))
  have HO2 := hide (fun q W (hb : Below w.heap.size w W) => dOdds t a2 b2 ca2 cb2 q W (h2.below hb))
  have HM1 := hide (fun W (hb : Below w.heap.size w W) => tMemberP t a b ca cb p hp W (h.below hb))
  have HM2 := hide (fun W (hb : Below w.heap.size w W) => dMember t a2 b2 ca2 cb2 p hp W (h2.below hb))
  have HU1 := hide (fun W (hb : Below w.heap.size w W) => tCut t a b ca cb l hl ao c W (h.below hb) (hN.below hb))
  have HU2 := hide (fun W (hb : Below w.heap.size w W) => dCut t a2 b2 ca2 cb2 l hl ao c W (h2.below hb) (hN.below hb))
  have HN1 := hide (fun W (hb : Below w.heap.size w W) => tCanon t a b ca cb W (h.below hb))
  have HN2 := hide (fun W (hb : Below w.heap.size w W) => dCanon t a2 b2 ca2 cb2 W (h2.below hb))
  have hcl : (cnL t).length <= 1000000000000000 := by
    unfold cnL
    split
    . have hna := h.na
      have := redS_len t.n.toNat t.s (2 * t.n.toNat)
      omega
    . simp
  have HSR := hide (fun W x y cx cy (h1 : PIn W x (cnL t)) (h2 : PIn W y (cnL t)) => dSameRows x y cx cy (cnL t) (cnL t) hcl W h1 h2)
  have HAK := hide (fun W (hb : Below w.heap.size w W) => dAlike t t a b a2 b2 ca cb ca2 cb2 W (h.below hb) (h2.below hb))
  have hnum := tNum
  simp only [decide_true] at HSR HAK
  obtain ⟨hA, hU, hP⟩ := three334 w (.int .i64 t.n) (.slice a t.s.length ca) (.slice b t.d.length cb) (.int .i64 t.n) (.slice a2 t.s.length ca2) (.slice b2 t.d.length cb2) (.int .i64 p.n) (.int .u64 (p.x : Int)) (.int .u64 (p.z : Int)) (.int .i64 p.ph)
  have hB := below334 w (.cells #[.int .i64 t.n, .slice a t.s.length ca, .slice b t.d.length cb] 29) (.cells #[.int .i64 t.n, .slice a2 t.s.length ca2, .slice b2 t.d.length cb2] 29) (.cells #[.int .i64 p.n, .int .u64 (p.x : Int), .int .u64 (p.z : Int), .int .i64 p.ph] 25)
  have HT0 : Hid (Te w _ t t.n t.s.length t.d.length p.n p.x p.z p.ph a b a2 b2 ca cb ca2 cb2) := hide ⟨hA, hU, hP, hB⟩
  clear hA hU hP hB h h2 hN hl hp
  generalize cuR t l = cu at *
  obtain ⟨c1, c2⟩ := cu
  generalize odI t = fo at *
  generalize cqI t = fc at *
  generalize mbI t p = mb at *
  generalize csI t p = cs at *
  generalize chI t = ch at *
  generalize cnL t = C at *
  obtain ⟨m, hm⟩ : ∃ m, C.length = m := ⟨_, rfl⟩
  have HLC := hide hm
  rw [hm] at HN1 HN2 HSR hcl
  clear hm
  obtain ⟨pn, px, pz, pph⟩ := p
  unfold pV at HM1 HM2 ⊢
  unfold tV at HO1 HO2 HM1 HM2 HU1 HU2 HN1 HN2 HAK ⊢
  simp only at *
  generalize t.n = tn at *
  generalize t.s.length = ns at *
  generalize t.d.length = nd at *
  generalize l.length = nl at *
  go_enter Tryz.func11, Tryz.ntmps11
  go_wp2_with fail
  generalize ((w.alloc (.cells #[.int .i64 tn, .slice a ns ca, .slice b nd cb] 29)).alloc (.cells #[.int .i64 tn, .slice a2 ns ca2, .slice b2 nd cb2] 29)).alloc (.cells #[.int .i64 pn, .int .u64 (px : Int), .int .u64 (pz : Int), .int .i64 pph] 25) = W0 at *
  go_loopw [9] (fun v wr => ∃ q : Int, v = .int .i64 q /\ -1 <= q /\ q <= 66 /\ Hid (Te w wr t tn ns nd pn px pz pph a b a2 b2 ca cb ca2 cb2)) (fun v _ => (67 - Go.RowKit.intOf v).toNat)
  case atStart => exact ⟨-1, rfl, by omega, by omega, HT0⟩
  case round =>
    obtain ⟨q, rfl, hq1, hq2, HI⟩ := hrel
    clear HT0
    obtain ⟨u0, u1, u2, u3⟩ := HI.out.uu.cells
    obtain ⟨t0, t1, t2, t3⟩ := HI.out.tt.cells
    by_cases hq : q <= min tn 65
    . have hd : decide (q <= min tn 65) = true := decide_eq_true hq
      have hq3 : q <= 65 := by omega
      have hw : wrap64 (q + 1) = q + 1 := by unfold wrap64; omega
      have hbo : (fo q != fo q) = false := by simp
      have hbc : (fc q != fc q) = false := by simp
      clear hq
      go_wp2_with fail
      refine (HO1.out q _ HI.out.bw).mono ?_
      rintro e w1 ⟨rfl, hb1⟩
      have HI1 := hide (HI.out.keep hb1)
      clear hb1 HI u0 u1 u2 u3 t0 t1 t2 t3
      obtain ⟨u0, u1, u2, u3⟩ := HI1.out.uu.cells
      go_wp2_with fail
      refine (HO2.out q _ HI1.out.bw).mono ?_
      rintro e w2 ⟨rfl, hb2⟩
      have HI2 := hide (HI1.out.keep hb2)
      clear hb2 HI1 u0 u1 u2 u3
      generalize fo q = oq at *
      generalize fc q = cq at *
      go_wp2_with (first
        | (go_at_call 7; (with_reducible refine Calls.mono (hnum _ _) ?_); rintro e w3 ⟨rfl, rfl⟩))
      go_roundw
      case rel => exact ⟨q + 1, by first | rfl | go_num | simp [hw], by omega, by omega, HI2⟩
      case measure => simp [Go.RowKit.intOf]; omega
    . have hd : decide (q <= min tn 65) = false := decide_eq_false hq
      obtain ⟨p0, p1, p2, p3, p4⟩ := HI.out.pp.cells
      have b1 : (mb != mb) = false := by simp
      have b2 : (cs != cs) = false := by simp
      have b3 : (c1 != c1) = false := by simp
      have b4 : (c2 != c2) = false := by simp
      have b5 : (ch != ch) = false := by simp
      clear hq hq1 hq2
      go_wp2_with fail
      refine (HM1.out _ HI.out.bw).mono ?_
      rintro e w1 ⟨rfl, hb1⟩
      have HI1 := hide (HI.out.keep hb1)
      clear hb1 HI u0 u1 u2 u3 t0 t1 t2 t3 p0 p1 p2 p3 p4
      obtain ⟨u0, u1, u2, u3⟩ := HI1.out.uu.cells
      obtain ⟨p0, p1, p2, p3, p4⟩ := HI1.out.pp.cells
      go_wp2_with fail
      refine (HM2.out _ HI1.out.bw).mono ?_
      rintro e w2 ⟨rfl, hb2⟩
      have HI2 := hide (HI1.out.keep hb2)
      clear hb2 HI1 u0 u1 u2 u3 p0 p1 p2 p3 p4
      obtain ⟨u0, u1, u2, u3⟩ := HI2.out.tt.cells
      go_wp2_with fail
      refine (HU1.out _ HI2.out.bw).mono ?_
      rintro e w3 ⟨rfl, hb3⟩
      have HI3 := hide (HI2.out.keep hb3)
      clear hb3 HI2 u0 u1 u2 u3
      obtain ⟨u0, u1, u2, u3⟩ := HI3.out.uu.cells
      go_wp2_with fail
      refine (HU2.out _ HI3.out.bw).mono ?_
      rintro e w4 ⟨rfl, hb4⟩
      have HI4 := hide (HI3.out.keep hb4)
      clear hb4 HI3 u0 u1 u2 u3
      obtain ⟨u0, u1, u2, u3⟩ := HI4.out.tt.cells
      go_wp2_with fail
      refine (HN1.out _ HI4.out.bw).mono ?_
      rintro e w5 ⟨x5, c5, rfl, ho5, hl5, hb5⟩
      have HI5 := hide (HI4.out.keep hb5)
      have HO5 := hide ho5
      have HB5 := hide hb5
      clear hb5 u0 u1 u2 u3 ho5 hl5
      obtain ⟨u0, u1, u2, u3⟩ := HI5.out.uu.cells
      go_wp2_with fail
      refine (HN2.out _ HI5.out.bw).mono ?_
      rintro e w6 ⟨x6, c6, rfl, ho6, hb6⟩
      have HO6 := hide (And.intro (HO5.out.below hb6) ho6)
      have HB6 := hide (bkp HB5.out hb6)
      clear hb6 ho6 u0 u1 u2 u3 HI5 HO5 HB5
      go_wp2_with (first
        | (go_at_call 7; (with_reducible refine Calls.mono (hnum _ _) ?_); rintro e w7 ⟨rfl, rfl⟩))
      refine (HSR.out _ _ _ _ _ HO6.out.1.pin HO6.out.2).mono ?_
      rintro e w7 ⟨rfl, hb7⟩
      have HO7 := hide (HO6.out.1.below hb7)
      have HB7 := hide (bkp HB6.out hb7)
      clear hb7 HO6 HB6
      go_wp2_with fail
      have HL0 : Hid (∃ C' : List P, C'.length = m /\ POo w7 w4.heap.size x5 C') := hide ⟨C, HLC.out, HO7.out⟩
      clear HO7
      go_loopw [26] (fun v wr => ∃ i : Nat, v = .int .i64 (i : Int) /\ i <= m /\ Hid (∃ C' : List P, C'.length = m /\ POo wr w4.heap.size x5 C') /\ Hid (Below w4.heap.size w4 wr)) (fun v _ => m - (Go.RowKit.intOf v).toNat)
      case atStart => exact ⟨0, rfl, Nat.zero_le _, HL0, HB7⟩
      case round =>
        obtain ⟨i, rfl, hi, HJ, HK⟩ := hrel
        clear HL0 HB7
        by_cases hlt : i < m
        . have hd2 : decide ((i : Int) < (m : Int)) = true := decide_eq_true (by omega)
          obtain ⟨C', hC', hpo⟩ := HJ.out
          obtain ⟨g, rfl, hgB, hpo⟩ := hpo.resolve_left (fun e => by rw [e] at hC'; simp at hC'; omega)
          have hpc := hpo.at (get_of (l := C') (i := i) (by omega))
          generalize C'.getD i oP = q1 at *
          obtain ⟨n1, x1, z1, h1⟩ := q1
          obtain ⟨a0, a1, a2', a3⟩ := hpc
          have f1 := hpo.fz
          have k1 := hpo.lt
          simp only at a0 a1 a2' a3
          have HX : Hid ((∃ C'' : List P, C''.length = m /\ POo (set4 wr g (i * 4) ⟨77, 0, 0, 0⟩) w4.heap.size (some ⟨g, 0, none⟩) C'') /\ Below w4.heap.size w4 (set4 wr g (i * 4) ⟨77, 0, 0, 0⟩)) := hide ⟨⟨C'.set i ⟨77, 0, 0, 0⟩, by rw [List.length_set]; exact hC', .inr ⟨g, rfl, hgB, hpo.set _⟩⟩, below_set4 HK.out hgB⟩
          clear hC' hpo hgB HJ HK
          go_wp2_with fail
          go_roundw
          case rel => exact ⟨i + 1, by go_num, by omega, hide HX.out.1, hide HX.out.2⟩
          case measure => simp [Go.RowKit.intOf]; omega
        . obtain rfl : m = i := by omega
          have hd2 : decide ((m : Int) < (m : Int)) = false := decide_eq_false (by omega)
          have HI9 := hide (HI4.out.keep HK.out)
          clear HJ HK HI4
          obtain ⟨u0, u1, u2, u3⟩ := HI9.out.uu.cells
          obtain ⟨t0, t1, t2, t3⟩ := HI9.out.tt.cells
          go_wp2_with fail
          refine (HAK.out _ HI9.out.bw).mono ?_
          rintro e w9 ⟨rfl, hb9⟩
          have HB9 := hide (bkp HI9.out.bw hb9)
          clear hb9 HI9 u0 u1 u2 u3 t0 t1 t2 t3
          go_wp2_with fail
          go_ret
          exact ⟨rfl, HB9.out⟩
end Go.Proofs.YtpehekonjdneaaaGreatDoor.Tbl
