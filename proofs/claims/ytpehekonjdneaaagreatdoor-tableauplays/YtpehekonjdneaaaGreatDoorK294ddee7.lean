import Derived.Test.YtpehekonjdneaaaGreatDoorK94e1332f
set_option maxRecDepth 100000
set_option maxHeartbeats 4000000
namespace Go.Proofs.YtpehekonjdneaaaGreatDoor.Tbl
open Go.RowKit Go.Shelf Go.Proofs.YtpehekonjdneaaaGreatDoor.Pau Go.Proofs.YtpehekonjdneaaaGreatDoor.Gt
def PzB (od cq v r : Int) : Prop := (cq = 140 /\ r = 140) ∨ (cq = 2 /\ r = 2) ∨ (cq = 0 /\ v < 0 /\ r = 2) ∨ (cq = 0 /\ 1 < v /\ r = 2) ∨ (cq = 0 /\ v = 0 /\ od = 1 /\ r = 142) ∨ (cq = 0 /\ v = 1 /\ od = 0 /\ r = 142)
theorem dProject_z (t : TT) (a b : Option Addr) (ca cb : Nat) (q v r : Int) (hz : PzB (odI t q) (cqI t q) v r) (w : World) (h : Th w t a b ca cb) :
    Calls Tryz.prog 23 #[tV t a b ca cb, .int .i64 q, .int .i64 v] w fun e w' => ∃ a' b' ca' cb', e = .returned (.tuple #[tV zrT a' b' ca' cb', .int .i64 r]) /\ Th w' zrT a' b' ca' cb' /\ Below w.heap.size w w' := by
  have HC1 := hide (fun W (hb : Below w.heap.size w W) => dOdds t a b ca cb q W (h.below hb))
  obtain ⟨hA, hZ⟩ := two3 w (.int .i64 t.n) (.slice a t.s.length ca) (.slice b t.d.length cb) (.int .i64 0) (.slice none 0 0) (.slice none 0 0)
  have HZ := hide hZ
  have HB0 := hide (bkp (bnew w (.cells #[.int .i64 t.n, .slice a t.s.length ca, .slice b t.d.length cb] 29)) (bnew _ (.cells #[.int .i64 0, .slice none 0 0, .slice none 0 0] 29)))
  have HZT := hide th_zero
  clear hA hZ h
  unfold tV at HC1 ⊢
  unfold zrT at HZT ⊢
  simp only [List.length_nil] at HZT ⊢
  generalize odI t q = od at *
  generalize cqI t q = cq at *
  generalize t.s.length = ns at *
  generalize t.d.length = nd at *
  generalize t.n = n at *
  rcases hz with ⟨rfl, rfl⟩ | ⟨rfl, rfl⟩ | ⟨rfl, hv, rfl⟩ | ⟨rfl, hv, rfl⟩ | ⟨rfl, rfl, rfl, rfl⟩ | ⟨rfl, rfl, rfl, rfl⟩
  rotate_left 2
  . have hd1 : decide (v < 0) = true := decide_eq_true hv
    clear hv
    go_enter Tryz.func23, Tryz.ntmps23
    go_wp2_with fail
    refine (HC1.out _ HB0.out).mono ?_
    rintro e w1 ⟨rfl, hb1⟩
    have HB1 := hide (bkp HB0.out hb1)
    have hR := HZ.out.below hb1
    clear hb1 HZ HB0 HC1
    unfold At3 at hR
    go_wp2_with (first
      | (refine wpList_store_row rfl _ _ _ rfl (w.heap.size + 1) _ rfl rfl _ _ hR (by exact infoT) (by rfl) (all3 _ _ _ _ _ _ _) ?_))
    refine bodyPost_ret (Pau.results_ct rfl _ _ (w.heap.size + 1) _ _ _ _ rfl (setRow_heap _ _ _ _ _ _ hR) Tryz.underlying29 rfl (by exact infoT)) rfl ?_
    exact ⟨none, none, 0, 0, rfl, HZT.out _, below_setRow HB1.out (by omega) _⟩
  . have hd1 : decide (v < 0) = false := decide_eq_false (by omega)
    have hd2 : decide (1 < v) = true := decide_eq_true hv
    clear hv
    go_enter Tryz.func23, Tryz.ntmps23
    go_wp2_with fail
    refine (HC1.out _ HB0.out).mono ?_
    rintro e w1 ⟨rfl, hb1⟩
    have HB1 := hide (bkp HB0.out hb1)
    have hR := HZ.out.below hb1
    clear hb1 HZ HB0 HC1
    unfold At3 at hR
    go_wp2_with (first
      | (refine wpList_store_row rfl _ _ _ rfl (w.heap.size + 1) _ rfl rfl _ _ hR (by exact infoT) (by rfl) (all3 _ _ _ _ _ _ _) ?_))
    refine bodyPost_ret (Pau.results_ct rfl _ _ (w.heap.size + 1) _ _ _ _ rfl (setRow_heap _ _ _ _ _ _ hR) Tryz.underlying29 rfl (by exact infoT)) rfl ?_
    exact ⟨none, none, 0, 0, rfl, HZT.out _, below_setRow HB1.out (by omega) _⟩
  all_goals (
    go_enter Tryz.func23, Tryz.ntmps23
    go_wp2_with fail
    refine (HC1.out _ HB0.out).mono ?_
    rintro e w1 ⟨rfl, hb1⟩
    have HB1 := hide (bkp HB0.out hb1)
    have hR := HZ.out.below hb1
    clear hb1 HZ HB0 HC1
    unfold At3 at hR
    go_wp2_with (first
      | (refine wpList_store_row rfl _ _ _ rfl (w.heap.size + 1) _ rfl rfl _ _ hR (by exact infoT) (by rfl) (all3 _ _ _ _ _ _ _) ?_))
    refine bodyPost_ret (Pau.results_ct rfl _ _ (w.heap.size + 1) _ _ _ _ rfl (setRow_heap _ _ _ _ _ _ hR) Tryz.underlying29 rfl (by exact infoT)) rfl ?_
    exact ⟨none, none, 0, 0, rfl, HZT.out _, below_setRow HB1.out (by omega) _⟩)
theorem dProject_one (t : TT) (a b : Option Addr) (ca cb : Nat) (q v : Int) (hc : chB t = true) (hcq : cqI t q = 0) (hv : v = 0 ∨ v = 1) (hod : odI t q = v) (w : World) (h : Th w t a b ca cb) :
    Calls Tryz.prog 23 #[tV t a b ca cb, .int .i64 q, .int .i64 v] w fun e w' => ∃ a' b' ca' cb', e = .returned (.tuple #[tV t a' b' ca' cb', .int .i64 0]) /\ Th w' t a' b' ca' cb' /\ Below w.heap.size w w' := by
  obtain ⟨hs64, hd64⟩ := ch_len hc
  have HT := hide h
  have HC1 := hide (fun W (hb : Below w.heap.size w W) => dOdds t a b ca cb q W (h.below hb))
  have HC2 := hide (fun W (hb : Below w.heap.size w W) => dCopy t a b ca cb (by omega) (by omega) W (h.below hb))
  rw [hod, hcq] at HC1
  obtain ⟨hA, hZ⟩ := two3 w (.int .i64 t.n) (.slice a t.s.length ca) (.slice b t.d.length cb) (.int .i64 0) (.slice none 0 0) (.slice none 0 0)
  have HA := hide hA
  have HZ := hide hZ
  have HB0 := hide (bkp (bnew w (.cells #[.int .i64 t.n, .slice a t.s.length ca, .slice b t.d.length cb] 29)) (bnew _ (.cells #[.int .i64 0, .slice none 0 0, .slice none 0 0] 29)))
  have HTB : Hid (∀ W B a' b' ca' cb', Tn W B t a' b' ca' cb' -> Th W t a' b' ca' cb') := hide (fun W B a' b' ca' cb' hT => hT.th HT.out.ws HT.out.wd HT.out.na HT.out.nb)
  clear hA hZ h hc hcq hod HT
  unfold tV at HC1 HC2 ⊢
  generalize t.s.length = ns at *
  generalize t.d.length = nd at *
  generalize hn : t.n = n at *
  clear hn
  rcases hv with rfl | rfl
  all_goals (
    go_enter Tryz.func23, Tryz.ntmps23
    go_wp2_with fail
    refine (HC1.out _ HB0.out).mono ?_
    rintro e w1 ⟨rfl, hb1⟩
    have HB1 := hide (bkp HB0.out hb1)
    have HA1 := hide (HA.out.below hb1)
    have HZ1 := hide (HZ.out.below hb1)
    clear hb1 HA HZ HB0 HC1
    obtain ⟨x0, x1, x2, x3⟩ := HA1.out.cells
    go_wp2_with fail
    refine (HC2.out _ HB1.out).mono ?_
    rintro e w2 ⟨a', b', ca', cb', rfl, hTn, hb2⟩
    have HTn := hide hTn
    have HB2 := hide (bkp HB1.out hb2)
    have HZ2 := hide (HZ1.out.below hb2)
    clear hb2 hTn HB1 HA1 HZ1 HC2 x0 x1 x2 x3
    obtain ⟨r0, r1, r2, r3⟩ := (At3.new w2 (.int .i64 n) (.slice a' ns ca') (.slice b' nd cb')).cells
    have hR := HZ2.out.below (bnew w2 (.cells #[.int .i64 n, .slice a' ns ca', .slice b' nd cb'] 29))
    have HX : Hid (Th ((w2.alloc (.cells #[.int .i64 n, .slice a' ns ca', .slice b' nd cb'] 29)).setRow (w.heap.size + 1) #[.int .i64 n, .slice a' ns ca', .slice b' nd cb']) t a' b' ca' cb' /\ Below w.heap.size w ((w2.alloc (.cells #[.int .i64 n, .slice a' ns ca', .slice b' nd cb'] 29)).setRow (w.heap.size + 1) #[.int .i64 n, .slice a' ns ca', .slice b' nd cb'])) := hide ⟨((HTB.out _ _ _ _ _ _ HTn.out).below (bnew w2 _)).row hR _, below_setRow (bkp HB2.out (bnew w2 _)) (by omega) _⟩
    clear HTB HTn HZ2 HB2
    unfold At3 at hR
    go_wp2_with (first
      | (refine wpList_store_row rfl _ _ _ rfl (w.heap.size + 1) _ rfl rfl _ _ hR (by exact infoT) (by rfl) (all3 _ _ _ _ _ _ _) ?_))
    refine bodyPost_ret (Pau.results_ct rfl _ _ (w.heap.size + 1) _ _ _ _ rfl (setRow_heap _ _ _ _ _ _ hR) Tryz.underlying29 rfl (by exact infoT)) rfl ?_
    exact ⟨a', b', ca', cb', rfl, HX.out.1, HX.out.2⟩)
structure Pj (w V : World) (N : Nat) (p : P) (a b : Option Addr) (ca cb gc g1 g2 c1 c2 gz : Nat) (u v : List P) : Prop where
  tb : At3 V w.heap.size (.int .i64 (N : Int)) (.slice a N ca) (.slice b N cb)
  pp : At4 V gz (.int .i64 p.n) (.int .u64 (p.x : Int)) (.int .u64 (p.z : Int)) (.int .i64 p.ph)
  rs : At3 V (w.heap.size + 1) (.int .i64 0) (.slice none 0 0) (.slice none 0 0)
  cc : At3 V gc (.int .i64 (N : Int)) (.slice (some ⟨g1, 0, none⟩) N c1) (.slice (some ⟨g2, 0, none⟩) N c2)
  so : PO V g1 u
  dd : PO V g2 v
  bw : Below w.heap.size w V
  n1 : w.heap.size + 1 < g1
  n2 : w.heap.size + 1 < g2
  n3 : w.heap.size + 1 < gc
  n4 : w.heap.size + 1 < gz
  e12 : g1 ≠ g2
  e13 : gc ≠ g1
  e23 : gc ≠ g2
  e41 : gz ≠ g1
  e42 : gz ≠ g2
  e43 : gz ≠ gc
namespace Pj
variable {w V : World} {N : Nat} {p : P} {a b : Option Addr} {ca cb gc g1 g2 c1 c2 gz : Nat} {u v : List P}
theorem keep {V' : World} (h : Pj w V N p a b ca cb gc g1 g2 c1 c2 gz u v) (hb : Below V.heap.size V V') : Pj w V' N p a b ca cb gc g1 g2 c1 c2 gz u v :=
  ⟨h.tb.below hb, h.pp.below hb, h.rs.below hb, h.cc.below hb, h.so.below hb, h.dd.below hb, bkp h.bw hb, h.n1, h.n2, h.n3, h.n4, h.e12, h.e13, h.e23, h.e41, h.e42, h.e43⟩
theorem setS (h : Pj w V N p a b ca cb gc g1 g2 c1 c2 gz u v) (i : Nat) (q : P) : Pj w (set4 V g1 (i * 4) q) N p a b ca cb gc g1 g2 c1 c2 gz (u.set i q) v :=
  ⟨h.tb.off (by have := h.n1; omega), At4.off4 h.pp h.e41, h.rs.off (by have := h.n1; omega), h.cc.off h.e13, h.so.set q, h.dd.off h.e12.symm, below_set4 h.bw (by have := h.n1; omega), h.n1, h.n2, h.n3, h.n4, h.e12, h.e13, h.e23, h.e41, h.e42, h.e43⟩
theorem setD (h : Pj w V N p a b ca cb gc g1 g2 c1 c2 gz u v) (i : Nat) (q : P) : Pj w (set4 V g2 (i * 4) q) N p a b ca cb gc g1 g2 c1 c2 gz u (v.set i q) :=
  ⟨h.tb.off (by have := h.n2; omega), At4.off4 h.pp h.e42, h.rs.off (by have := h.n2; omega), h.cc.off h.e23, h.so.off h.e12, h.dd.set q, below_set4 h.bw (by have := h.n2; omega), h.n1, h.n2, h.n3, h.n4, h.e12, h.e13, h.e23, h.e41, h.e42, h.e43⟩
theorem setZ (h : Pj w V N p a b ca cb gc g1 g2 c1 c2 gz u v) (x : Int) : Pj w (V.setCell ⟨gz, 3, none⟩ (.int .i64 x)) N ⟨p.n, p.x, p.z, x⟩ a b ca cb gc g1 g2 c1 c2 gz u v := by
  have far : ∀ k, k ≠ gz -> (V.setCell ⟨gz, 3, none⟩ (.int .i64 x)).heap[k]? = V.heap[k]? := fun k hk => Below.heap_setCell _ _ _ _ hk
  refine ⟨(far _ (by have := h.n4; omega)).trans h.tb, ?_, (far _ (by have := h.n4; omega)).trans h.rs, (far _ (Ne.symm h.e43)).trans h.cc, h.so.of_block (far _ (Ne.symm h.e41)), h.dd.of_block (far _ (Ne.symm h.e42)), h.bw.setCell (p := ⟨gz, 3, none⟩) (by show w.heap.size <= gz; have := h.n4; omega) _, h.n1, h.n2, h.n3, h.n4, h.e12, h.e13, h.e23, h.e41, h.e42, h.e43⟩
  have := h.pp
  unfold At4 at this ⊢
  simp [World.setCell, Array.getElem?_modify, this]
end Pj
theorem tn_lz {N q : Nat} (hq : q < N) (h64 : N <= 64) {v : Int} (hv : v = 0 ∨ v = 1) : tnB (lzP (N : Int) q v) = tnB (lzP (N : Int) q 0) := by
  have r1 := (sgB_iff.1 (sg_lz hq h64 hv)).1
  have r0 := (sgB_iff.1 (sg_lz hq h64 (v := 0) (.inl rfl))).1
  funext s
  unfold tnB cmB
  have e : fitP s (lzP (N : Int) q v) = fitP s (lzP (N : Int) q 0) := by
    by_cases h : fitP s (lzP (N : Int) q 0) = true
    . have hh := fit_iff.1 h
      rw [h]; exact fit_iff.2 ⟨hh.1, r1.1, hh.2.2⟩
    . have : ¬ fitP s (lzP (N : Int) q v) = true := fun h' => h (by have hh := fit_iff.1 h'; exact fit_iff.2 ⟨hh.1, r0.1, hh.2.2⟩)
      rw [Bool.eq_false_iff.2 h, Bool.eq_false_iff.2 this]
  rw [e]
  rfl
theorem dProject_two (t : TT) (a b : Option Addr) (ca cb : Nat) (q : Nat) (v : Int) (hc : chB t = true) (hcq : cqI t (q : Int) = 0) (hv : v = 0 ∨ v = 1) (hod : odI t (q : Int) = 2) (hl : lsB t (lzP t.n q 0) = true) (w : World) (h : Th w t a b ca cb) :
    Calls Tryz.prog 23 #[tV t a b ca cb, .int .i64 (q : Int), .int .i64 v] w fun e w' => ∃ a' b' ca' cb', e = .returned (.tuple #[tV (fcT t (lzP t.n q v)) a' b' ca' cb', .int .i64 0]) /\ Th w' (fcT t (lzP t.n q v)) a' b' ca' cb' /\ Below w.heap.size w w' := by
  have HT := hide h
  obtain ⟨hs64, hd64⟩ := ch_len hc
  obtain ⟨-, hq0, hq1, hq64, hz⟩ := cq_ok hcq
  have HC1 := hide (fun W (hb : Below w.heap.size w W) => dOdds t a b ca cb (q : Int) W (h.below hb))
  have HC2 := hide (fun W (hb : Below w.heap.size w W) => dCopy t a b ca cb (by omega) (by omega) W (h.below hb))
  rw [hod, hcq] at HC1
  have hsg : sgB (lzP t.n q 0) t.n = true := by
    obtain ⟨N, hN⟩ : ∃ N : Nat, t.n = (N : Int) := ⟨t.n.toNat, by omega⟩
    have := (sz_of hz).2.1
    rw [hN]; exact sg_lz (by omega) (by omega) (.inl rfl)
  obtain ⟨N, k, hF, hpr⟩ := fi2_of hc hsg hl
  have hqN : q < N := by have := hF.n; omega
  have h64 := hF.n64
  have htn := tn_lz hqN h64 hv
  have HC4 := hide (fun W => dLetter14 (N : Int) q (by omega) false W)
  have hlz : (⟨(N : Int), 0, 2 ^ q, 0⟩ : P) = lzP (N : Int) q 0 := rfl
  rw [if_neg (by decide), hlz] at HC4
  have HC3 := hide (fun W (hb : Below w.heap.size w W) => dLoose t a b ca cb hc _ N hF.n hpr W (HT.out.below hb))
  rw [hF.lo, hF.n] at HC3
  have hp : Wd (lzP (N : Int) q 0) := wd_lz _ (by omega) _
  have hp2 : Wd (lzP (N : Int) q v) := wd_lz _ (by omega) _
  have hlsv : lsI t (lzP (N : Int) q v) = k := by rw [← hF.ix, hF.n]; unfold lsI; rw [htn]
  have hts := hF.ts
  have htd := hF.td
  rw [hF.n] at hts htd
  have hk := hF.kl
  obtain ⟨hA, hZ⟩ := two3 w (.int .i64 t.n) (.slice a t.s.length ca) (.slice b t.d.length cb) (.int .i64 0) (.slice none 0 0) (.slice none 0 0)
  have HA := hide hA
  have HZ := hide hZ
  have HB0 := hide (bkp (bnew w (.cells #[.int .i64 t.n, .slice a t.s.length ca, .slice b t.d.length cb] 29)) (bnew _ (.cells #[.int .i64 0, .slice none 0 0, .slice none 0 0] 29)))
  clear hA hZ
  obtain ⟨gs, os, rfl, hcs1⟩ := HT.out.s.get (by rw [hF.ls]; omega)
  obtain ⟨gd, od, rfl, hcd1⟩ := HT.out.d.get (by rw [hF.ld]; omega)
  obtain ⟨p, hpe⟩ : ∃ p, lzP (N : Int) q 0 = p := ⟨_, rfl⟩
  have HRS : Hid (∀ V, Below w.heap.size w V -> ∀ i, i < N -> Pc V gs (os + i * 4) (t.s.getD i oP) /\ gs < V.heap.size) := hide (fun V hb i hi => by
    have := (hcs1 i _ (get_of (by rw [hF.ls]; exact hi))).below hb
    exact ⟨this, this.lt⟩)
  have HRD : Hid (∀ V, Below w.heap.size w V -> ∀ i, i < N -> Pc V gd (od + i * 4) (t.d.getD i oP) /\ gd < V.heap.size) := hide (fun V hb i hi => by
    have := (hcd1 i _ (get_of (by rw [hF.ld]; exact hi))).below hb
    exact ⟨this, this.lt⟩)
  rw [hpe] at hp hts htd htn HC3 HC4
  have HCS : Hid (∀ i, i < N -> ∀ W, Calls Tryz.prog 51 #[pV (t.s.getD i oP), pV p] W fun e w' => e = .returned (.bool (comB (t.s.getD i oP) p)) /\ Below W.heap.size W w') := hide (fun i hi W => dCommute14 _ _ (hF.ws i hi) hp W)
  have HCD : Hid (∀ i, i < N -> ∀ W, Calls Tryz.prog 51 #[pV (t.d.getD i oP), pV p] W fun e w' => e = .returned (.bool (comB (t.d.getD i oP) p)) /\ Below W.heap.size W w') := hide (fun i hi W => dCommute14 _ _ (hF.wd i hi) hp W)
  have HMS : Hid (∀ i, i < N -> ∀ W, Calls Tryz.prog 52 #[pV (t.s.getD i oP), pV (t.s.getD k oP)] W fun e w' => e = .returned (pV (pdP (t.s.getD i oP) (t.s.getD k oP))) /\ Below W.heap.size W w') := hide (fun i hi W => dTimes _ _ (hF.ws i hi) (hF.ws k hk) W)
  have HMD : Hid (∀ i, i < N -> ∀ W, Calls Tryz.prog 52 #[pV (t.d.getD i oP), pV (t.s.getD k oP)] W fun e w' => e = .returned (pV (pdP (t.d.getD i oP) (t.s.getD k oP))) /\ Below W.heap.size W w') := hide (fun i hi W => dTimes _ _ (hF.wd i hi) (hF.ws k hk) W)
  have HSa : Hid (∀ i, i < N -> ¬ i = k -> comB (t.s.getD i oP) p = false -> (upd t.s (mulF (t.s.getD k oP) k (tnB p)) i).set i (pdP (t.s.getD i oP) (t.s.getD k oP)) = upd t.s (mulF (t.s.getD k oP) k (tnB p)) (i + 1)) := hide (fun i hi h1 h2 => mul_step _ _ _ _ _ h1 (by rw [hts i hi, h2]; rfl))
  have HSb : Hid (∀ i, i < N -> (i = k ∨ comB (t.s.getD i oP) p = true) -> upd t.s (mulF (t.s.getD k oP) k (tnB p)) (i + 1) = upd t.s (mulF (t.s.getD k oP) k (tnB p)) i) := hide (fun i hi h1 => mul_stay _ _ _ _ _ (h1.imp id (fun e => by rw [hts i hi, e]; rfl)))
  have HDa : Hid (∀ i, i < N -> ¬ i = k -> comB (t.d.getD i oP) p = false -> (upd t.d (mulF (t.s.getD k oP) k (tnB p)) i).set i (pdP (t.d.getD i oP) (t.s.getD k oP)) = upd t.d (mulF (t.s.getD k oP) k (tnB p)) (i + 1)) := hide (fun i hi h1 h2 => mul_step _ _ _ _ _ h1 (by rw [htd i hi, h2]; rfl))
  have HDb : Hid (∀ i, i < N -> (i = k ∨ comB (t.d.getD i oP) p = true) -> upd t.d (mulF (t.s.getD k oP) k (tnB p)) (i + 1) = upd t.d (mulF (t.s.getD k oP) k (tnB p)) i) := hide (fun i hi h1 => mul_stay _ _ _ _ _ (h1.imp id (fun e => by rw [htd i hi, e]; rfl)))
  have HGS : Hid (∀ i j, j < N -> ∃ x, (upd t.s (mulF (t.s.getD k oP) k (tnB p)) i)[j]? = some x) := hide (fun i j hj => ⟨_, upd_at _ _ _ _ (by rw [hF.ls]; exact hj)⟩)
  have HGD : Hid (∀ i j, j < N -> ∃ x, (upd t.d (mulF (t.s.getD k oP) k (tnB p)) i)[j]? = some x) := hide (fun i j hj => ⟨_, upd_at _ _ _ _ (by rw [hF.ld]; exact hj)⟩)
  have HU0 : Hid (upd t.s (mulF (t.s.getD k oP) k (tnB p)) 0 = t.s /\ upd t.d (mulF (t.s.getD k oP) k (tnB p)) 0 = t.d) := hide ⟨upd_zero _ _, upd_zero _ _⟩
  have HPV : Hid (∀ x : Int, x = 2 * v -> (⟨p.n, p.x, p.z, x⟩ : P) = lzP (N : Int) q v) := hide (fun x e => by rw [← hpe, e]; rfl)
  have hfe : fcT t (lzP (N : Int) q v) = ⟨t.n, (upd t.s (mulF (t.s.getD k oP) k (tnB p)) N).set k (lzP (N : Int) q v), (upd t.d (mulF (t.s.getD k oP) k (tnB p)) N).set k (t.s.getD k oP)⟩ := by unfold fcT mlL; rw [hlsv, hF.ls, hF.ld, htn]
  have HEND : Hid (∀ W g1 g2 c1 c2, PO W g1 ((upd t.s (mulF (t.s.getD k oP) k (tnB p)) N).set k (lzP (N : Int) q v)) -> PO W g2 ((upd t.d (mulF (t.s.getD k oP) k (tnB p)) N).set k (t.s.getD k oP)) -> N <= c1 -> N <= c2 -> Th W (fcT t (lzP (N : Int) q v)) (some ⟨g1, 0, none⟩) (some ⟨g2, 0, none⟩) c1 c2) := hide (fun W g1 g2 c1 c2 h1 h2 h3 h4 => by
    have l1 : (fcT t (lzP (N : Int) q v)).s.length = N := by rw [hfe]; show (List.set _ _ _).length = N; rw [List.length_set, upd_len, hF.ls]
    have l2 : (fcT t (lzP (N : Int) q v)).d.length = N := by rw [hfe]; show (List.set _ _ _).length = N; rw [List.length_set, upd_len, hF.ld]
    have w1 : Wl (fcT t (lzP (N : Int) q v)).s := wl_set (wl_ml HT.out.ws (by rw [hlsv]; exact hF.ws k hk) _ _) hp2 _
    have w2 : Wl (fcT t (lzP (N : Int) q v)).d := wl_set (wl_ml HT.out.wd (by rw [hlsv]; exact hF.ws k hk) _ _) (by rw [hlsv]; exact hF.ws k hk) _
    refine ⟨by rw [hfe]; exact h1.pin, by rw [hfe]; exact h2.pin, w1, w2, by rw [l1]; exact h3, by rw [l2]; exact h4, by rw [l1]; omega, by rw [l2]; omega⟩)
  have HLEN : Hid ((fcT t (lzP (N : Int) q v)).n = (N : Int) /\ (fcT t (lzP (N : Int) q v)).s.length = N /\ (fcT t (lzP (N : Int) q v)).d.length = N) := hide (by rw [hfe]; exact ⟨hF.n, by show (List.set _ _ _).length = N; rw [List.length_set, upd_len, hF.ls], by show (List.set _ _ _).length = N; rw [List.length_set, upd_len, hF.ld]⟩)
  have HTN : Hid (∀ W B a' b' c1 c2, Tn W B t a' b' c1 c2 -> ∃ g1 g2, a' = some ⟨g1, 0, none⟩ /\ b' = some ⟨g2, 0, none⟩ /\ B <= g1 /\ B <= g2 /\ g1 ≠ g2 /\ PO W g1 t.s /\ PO W g2 t.d /\ N <= c1 /\ N <= c2) := hide (fun W B a' b' c1 c2 hT => by
    obtain ⟨g1, e1, b1, o1⟩ := get_some hT.s (by rw [hF.ls]; omega)
    obtain ⟨g2, e2, b2, o2⟩ := get_some hT.d (by rw [hF.ld]; omega)
    refine ⟨g1, g2, e1, e2, b1, b2, ?_, o1, o2, by rw [← hF.ls]; exact hT.la, by rw [← hF.ld]; exact hT.lb⟩
    rcases hT.ne with e | e | e
    . have := hF.ls; rw [e] at this; simp at this; omega
    . have := hF.ld; rw [e] at this; simp at this; omega
    . exact e _ _ e1 e2)
  unfold tV at HC1 HC2 HC3 ⊢
  rw [hF.n]
  rw [HLEN.out.1, HLEN.out.2.1, HLEN.out.2.2]
  rw [hF.ls, hF.ld] at HC1 HC2 HA HZ HB0 ⊢
  rw [hF.n] at HC1 HC2 HA HZ HB0
  rw [hF.ls, hF.ld, hF.n] at HC3
  clear HLEN hfe hcs1 hcd1 hod hcq hc hz hsg hp hp2 HT hF hpr hs64 hd64 hl hts htd htn hlsv hlz h hpe hq0 hq1 hq64 hqN
  generalize upd t.s (mulF (t.s.getD k oP) k (tnB p)) = US at *
  generalize upd t.d (mulF (t.s.getD k oP) k (tnB p)) = UD at *
  generalize fcT t (lzP (N : Int) q v) = R at *
  generalize lzP (N : Int) q v = LZ at *
  obtain ⟨pn, px, pz, pph⟩ := p
  unfold pV at HC3 HC4 HCS HCD HMS HMD
  simp only at *
  have hv1 : decide (v < 0) = false := decide_eq_false (by omega)
  have hv2 : decide (1 < v) = false := decide_eq_false (by omega)
  have hv3 : ((2 : Int) == 1 - v) = false := beq_false_of_ne (by omega)
  have hv4 : ((2 : Int) == v) = false := beq_false_of_ne (by omega)
  have hv5 : wrap64 (1 - v) = 1 - v := by unfold wrap64; omega
  have hv6 : wrap64 (2 * v) = 2 * v := by unfold wrap64; omega
  clear hv
  go_enter Tryz.func23, Tryz.ntmps23
  go_wp2_with fail
  refine (HC1.out _ HB0.out).mono ?_
  rintro e w1 ⟨rfl, hb1⟩
  have HB1 := hide (bkp HB0.out hb1)
  have HA1 := hide (HA.out.below hb1)
  have HZ1 := hide (HZ.out.below hb1)
  have HL1 : Hid (w.heap.size + 1 < w1.heap.size) := hide HZ1.out.lt
  clear hb1 HA HZ HB0 HC1
  obtain ⟨x0, x1, x2, x3⟩ := HA1.out.cells
  go_wp2_with fail
  refine (HC2.out _ HB1.out).mono ?_
  rintro e w2 ⟨a', b', ca', cb', rfl, hTn, hb2⟩
  obtain ⟨g1, g2, rfl, rfl, hg1, hg2, hg12, ho1, ho2, hl1, hl2⟩ := HTN.out _ _ _ _ _ _ hTn
  have hbn := bnew w2 (.cells #[.int .i64 (N : Int), .slice (some ⟨g1, 0, none⟩) N ca', .slice (some ⟨g2, 0, none⟩) N cb'] 29)
  have HK2 := hide (And.intro (bkp (bkp HB1.out hb2) hbn) (And.intro ((HA1.out.below hb2).below hbn) (And.intro ((HZ1.out.below hb2).below hbn) (And.intro (At3.new w2 (.int .i64 (N : Int)) (.slice (some ⟨g1, 0, none⟩) N ca') (.slice (some ⟨g2, 0, none⟩) N cb')) (And.intro (ho1.below hbn) (ho2.below hbn))))))
  have HNM : Hid (w.heap.size + 1 < g1 /\ w.heap.size + 1 < g2 /\ w.heap.size + 1 < w2.heap.size /\ g1 ≠ g2 /\ w2.heap.size ≠ g1 /\ w2.heap.size ≠ g2) := hide (by
    have q1 := ho1.lt
    have q2 := ho2.lt
    have q3 := HL1.out
    have q4 := hb2.size
    exact ⟨by omega, by omega, by omega, hg12, by omega, by omega⟩)
  have HLL := hide (And.intro hl1 hl2)
  clear hTn hb2 hbn HTN hg1 hg2 hg12 ho1 ho2 hl1 hl2 HB1 HA1 HZ1 HC2 HL1 x0 x1 x2 x3
  obtain ⟨x0, x1, x2, x3⟩ := HK2.out.2.1.cells
  go_wp2_with fail
  clear x0 x1 x2 x3
  generalize w2.alloc (.cells #[.int .i64 (N : Int), .slice (some ⟨g1, 0, none⟩) N ca', .slice (some ⟨g2, 0, none⟩) N cb'] 29) = V2 at *
  generalize w2.heap.size = gc at *
  refine (HC4.out _).mono ?_
  rintro e w3 ⟨rfl, hb3⟩
  have hbn := bnew w3 (.cells #[.int .i64 pn, .int .u64 (px : Int), .int .u64 (pz : Int), .int .i64 pph] 25)
  have HI0 : Hid (Pj w (w3.alloc (.cells #[.int .i64 pn, .int .u64 (px : Int), .int .u64 (pz : Int), .int .i64 pph] 25)) N ⟨pn, px, pz, pph⟩ (some ⟨gs, os, none⟩) (some ⟨gd, od, none⟩) ca cb gc g1 g2 ca' cb' w3.heap.size (US 0) (UD 0)) := hide (by
    obtain ⟨k1, k2, k3, k4, k5, k6⟩ := HK2.out
    obtain ⟨j1, j2, j3, j4, j5, j6⟩ := HNM.out
    have s1 := k5.lt
    have s2 := k6.lt
    have s3 := k4.lt
    have s4 := hb3.size
    exact ⟨(k2.below hb3).below hbn, At4.new _ _ _ _ _, (k3.below hb3).below hbn, (k4.below hb3).below hbn, by rw [HU0.out.1]; exact (k5.below hb3).below hbn, by rw [HU0.out.2]; exact (k6.below hb3).below hbn, bkp (bkp k1 hb3) hbn, j1, j2, j3, by omega, j4, j5, j6, by omega, by omega, by omega⟩)
  clear hb3 hbn HK2 HNM HU0 HC4
  obtain ⟨x0, x1, x2, x3⟩ := HI0.out.tb.cells
  obtain ⟨y0, y1, y2, y3, y4⟩ := HI0.out.pp.cells
  go_wp2_with fail
  clear x0 x1 x2 x3 y0 y1 y2 y3 y4
  generalize w3.alloc (.cells #[.int .i64 pn, .int .u64 (px : Int), .int .u64 (pz : Int), .int .i64 pph] 25) = V3 at *
  generalize w3.heap.size = gz at *
  refine (HC3.out _ HI0.out.bw).mono ?_
  rintro e w4 ⟨rfl, hb4⟩
  have HI4 := hide (HI0.out.keep hb4)
  clear HI0 HC3 hb4
  go_wp2_with fail
  go_loopw [13] (fun vi wr => ∃ i : Nat, vi = .int .i64 (i : Int) /\ i <= N /\ Hid (Pj w wr N ⟨pn, px, pz, pph⟩ (some ⟨gs, os, none⟩) (some ⟨gd, od, none⟩) ca cb gc g1 g2 ca' cb' gz (US i) (UD i))) (fun vi _ => N - (Go.RowKit.intOf vi).toNat)
  case atStart => exact ⟨0, rfl, Nat.zero_le _, HI4⟩
  case round =>
    obtain ⟨i, rfl, hi, HI⟩ := hrel
    clear HI4
    obtain ⟨x0, x1, x2, x3⟩ := HI.out.tb.cells
    by_cases h : i < N
    . have hd : decide ((i : Int) < (N : Int)) = true := decide_eq_true (by omega)
      have hsa := HSa.out i h
      have hsb := HSb.out i h
      have hda := HDa.out i h
      have hdb := HDb.out i h
      have c1 := HCS.out i h
      have c2 := HCD.out i h
      have c3 := HMS.out i h
      have c4 := HMD.out i h
      have HPS := hide (fun V hb => HRS.out V hb i h)
      have HPD := hide (fun V hb => HRD.out V hb i h)
      have HPK := hide (fun V hb => HRS.out V hb k hk)
      clear HSa HSb HDa HDb HCS HCD HMS HMD HRS HRD HEND HLL HPV
      generalize pdP (t.s.getD i oP) (t.s.getD k oP) = QS at *
      generalize pdP (t.d.getD i oP) (t.s.getD k oP) = QD at *
      generalize comB (t.s.getD i oP) ⟨pn, px, pz, pph⟩ = bS at *
      generalize comB (t.d.getD i oP) ⟨pn, px, pz, pph⟩ = bD at *
      generalize t.s.getD i oP = si at *
      generalize t.d.getD i oP = di at *
      generalize t.s.getD k oP = sk at *
      obtain ⟨m1, u1, v1, f1⟩ := si
      obtain ⟨m2, u2, v2, f2⟩ := di
      obtain ⟨m3, u3, v3, f3⟩ := sk
      obtain ⟨m4, u4, v4, f4⟩ := QS
      obtain ⟨m5, u5, v5, f5⟩ := QD
      simp only at c1 c2 c3 c4
      go_wp2_with fail
      by_cases hk1 : i = k
      . have HUS := hide (hsb (.inl hk1))
        have HUD := hide (hdb (.inl hk1))
        have e1 : ((i : Int) != (k : Int)) = false := by rw [hk1]; simp
        clear hsa hsb hda hdb hk1 x0 x1 x2 x3
        have HCS : Hid (∀ W, Below wr.heap.size wr W -> (W.cell? ⟨w.heap.size, 0, none⟩ = some (.int .i64 (N : Int)) /\ W.cell? ⟨w.heap.size, 1, none⟩ = some (.slice (some ⟨gs, os, none⟩) N ca) /\ W.cell? ⟨w.heap.size, 2, none⟩ = some (.slice (some ⟨gd, od, none⟩) N cb) /\ w.heap.size < W.heap.size) /\ (W.cell? ⟨gz, 0, none⟩ = some (.int .i64 pn) /\ W.cell? ⟨gz, 1, none⟩ = some (.int .u64 (px : Int)) /\ W.cell? ⟨gz, 2, none⟩ = some (.int .u64 (pz : Int)) /\ W.cell? ⟨gz, 3, none⟩ = some (.int .i64 pph) /\ gz < W.heap.size) /\ Pc W gs (os + i * 4) ⟨m1, u1, v1, f1⟩ /\ Pc W gd (od + i * 4) ⟨m2, u2, v2, f2⟩ /\ gs < W.heap.size /\ gd < W.heap.size) := hide (fun W hW => ⟨(HI.out.tb.below hW).cells, (HI.out.pp.below hW).cells, (HPS.out W (bkp HI.out.bw hW)).1, (HPD.out W (bkp HI.out.bw hW)).1, (HPS.out W (bkp HI.out.bw hW)).2, (HPD.out W (bkp HI.out.bw hW)).2⟩)
        refine wp_region_quiet_C (C := fun W => Below wr.heap.size wr W) (by kernel_rfl) (by kernel_rfl) (bdrew (Below.refl _ _) 1) ?_
        refine unhideP ?_
        repeat
          refine wpQuiet_stepH (fun K hK => ?_)
          go_simp
          first
            | (refine hK _ ?_; clear hK K)
            | (apply Exists.intro
               refine ⟨fun W hW => ?_, hK _ ?_⟩
               first
                 | ((with_reducible refine Calls.mono (c1 _) ?_); rintro e x ⟨rfl, hb⟩; exact ⟨rfl, bkp hW hb⟩)
                 | (obtain ⟨⟨p0, p1, p2, p3⟩, ⟨a0, a1, a2, a3, a4⟩, ⟨b0, b1, b2, b3⟩, ⟨d0, d1, d2, d3⟩, e1, e2⟩ := HCS.out W hW; go_simp; rfl)
               clear hK K)
        refine wpQuiet_nilH ?_
        intro WS hWS
        have HIS := hide (HI.out.keep hWS)
        clear hWS HI HCS
        go_wp2_with fail
        have HXS : Hid (Pj w WS N ⟨pn, px, pz, pph⟩ (some ⟨gs, os, none⟩) (some ⟨gd, od, none⟩) ca cb gc g1 g2 ca' cb' gz (US (i + 1)) (UD i)) := hide (by rw [HUS.out]; exact HIS.out)
        clear HIS
        have HCD : Hid (∀ W, Below WS.heap.size WS W -> (W.cell? ⟨w.heap.size, 0, none⟩ = some (.int .i64 (N : Int)) /\ W.cell? ⟨w.heap.size, 1, none⟩ = some (.slice (some ⟨gs, os, none⟩) N ca) /\ W.cell? ⟨w.heap.size, 2, none⟩ = some (.slice (some ⟨gd, od, none⟩) N cb) /\ w.heap.size < W.heap.size) /\ (W.cell? ⟨gz, 0, none⟩ = some (.int .i64 pn) /\ W.cell? ⟨gz, 1, none⟩ = some (.int .u64 (px : Int)) /\ W.cell? ⟨gz, 2, none⟩ = some (.int .u64 (pz : Int)) /\ W.cell? ⟨gz, 3, none⟩ = some (.int .i64 pph) /\ gz < W.heap.size) /\ Pc W gs (os + i * 4) ⟨m1, u1, v1, f1⟩ /\ Pc W gd (od + i * 4) ⟨m2, u2, v2, f2⟩ /\ gs < W.heap.size /\ gd < W.heap.size) := hide (fun W hW => ⟨(HXS.out.tb.below hW).cells, (HXS.out.pp.below hW).cells, (HPS.out W (bkp HXS.out.bw hW)).1, (HPD.out W (bkp HXS.out.bw hW)).1, (HPS.out W (bkp HXS.out.bw hW)).2, (HPD.out W (bkp HXS.out.bw hW)).2⟩)
        refine wp_region_quiet_C (C := fun W => Below WS.heap.size WS W) (by kernel_rfl) (by kernel_rfl) (bdrew (Below.refl _ _) 1) ?_
        refine unhideP ?_
        repeat
          refine wpQuiet_stepH (fun K hK => ?_)
          go_simp
          first
            | (refine hK _ ?_; clear hK K)
            | (apply Exists.intro
               refine ⟨fun W hW => ?_, hK _ ?_⟩
               first
                 | ((with_reducible refine Calls.mono (c2 _) ?_); rintro e x ⟨rfl, hb⟩; exact ⟨rfl, bkp hW hb⟩)
                 | (obtain ⟨⟨p0, p1, p2, p3⟩, ⟨a0, a1, a2, a3, a4⟩, ⟨b0, b1, b2, b3⟩, ⟨d0, d1, d2, d3⟩, e1, e2⟩ := HCD.out W hW; go_simp; rfl)
               clear hK K)
        refine wpQuiet_nilH ?_
        intro WD hWD
        have HID := hide (HXS.out.keep hWD)
        clear hWD HXS HCD
        go_wp2_with fail
        have HXD : Hid (Pj w WD N ⟨pn, px, pz, pph⟩ (some ⟨gs, os, none⟩) (some ⟨gd, od, none⟩) ca cb gc g1 g2 ca' cb' gz (US (i + 1)) (UD (i + 1))) := hide (by rw [HUD.out]; exact HID.out)
        clear HID
        go_roundw
        case rel => exact ⟨i + 1, by go_num, by omega, HXD⟩
        case measure => simp [Go.RowKit.intOf]; omega
      . cases bS with
        | false =>
          cases bD with
          | false =>
            have HUS := hide (hsa hk1 rfl)
            have HUD := hide (hda hk1 rfl)
            have e1 : ((i : Int) != (k : Int)) = true := bne_iff_ne.2 (by omega)
            clear hsa hsb hda hdb hk1 x0 x1 x2 x3
            have HCS : Hid (∀ W, Below wr.heap.size wr W -> (W.cell? ⟨w.heap.size, 0, none⟩ = some (.int .i64 (N : Int)) /\ W.cell? ⟨w.heap.size, 1, none⟩ = some (.slice (some ⟨gs, os, none⟩) N ca) /\ W.cell? ⟨w.heap.size, 2, none⟩ = some (.slice (some ⟨gd, od, none⟩) N cb) /\ w.heap.size < W.heap.size) /\ (W.cell? ⟨gz, 0, none⟩ = some (.int .i64 pn) /\ W.cell? ⟨gz, 1, none⟩ = some (.int .u64 (px : Int)) /\ W.cell? ⟨gz, 2, none⟩ = some (.int .u64 (pz : Int)) /\ W.cell? ⟨gz, 3, none⟩ = some (.int .i64 pph) /\ gz < W.heap.size) /\ Pc W gs (os + i * 4) ⟨m1, u1, v1, f1⟩ /\ Pc W gd (od + i * 4) ⟨m2, u2, v2, f2⟩ /\ gs < W.heap.size /\ gd < W.heap.size) := hide (fun W hW => ⟨(HI.out.tb.below hW).cells, (HI.out.pp.below hW).cells, (HPS.out W (bkp HI.out.bw hW)).1, (HPD.out W (bkp HI.out.bw hW)).1, (HPS.out W (bkp HI.out.bw hW)).2, (HPD.out W (bkp HI.out.bw hW)).2⟩)
            refine wp_region_quiet_C (C := fun W => Below wr.heap.size wr W) (by kernel_rfl) (by kernel_rfl) (bdrew (Below.refl _ _) 1) ?_
            refine unhideP ?_
            repeat
              refine wpQuiet_stepH (fun K hK => ?_)
              go_simp
              first
                | (refine hK _ ?_; clear hK K)
                | (apply Exists.intro
                   refine ⟨fun W hW => ?_, hK _ ?_⟩
                   first
                     | ((with_reducible refine Calls.mono (c1 _) ?_); rintro e x ⟨rfl, hb⟩; exact ⟨rfl, bkp hW hb⟩)
                     | (obtain ⟨⟨p0, p1, p2, p3⟩, ⟨a0, a1, a2, a3, a4⟩, ⟨b0, b1, b2, b3⟩, ⟨d0, d1, d2, d3⟩, e1, e2⟩ := HCS.out W hW; go_simp; rfl)
                   clear hK K)
            refine wpQuiet_nilH ?_
            intro WS hWS
            have HIS := hide (HI.out.keep hWS)
            clear hWS HI HCS
            go_wp2_with fail
            have HC : Hid (∀ W, Below WS.heap.size WS W -> (W.cell? ⟨w.heap.size, 0, none⟩ = some (.int .i64 (N : Int)) /\ W.cell? ⟨w.heap.size, 1, none⟩ = some (.slice (some ⟨gs, os, none⟩) N ca) /\ W.cell? ⟨w.heap.size, 2, none⟩ = some (.slice (some ⟨gd, od, none⟩) N cb) /\ w.heap.size < W.heap.size) /\ (W.cell? ⟨gc, 0, none⟩ = some (.int .i64 (N : Int)) /\ W.cell? ⟨gc, 1, none⟩ = some (.slice (some ⟨g1, 0, none⟩) N ca') /\ W.cell? ⟨gc, 2, none⟩ = some (.slice (some ⟨g2, 0, none⟩) N cb') /\ gc < W.heap.size) /\ Pc W gs (os + i * 4) ⟨m1, u1, v1, f1⟩ /\ Pc W gs (os + k * 4) ⟨m3, u3, v3, f3⟩ /\ gs < W.heap.size /\ gs < W.heap.size /\ g1 < W.heap.size) := hide (fun W hW => ⟨(HIS.out.tb.below hW).cells, (HIS.out.cc.below hW).cells, (HPS.out W (bkp HIS.out.bw hW)).1, (HPK.out W (bkp HIS.out.bw hW)).1, (HPS.out W (bkp HIS.out.bw hW)).2, (HPK.out W (bkp HIS.out.bw hW)).2, (HIS.out.so.below hW).lt⟩)
            refine wp_region_quiet_last (C := fun W => Below WS.heap.size WS W) (by kernel_rfl) 15 rfl (by kernel_rfl) (by kernel_rfl) (bdrew (Below.refl _ _) 1) ?_
            simp only [List.take_succ_cons, List.take_zero]
            repeat
              refine wpQuiet_step (fun K hK => ?_)
              go_simp
              first
                | (refine hK _ ?_; clear hK K)
                | (apply Exists.intro
                   refine ⟨fun W hW => ?_, hK _ ?_⟩
                   first
                     | ((with_reducible refine Calls.mono (c3 _) ?_); rintro e x ⟨rfl, hb⟩; exact ⟨rfl, bkp hW hb⟩)
                     | (obtain ⟨⟨p0, p1, p2, p3⟩, ⟨a0, a1, a2, a3⟩, ⟨b0, b1, b2, b3⟩, ⟨d0, d1, d2, d3⟩, e1, e2, e3⟩ := HC.out W hW; go_simp; rfl)
                   clear hK K)
            refine wpQuiet_nil ?_
            intro W hW
            have HX : Hid (Pj w (set4 W g1 (i * 4) ⟨m4, u4, v4, f4⟩) N ⟨pn, px, pz, pph⟩ (some ⟨gs, os, none⟩) (some ⟨gd, od, none⟩) ca cb gc g1 g2 ca' cb' gz (US (i + 1)) (UD i)) := hide (by
              have := (HIS.out.keep hW).setS i ⟨m4, u4, v4, f4⟩
              rw [HUS.out] at this
              exact this)
            obtain ⟨old, hold⟩ := HGS.out i i h
            have hPc := (HIS.out.so.below hW).at hold
            obtain ⟨mo, uo, vo, fo⟩ := old
            obtain ⟨a0, a1, a2, a3⟩ := hPc
            have ff := (HIS.out.so.below hW).fz
            have kk := (HIS.out.so.below hW).lt
            simp only at a0 a1 a2 a3
            clear hW HC HIS hold
            unfold set4 at HX
            go_wp2_with fail
            generalize (((W.setCell ⟨g1, i * 4, none⟩ (.int .i64 m4)).setCell ⟨g1, i * 4 + 1, none⟩ (.int .u64 (u4 : Int))).setCell ⟨g1, i * 4 + 2, none⟩ (.int .u64 (v4 : Int))).setCell ⟨g1, i * 4 + 3, none⟩ (.int .i64 f4) = YS at *
            clear a0 a1 a2 a3 ff kk W
            have HXS := HX
            clear HX
            have HCD : Hid (∀ W, Below YS.heap.size YS W -> (W.cell? ⟨w.heap.size, 0, none⟩ = some (.int .i64 (N : Int)) /\ W.cell? ⟨w.heap.size, 1, none⟩ = some (.slice (some ⟨gs, os, none⟩) N ca) /\ W.cell? ⟨w.heap.size, 2, none⟩ = some (.slice (some ⟨gd, od, none⟩) N cb) /\ w.heap.size < W.heap.size) /\ (W.cell? ⟨gz, 0, none⟩ = some (.int .i64 pn) /\ W.cell? ⟨gz, 1, none⟩ = some (.int .u64 (px : Int)) /\ W.cell? ⟨gz, 2, none⟩ = some (.int .u64 (pz : Int)) /\ W.cell? ⟨gz, 3, none⟩ = some (.int .i64 pph) /\ gz < W.heap.size) /\ Pc W gs (os + i * 4) ⟨m1, u1, v1, f1⟩ /\ Pc W gd (od + i * 4) ⟨m2, u2, v2, f2⟩ /\ gs < W.heap.size /\ gd < W.heap.size) := hide (fun W hW => ⟨(HXS.out.tb.below hW).cells, (HXS.out.pp.below hW).cells, (HPS.out W (bkp HXS.out.bw hW)).1, (HPD.out W (bkp HXS.out.bw hW)).1, (HPS.out W (bkp HXS.out.bw hW)).2, (HPD.out W (bkp HXS.out.bw hW)).2⟩)
            refine wp_region_quiet_C (C := fun W => Below YS.heap.size YS W) (by kernel_rfl) (by kernel_rfl) (bdrew (Below.refl _ _) 1) ?_
            refine unhideP ?_
            repeat
              refine wpQuiet_stepH (fun K hK => ?_)
              go_simp
              first
                | (refine hK _ ?_; clear hK K)
                | (apply Exists.intro
                   refine ⟨fun W hW => ?_, hK _ ?_⟩
                   first
                     | ((with_reducible refine Calls.mono (c2 _) ?_); rintro e x ⟨rfl, hb⟩; exact ⟨rfl, bkp hW hb⟩)
                     | (obtain ⟨⟨p0, p1, p2, p3⟩, ⟨a0, a1, a2, a3, a4⟩, ⟨b0, b1, b2, b3⟩, ⟨d0, d1, d2, d3⟩, e1, e2⟩ := HCD.out W hW; go_simp; rfl)
                   clear hK K)
            refine wpQuiet_nilH ?_
            intro WD hWD
            have HID := hide (HXS.out.keep hWD)
            clear hWD HXS HCD
            go_wp2_with fail
            have HC : Hid (∀ W, Below WD.heap.size WD W -> (W.cell? ⟨w.heap.size, 0, none⟩ = some (.int .i64 (N : Int)) /\ W.cell? ⟨w.heap.size, 1, none⟩ = some (.slice (some ⟨gs, os, none⟩) N ca) /\ W.cell? ⟨w.heap.size, 2, none⟩ = some (.slice (some ⟨gd, od, none⟩) N cb) /\ w.heap.size < W.heap.size) /\ (W.cell? ⟨gc, 0, none⟩ = some (.int .i64 (N : Int)) /\ W.cell? ⟨gc, 1, none⟩ = some (.slice (some ⟨g1, 0, none⟩) N ca') /\ W.cell? ⟨gc, 2, none⟩ = some (.slice (some ⟨g2, 0, none⟩) N cb') /\ gc < W.heap.size) /\ Pc W gd (od + i * 4) ⟨m2, u2, v2, f2⟩ /\ Pc W gs (os + k * 4) ⟨m3, u3, v3, f3⟩ /\ gd < W.heap.size /\ gs < W.heap.size /\ g2 < W.heap.size) := hide (fun W hW => ⟨(HID.out.tb.below hW).cells, (HID.out.cc.below hW).cells, (HPD.out W (bkp HID.out.bw hW)).1, (HPK.out W (bkp HID.out.bw hW)).1, (HPD.out W (bkp HID.out.bw hW)).2, (HPK.out W (bkp HID.out.bw hW)).2, (HID.out.dd.below hW).lt⟩)
            refine wp_region_quiet_last (C := fun W => Below WD.heap.size WD W) (by kernel_rfl) 15 rfl (by kernel_rfl) (by kernel_rfl) (bdrew (Below.refl _ _) 1) ?_
            simp only [List.take_succ_cons, List.take_zero]
            repeat
              refine wpQuiet_step (fun K hK => ?_)
              go_simp
              first
                | (refine hK _ ?_; clear hK K)
                | (apply Exists.intro
                   refine ⟨fun W hW => ?_, hK _ ?_⟩
                   first
                     | ((with_reducible refine Calls.mono (c4 _) ?_); rintro e x ⟨rfl, hb⟩; exact ⟨rfl, bkp hW hb⟩)
                     | (obtain ⟨⟨p0, p1, p2, p3⟩, ⟨a0, a1, a2, a3⟩, ⟨b0, b1, b2, b3⟩, ⟨d0, d1, d2, d3⟩, e1, e2, e3⟩ := HC.out W hW; go_simp; rfl)
                   clear hK K)
            refine wpQuiet_nil ?_
            intro W hW
            have HX : Hid (Pj w (set4 W g2 (i * 4) ⟨m5, u5, v5, f5⟩) N ⟨pn, px, pz, pph⟩ (some ⟨gs, os, none⟩) (some ⟨gd, od, none⟩) ca cb gc g1 g2 ca' cb' gz (US (i + 1)) (UD (i + 1))) := hide (by
              have := (HID.out.keep hW).setD i ⟨m5, u5, v5, f5⟩
              rw [HUD.out] at this
              exact this)
            obtain ⟨old, hold⟩ := HGD.out i i h
            have hPc := (HID.out.dd.below hW).at hold
            obtain ⟨mo, uo, vo, fo⟩ := old
            obtain ⟨a0, a1, a2, a3⟩ := hPc
            have ff := (HID.out.dd.below hW).fz
            have kk := (HID.out.dd.below hW).lt
            simp only at a0 a1 a2 a3
            clear hW HC HID hold
            unfold set4 at HX
            go_wp2_with fail
            generalize (((W.setCell ⟨g2, i * 4, none⟩ (.int .i64 m5)).setCell ⟨g2, i * 4 + 1, none⟩ (.int .u64 (u5 : Int))).setCell ⟨g2, i * 4 + 2, none⟩ (.int .u64 (v5 : Int))).setCell ⟨g2, i * 4 + 3, none⟩ (.int .i64 f5) = YD at *
            clear a0 a1 a2 a3 ff kk W
            go_roundw
            case rel => exact ⟨i + 1, by go_num, by omega, HX⟩
            case measure => simp [Go.RowKit.intOf]; omega
          | true =>
            have HUS := hide (hsa hk1 rfl)
            have HUD := hide (hdb (.inr rfl))
            have e1 : ((i : Int) != (k : Int)) = true := bne_iff_ne.2 (by omega)
            clear hsa hsb hda hdb hk1 x0 x1 x2 x3
            have HCS : Hid (∀ W, Below wr.heap.size wr W -> (W.cell? ⟨w.heap.size, 0, none⟩ = some (.int .i64 (N : Int)) /\ W.cell? ⟨w.heap.size, 1, none⟩ = some (.slice (some ⟨gs, os, none⟩) N ca) /\ W.cell? ⟨w.heap.size, 2, none⟩ = some (.slice (some ⟨gd, od, none⟩) N cb) /\ w.heap.size < W.heap.size) /\ (W.cell? ⟨gz, 0, none⟩ = some (.int .i64 pn) /\ W.cell? ⟨gz, 1, none⟩ = some (.int .u64 (px : Int)) /\ W.cell? ⟨gz, 2, none⟩ = some (.int .u64 (pz : Int)) /\ W.cell? ⟨gz, 3, none⟩ = some (.int .i64 pph) /\ gz < W.heap.size) /\ Pc W gs (os + i * 4) ⟨m1, u1, v1, f1⟩ /\ Pc W gd (od + i * 4) ⟨m2, u2, v2, f2⟩ /\ gs < W.heap.size /\ gd < W.heap.size) := hide (fun W hW => ⟨(HI.out.tb.below hW).cells, (HI.out.pp.below hW).cells, (HPS.out W (bkp HI.out.bw hW)).1, (HPD.out W (bkp HI.out.bw hW)).1, (HPS.out W (bkp HI.out.bw hW)).2, (HPD.out W (bkp HI.out.bw hW)).2⟩)
            refine wp_region_quiet_C (C := fun W => Below wr.heap.size wr W) (by kernel_rfl) (by kernel_rfl) (bdrew (Below.refl _ _) 1) ?_
            refine unhideP ?_
            repeat
              refine wpQuiet_stepH (fun K hK => ?_)
              go_simp
              first
                | (refine hK _ ?_; clear hK K)
                | (apply Exists.intro
                   refine ⟨fun W hW => ?_, hK _ ?_⟩
                   first
                     | ((with_reducible refine Calls.mono (c1 _) ?_); rintro e x ⟨rfl, hb⟩; exact ⟨rfl, bkp hW hb⟩)
                     | (obtain ⟨⟨p0, p1, p2, p3⟩, ⟨a0, a1, a2, a3, a4⟩, ⟨b0, b1, b2, b3⟩, ⟨d0, d1, d2, d3⟩, e1, e2⟩ := HCS.out W hW; go_simp; rfl)
                   clear hK K)
            refine wpQuiet_nilH ?_
            intro WS hWS
            have HIS := hide (HI.out.keep hWS)
            clear hWS HI HCS
            go_wp2_with fail
            have HC : Hid (∀ W, Below WS.heap.size WS W -> (W.cell? ⟨w.heap.size, 0, none⟩ = some (.int .i64 (N : Int)) /\ W.cell? ⟨w.heap.size, 1, none⟩ = some (.slice (some ⟨gs, os, none⟩) N ca) /\ W.cell? ⟨w.heap.size, 2, none⟩ = some (.slice (some ⟨gd, od, none⟩) N cb) /\ w.heap.size < W.heap.size) /\ (W.cell? ⟨gc, 0, none⟩ = some (.int .i64 (N : Int)) /\ W.cell? ⟨gc, 1, none⟩ = some (.slice (some ⟨g1, 0, none⟩) N ca') /\ W.cell? ⟨gc, 2, none⟩ = some (.slice (some ⟨g2, 0, none⟩) N cb') /\ gc < W.heap.size) /\ Pc W gs (os + i * 4) ⟨m1, u1, v1, f1⟩ /\ Pc W gs (os + k * 4) ⟨m3, u3, v3, f3⟩ /\ gs < W.heap.size /\ gs < W.heap.size /\ g1 < W.heap.size) := hide (fun W hW => ⟨(HIS.out.tb.below hW).cells, (HIS.out.cc.below hW).cells, (HPS.out W (bkp HIS.out.bw hW)).1, (HPK.out W (bkp HIS.out.bw hW)).1, (HPS.out W (bkp HIS.out.bw hW)).2, (HPK.out W (bkp HIS.out.bw hW)).2, (HIS.out.so.below hW).lt⟩)
            refine wp_region_quiet_last (C := fun W => Below WS.heap.size WS W) (by kernel_rfl) 15 rfl (by kernel_rfl) (by kernel_rfl) (bdrew (Below.refl _ _) 1) ?_
            simp only [List.take_succ_cons, List.take_zero]
            repeat
              refine wpQuiet_step (fun K hK => ?_)
              go_simp
              first
                | (refine hK _ ?_; clear hK K)
                | (apply Exists.intro
                   refine ⟨fun W hW => ?_, hK _ ?_⟩
                   first
                     | ((with_reducible refine Calls.mono (c3 _) ?_); rintro e x ⟨rfl, hb⟩; exact ⟨rfl, bkp hW hb⟩)
                     | (obtain ⟨⟨p0, p1, p2, p3⟩, ⟨a0, a1, a2, a3⟩, ⟨b0, b1, b2, b3⟩, ⟨d0, d1, d2, d3⟩, e1, e2, e3⟩ := HC.out W hW; go_simp; rfl)
                   clear hK K)
            refine wpQuiet_nil ?_
            intro W hW
            have HX : Hid (Pj w (set4 W g1 (i * 4) ⟨m4, u4, v4, f4⟩) N ⟨pn, px, pz, pph⟩ (some ⟨gs, os, none⟩) (some ⟨gd, od, none⟩) ca cb gc g1 g2 ca' cb' gz (US (i + 1)) (UD i)) := hide (by
              have := (HIS.out.keep hW).setS i ⟨m4, u4, v4, f4⟩
              rw [HUS.out] at this
              exact this)
            obtain ⟨old, hold⟩ := HGS.out i i h
            have hPc := (HIS.out.so.below hW).at hold
            obtain ⟨mo, uo, vo, fo⟩ := old
            obtain ⟨a0, a1, a2, a3⟩ := hPc
            have ff := (HIS.out.so.below hW).fz
            have kk := (HIS.out.so.below hW).lt
            simp only at a0 a1 a2 a3
            clear hW HC HIS hold
            unfold set4 at HX
            go_wp2_with fail
            generalize (((W.setCell ⟨g1, i * 4, none⟩ (.int .i64 m4)).setCell ⟨g1, i * 4 + 1, none⟩ (.int .u64 (u4 : Int))).setCell ⟨g1, i * 4 + 2, none⟩ (.int .u64 (v4 : Int))).setCell ⟨g1, i * 4 + 3, none⟩ (.int .i64 f4) = YS at *
            clear a0 a1 a2 a3 ff kk W
            have HXS := HX
            clear HX
            have HCD : Hid (∀ W, Below YS.heap.size YS W -> (W.cell? ⟨w.heap.size, 0, none⟩ = some (.int .i64 (N : Int)) /\ W.cell? ⟨w.heap.size, 1, none⟩ = some (.slice (some ⟨gs, os, none⟩) N ca) /\ W.cell? ⟨w.heap.size, 2, none⟩ = some (.slice (some ⟨gd, od, none⟩) N cb) /\ w.heap.size < W.heap.size) /\ (W.cell? ⟨gz, 0, none⟩ = some (.int .i64 pn) /\ W.cell? ⟨gz, 1, none⟩ = some (.int .u64 (px : Int)) /\ W.cell? ⟨gz, 2, none⟩ = some (.int .u64 (pz : Int)) /\ W.cell? ⟨gz, 3, none⟩ = some (.int .i64 pph) /\ gz < W.heap.size) /\ Pc W gs (os + i * 4) ⟨m1, u1, v1, f1⟩ /\ Pc W gd (od + i * 4) ⟨m2, u2, v2, f2⟩ /\ gs < W.heap.size /\ gd < W.heap.size) := hide (fun W hW => ⟨(HXS.out.tb.below hW).cells, (HXS.out.pp.below hW).cells, (HPS.out W (bkp HXS.out.bw hW)).1, (HPD.out W (bkp HXS.out.bw hW)).1, (HPS.out W (bkp HXS.out.bw hW)).2, (HPD.out W (bkp HXS.out.bw hW)).2⟩)
            refine wp_region_quiet_C (C := fun W => Below YS.heap.size YS W) (by kernel_rfl) (by kernel_rfl) (bdrew (Below.refl _ _) 1) ?_
            refine unhideP ?_
            repeat
              refine wpQuiet_stepH (fun K hK => ?_)
              go_simp
              first
                | (refine hK _ ?_; clear hK K)
                | (apply Exists.intro
                   refine ⟨fun W hW => ?_, hK _ ?_⟩
                   first
                     | ((with_reducible refine Calls.mono (c2 _) ?_); rintro e x ⟨rfl, hb⟩; exact ⟨rfl, bkp hW hb⟩)
                     | (obtain ⟨⟨p0, p1, p2, p3⟩, ⟨a0, a1, a2, a3, a4⟩, ⟨b0, b1, b2, b3⟩, ⟨d0, d1, d2, d3⟩, e1, e2⟩ := HCD.out W hW; go_simp; rfl)
                   clear hK K)
            refine wpQuiet_nilH ?_
            intro WD hWD
            have HID := hide (HXS.out.keep hWD)
            clear hWD HXS HCD
            go_wp2_with fail
            have HXD : Hid (Pj w WD N ⟨pn, px, pz, pph⟩ (some ⟨gs, os, none⟩) (some ⟨gd, od, none⟩) ca cb gc g1 g2 ca' cb' gz (US (i + 1)) (UD (i + 1))) := hide (by rw [HUD.out]; exact HID.out)
            clear HID
            go_roundw
            case rel => exact ⟨i + 1, by go_num, by omega, HXD⟩
            case measure => simp [Go.RowKit.intOf]; omega
        | true =>
          cases bD with
          | false =>
            have HUS := hide (hsb (.inr rfl))
            have HUD := hide (hda hk1 rfl)
            have e1 : ((i : Int) != (k : Int)) = true := bne_iff_ne.2 (by omega)
            clear hsa hsb hda hdb hk1 x0 x1 x2 x3
            have HCS : Hid (∀ W, Below wr.heap.size wr W -> (W.cell? ⟨w.heap.size, 0, none⟩ = some (.int .i64 (N : Int)) /\ W.cell? ⟨w.heap.size, 1, none⟩ = some (.slice (some ⟨gs, os, none⟩) N ca) /\ W.cell? ⟨w.heap.size, 2, none⟩ = some (.slice (some ⟨gd, od, none⟩) N cb) /\ w.heap.size < W.heap.size) /\ (W.cell? ⟨gz, 0, none⟩ = some (.int .i64 pn) /\ W.cell? ⟨gz, 1, none⟩ = some (.int .u64 (px : Int)) /\ W.cell? ⟨gz, 2, none⟩ = some (.int .u64 (pz : Int)) /\ W.cell? ⟨gz, 3, none⟩ = some (.int .i64 pph) /\ gz < W.heap.size) /\ Pc W gs (os + i * 4) ⟨m1, u1, v1, f1⟩ /\ Pc W gd (od + i * 4) ⟨m2, u2, v2, f2⟩ /\ gs < W.heap.size /\ gd < W.heap.size) := hide (fun W hW => ⟨(HI.out.tb.below hW).cells, (HI.out.pp.below hW).cells, (HPS.out W (bkp HI.out.bw hW)).1, (HPD.out W (bkp HI.out.bw hW)).1, (HPS.out W (bkp HI.out.bw hW)).2, (HPD.out W (bkp HI.out.bw hW)).2⟩)
            refine wp_region_quiet_C (C := fun W => Below wr.heap.size wr W) (by kernel_rfl) (by kernel_rfl) (bdrew (Below.refl _ _) 1) ?_
            refine unhideP ?_
            repeat
              refine wpQuiet_stepH (fun K hK => ?_)
              go_simp
              first
                | (refine hK _ ?_; clear hK K)
                | (apply Exists.intro
                   refine ⟨fun W hW => ?_, hK _ ?_⟩
                   first
                     | ((with_reducible refine Calls.mono (c1 _) ?_); rintro e x ⟨rfl, hb⟩; exact ⟨rfl, bkp hW hb⟩)
                     | (obtain ⟨⟨p0, p1, p2, p3⟩, ⟨a0, a1, a2, a3, a4⟩, ⟨b0, b1, b2, b3⟩, ⟨d0, d1, d2, d3⟩, e1, e2⟩ := HCS.out W hW; go_simp; rfl)
                   clear hK K)
            refine wpQuiet_nilH ?_
            intro WS hWS
            have HIS := hide (HI.out.keep hWS)
            clear hWS HI HCS
            go_wp2_with fail
            have HXS : Hid (Pj w WS N ⟨pn, px, pz, pph⟩ (some ⟨gs, os, none⟩) (some ⟨gd, od, none⟩) ca cb gc g1 g2 ca' cb' gz (US (i + 1)) (UD i)) := hide (by rw [HUS.out]; exact HIS.out)
            clear HIS
            have HCD : Hid (∀ W, Below WS.heap.size WS W -> (W.cell? ⟨w.heap.size, 0, none⟩ = some (.int .i64 (N : Int)) /\ W.cell? ⟨w.heap.size, 1, none⟩ = some (.slice (some ⟨gs, os, none⟩) N ca) /\ W.cell? ⟨w.heap.size, 2, none⟩ = some (.slice (some ⟨gd, od, none⟩) N cb) /\ w.heap.size < W.heap.size) /\ (W.cell? ⟨gz, 0, none⟩ = some (.int .i64 pn) /\ W.cell? ⟨gz, 1, none⟩ = some (.int .u64 (px : Int)) /\ W.cell? ⟨gz, 2, none⟩ = some (.int .u64 (pz : Int)) /\ W.cell? ⟨gz, 3, none⟩ = some (.int .i64 pph) /\ gz < W.heap.size) /\ Pc W gs (os + i * 4) ⟨m1, u1, v1, f1⟩ /\ Pc W gd (od + i * 4) ⟨m2, u2, v2, f2⟩ /\ gs < W.heap.size /\ gd < W.heap.size) := hide (fun W hW => ⟨(HXS.out.tb.below hW).cells, (HXS.out.pp.below hW).cells, (HPS.out W (bkp HXS.out.bw hW)).1, (HPD.out W (bkp HXS.out.bw hW)).1, (HPS.out W (bkp HXS.out.bw hW)).2, (HPD.out W (bkp HXS.out.bw hW)).2⟩)
            refine wp_region_quiet_C (C := fun W => Below WS.heap.size WS W) (by kernel_rfl) (by kernel_rfl) (bdrew (Below.refl _ _) 1) ?_
            refine unhideP ?_
            repeat
              refine wpQuiet_stepH (fun K hK => ?_)
              go_simp
              first
                | (refine hK _ ?_; clear hK K)
                | (apply Exists.intro
                   refine ⟨fun W hW => ?_, hK _ ?_⟩
                   first
                     | ((with_reducible refine Calls.mono (c2 _) ?_); rintro e x ⟨rfl, hb⟩; exact ⟨rfl, bkp hW hb⟩)
                     | (obtain ⟨⟨p0, p1, p2, p3⟩, ⟨a0, a1, a2, a3, a4⟩, ⟨b0, b1, b2, b3⟩, ⟨d0, d1, d2, d3⟩, e1, e2⟩ := HCD.out W hW; go_simp; rfl)
                   clear hK K)
            refine wpQuiet_nilH ?_
            intro WD hWD
            have HID := hide (HXS.out.keep hWD)
            clear hWD HXS HCD
            go_wp2_with fail
            have HC : Hid (∀ W, Below WD.heap.size WD W -> (W.cell? ⟨w.heap.size, 0, none⟩ = some (.int .i64 (N : Int)) /\ W.cell? ⟨w.heap.size, 1, none⟩ = some (.slice (some ⟨gs, os, none⟩) N ca) /\ W.cell? ⟨w.heap.size, 2, none⟩ = some (.slice (some ⟨gd, od, none⟩) N cb) /\ w.heap.size < W.heap.size) /\ (W.cell? ⟨gc, 0, none⟩ = some (.int .i64 (N : Int)) /\ W.cell? ⟨gc, 1, none⟩ = some (.slice (some ⟨g1, 0, none⟩) N ca') /\ W.cell? ⟨gc, 2, none⟩ = some (.slice (some ⟨g2, 0, none⟩) N cb') /\ gc < W.heap.size) /\ Pc W gd (od + i * 4) ⟨m2, u2, v2, f2⟩ /\ Pc W gs (os + k * 4) ⟨m3, u3, v3, f3⟩ /\ gd < W.heap.size /\ gs < W.heap.size /\ g2 < W.heap.size) := hide (fun W hW => ⟨(HID.out.tb.below hW).cells, (HID.out.cc.below hW).cells, (HPD.out W (bkp HID.out.bw hW)).1, (HPK.out W (bkp HID.out.bw hW)).1, (HPD.out W (bkp HID.out.bw hW)).2, (HPK.out W (bkp HID.out.bw hW)).2, (HID.out.dd.below hW).lt⟩)
            refine wp_region_quiet_last (C := fun W => Below WD.heap.size WD W) (by kernel_rfl) 15 rfl (by kernel_rfl) (by kernel_rfl) (bdrew (Below.refl _ _) 1) ?_
            simp only [List.take_succ_cons, List.take_zero]
            repeat
              refine wpQuiet_step (fun K hK => ?_)
              go_simp
              first
                | (refine hK _ ?_; clear hK K)
                | (apply Exists.intro
                   refine ⟨fun W hW => ?_, hK _ ?_⟩
                   first
                     | ((with_reducible refine Calls.mono (c4 _) ?_); rintro e x ⟨rfl, hb⟩; exact ⟨rfl, bkp hW hb⟩)
                     | (obtain ⟨⟨p0, p1, p2, p3⟩, ⟨a0, a1, a2, a3⟩, ⟨b0, b1, b2, b3⟩, ⟨d0, d1, d2, d3⟩, e1, e2, e3⟩ := HC.out W hW; go_simp; rfl)
                   clear hK K)
            refine wpQuiet_nil ?_
            intro W hW
            have HX : Hid (Pj w (set4 W g2 (i * 4) ⟨m5, u5, v5, f5⟩) N ⟨pn, px, pz, pph⟩ (some ⟨gs, os, none⟩) (some ⟨gd, od, none⟩) ca cb gc g1 g2 ca' cb' gz (US (i + 1)) (UD (i + 1))) := hide (by
              have := (HID.out.keep hW).setD i ⟨m5, u5, v5, f5⟩
              rw [HUD.out] at this
              exact this)
            obtain ⟨old, hold⟩ := HGD.out i i h
            have hPc := (HID.out.dd.below hW).at hold
            obtain ⟨mo, uo, vo, fo⟩ := old
            obtain ⟨a0, a1, a2, a3⟩ := hPc
            have ff := (HID.out.dd.below hW).fz
            have kk := (HID.out.dd.below hW).lt
            simp only at a0 a1 a2 a3
            clear hW HC HID hold
            unfold set4 at HX
            go_wp2_with fail
            generalize (((W.setCell ⟨g2, i * 4, none⟩ (.int .i64 m5)).setCell ⟨g2, i * 4 + 1, none⟩ (.int .u64 (u5 : Int))).setCell ⟨g2, i * 4 + 2, none⟩ (.int .u64 (v5 : Int))).setCell ⟨g2, i * 4 + 3, none⟩ (.int .i64 f5) = YD at *
            clear a0 a1 a2 a3 ff kk W
            go_roundw
            case rel => exact ⟨i + 1, by go_num, by omega, HX⟩
            case measure => simp [Go.RowKit.intOf]; omega
          | true =>
            have HUS := hide (hsb (.inr rfl))
            have HUD := hide (hdb (.inr rfl))
            have e1 : ((i : Int) != (k : Int)) = true := bne_iff_ne.2 (by omega)
            clear hsa hsb hda hdb hk1 x0 x1 x2 x3
            have HCS : Hid (∀ W, Below wr.heap.size wr W -> (W.cell? ⟨w.heap.size, 0, none⟩ = some (.int .i64 (N : Int)) /\ W.cell? ⟨w.heap.size, 1, none⟩ = some (.slice (some ⟨gs, os, none⟩) N ca) /\ W.cell? ⟨w.heap.size, 2, none⟩ = some (.slice (some ⟨gd, od, none⟩) N cb) /\ w.heap.size < W.heap.size) /\ (W.cell? ⟨gz, 0, none⟩ = some (.int .i64 pn) /\ W.cell? ⟨gz, 1, none⟩ = some (.int .u64 (px : Int)) /\ W.cell? ⟨gz, 2, none⟩ = some (.int .u64 (pz : Int)) /\ W.cell? ⟨gz, 3, none⟩ = some (.int .i64 pph) /\ gz < W.heap.size) /\ Pc W gs (os + i * 4) ⟨m1, u1, v1, f1⟩ /\ Pc W gd (od + i * 4) ⟨m2, u2, v2, f2⟩ /\ gs < W.heap.size /\ gd < W.heap.size) := hide (fun W hW => ⟨(HI.out.tb.below hW).cells, (HI.out.pp.below hW).cells, (HPS.out W (bkp HI.out.bw hW)).1, (HPD.out W (bkp HI.out.bw hW)).1, (HPS.out W (bkp HI.out.bw hW)).2, (HPD.out W (bkp HI.out.bw hW)).2⟩)
            refine wp_region_quiet_C (C := fun W => Below wr.heap.size wr W) (by kernel_rfl) (by kernel_rfl) (bdrew (Below.refl _ _) 1) ?_
            refine unhideP ?_
            repeat
              refine wpQuiet_stepH (fun K hK => ?_)
              go_simp
              first
                | (refine hK _ ?_; clear hK K)
                | (apply Exists.intro
                   refine ⟨fun W hW => ?_, hK _ ?_⟩
                   first
                     | ((with_reducible refine Calls.mono (c1 _) ?_); rintro e x ⟨rfl, hb⟩; exact ⟨rfl, bkp hW hb⟩)
                     | (obtain ⟨⟨p0, p1, p2, p3⟩, ⟨a0, a1, a2, a3, a4⟩, ⟨b0, b1, b2, b3⟩, ⟨d0, d1, d2, d3⟩, e1, e2⟩ := HCS.out W hW; go_simp; rfl)
                   clear hK K)
            refine wpQuiet_nilH ?_
            intro WS hWS
            have HIS := hide (HI.out.keep hWS)
            clear hWS HI HCS
            go_wp2_with fail
            have HXS : Hid (Pj w WS N ⟨pn, px, pz, pph⟩ (some ⟨gs, os, none⟩) (some ⟨gd, od, none⟩) ca cb gc g1 g2 ca' cb' gz (US (i + 1)) (UD i)) := hide (by rw [HUS.out]; exact HIS.out)
            clear HIS
            have HCD : Hid (∀ W, Below WS.heap.size WS W -> (W.cell? ⟨w.heap.size, 0, none⟩ = some (.int .i64 (N : Int)) /\ W.cell? ⟨w.heap.size, 1, none⟩ = some (.slice (some ⟨gs, os, none⟩) N ca) /\ W.cell? ⟨w.heap.size, 2, none⟩ = some (.slice (some ⟨gd, od, none⟩) N cb) /\ w.heap.size < W.heap.size) /\ (W.cell? ⟨gz, 0, none⟩ = some (.int .i64 pn) /\ W.cell? ⟨gz, 1, none⟩ = some (.int .u64 (px : Int)) /\ W.cell? ⟨gz, 2, none⟩ = some (.int .u64 (pz : Int)) /\ W.cell? ⟨gz, 3, none⟩ = some (.int .i64 pph) /\ gz < W.heap.size) /\ Pc W gs (os + i * 4) ⟨m1, u1, v1, f1⟩ /\ Pc W gd (od + i * 4) ⟨m2, u2, v2, f2⟩ /\ gs < W.heap.size /\ gd < W.heap.size) := hide (fun W hW => ⟨(HXS.out.tb.below hW).cells, (HXS.out.pp.below hW).cells, (HPS.out W (bkp HXS.out.bw hW)).1, (HPD.out W (bkp HXS.out.bw hW)).1, (HPS.out W (bkp HXS.out.bw hW)).2, (HPD.out W (bkp HXS.out.bw hW)).2⟩)
            refine wp_region_quiet_C (C := fun W => Below WS.heap.size WS W) (by kernel_rfl) (by kernel_rfl) (bdrew (Below.refl _ _) 1) ?_
            refine unhideP ?_
            repeat
              refine wpQuiet_stepH (fun K hK => ?_)
              go_simp
              first
                | (refine hK _ ?_; clear hK K)
                | (apply Exists.intro
                   refine ⟨fun W hW => ?_, hK _ ?_⟩
                   first
                     | ((with_reducible refine Calls.mono (c2 _) ?_); rintro e x ⟨rfl, hb⟩; exact ⟨rfl, bkp hW hb⟩)
                     | (obtain ⟨⟨p0, p1, p2, p3⟩, ⟨a0, a1, a2, a3, a4⟩, ⟨b0, b1, b2, b3⟩, ⟨d0, d1, d2, d3⟩, e1, e2⟩ := HCD.out W hW; go_simp; rfl)
                   clear hK K)
            refine wpQuiet_nilH ?_
            intro WD hWD
            have HID := hide (HXS.out.keep hWD)
            clear hWD HXS HCD
            go_wp2_with fail
            have HXD : Hid (Pj w WD N ⟨pn, px, pz, pph⟩ (some ⟨gs, os, none⟩) (some ⟨gd, od, none⟩) ca cb gc g1 g2 ca' cb' gz (US (i + 1)) (UD (i + 1))) := hide (by rw [HUD.out]; exact HID.out)
            clear HID
            go_roundw
            case rel => exact ⟨i + 1, by go_num, by omega, HXD⟩
            case measure => simp [Go.RowKit.intOf]; omega
    . obtain rfl : N = i := by omega
      have HPK := hide (fun V hb => HRS.out V hb k hk)
      have hd : decide ((N : Int) < (N : Int)) = false := decide_eq_false (by omega)
      have hLZ : (⟨pn, px, pz, 2 * v⟩ : P) = LZ := HPV.out _ rfl
      rw [← hLZ] at HEND
      clear HSa HSb HDa HDb HCS HCD HMS HMD HRS HRD HPV hLZ
      generalize t.s.getD k oP = sk at *
      obtain ⟨m3, u3, v3, f3⟩ := sk
      obtain ⟨o1, ho1⟩ := HGS.out N k hk
      obtain ⟨o2, ho2⟩ := HGD.out N k hk
      have HO1 := hide ho1
      have HO2 := hide ho2
      clear ho1 ho2 HGS HGD
      go_wp2_with fail
      have HC : Hid (∀ W, Below wr.heap.size wr W -> (W.cell? ⟨w.heap.size, 0, none⟩ = some (.int .i64 (N : Int)) /\ W.cell? ⟨w.heap.size, 1, none⟩ = some (.slice (some ⟨gs, os, none⟩) N ca) /\ W.cell? ⟨w.heap.size, 2, none⟩ = some (.slice (some ⟨gd, od, none⟩) N cb) /\ w.heap.size < W.heap.size) /\ (W.cell? ⟨gc, 0, none⟩ = some (.int .i64 (N : Int)) /\ W.cell? ⟨gc, 1, none⟩ = some (.slice (some ⟨g1, 0, none⟩) N ca') /\ W.cell? ⟨gc, 2, none⟩ = some (.slice (some ⟨g2, 0, none⟩) N cb') /\ gc < W.heap.size) /\ Pc W gs (os + k * 4) ⟨m3, u3, v3, f3⟩ /\ gs < W.heap.size /\ g2 < W.heap.size) := hide (fun W hW => ⟨(HI.out.tb.below hW).cells, (HI.out.cc.below hW).cells, (HPK.out W (bkp HI.out.bw hW)).1, (HPK.out W (bkp HI.out.bw hW)).2, (HI.out.dd.below hW).lt⟩)
      refine wp_region_quiet_last (C := fun W => Below wr.heap.size wr W) (by kernel_rfl) 9 rfl (by kernel_rfl) (by kernel_rfl) (bdrew (Below.refl _ _) 1) ?_
      simp only [List.take_succ_cons, List.take_zero]
      clear x0 x1 x2 x3
      repeat
        refine wpQuiet_step (fun K hK => ?_)
        go_simp
        first
          | (refine hK _ ?_; clear hK K)
          | (apply Exists.intro
             refine ⟨fun W hW => ?_, hK _ ?_⟩
             first
               | (obtain ⟨⟨p0, p1, p2, p3⟩, ⟨a0, a1, a2, a3⟩, ⟨d0, d1, d2, d3⟩, e1, e2⟩ := HC.out W hW; go_simp; rfl)
             clear hK K)
      refine wpQuiet_nil ?_
      intro W hW
      have HX : Hid (Pj w (set4 W g2 (k * 4) ⟨m3, u3, v3, f3⟩) N ⟨pn, px, pz, pph⟩ (some ⟨gs, os, none⟩) (some ⟨gd, od, none⟩) ca cb gc g1 g2 ca' cb' gz (US N) ((UD N).set k ⟨m3, u3, v3, f3⟩)) := hide ((HI.out.keep hW).setD k ⟨m3, u3, v3, f3⟩)
      obtain ⟨mo, uo, vo, fo⟩ := o2
      obtain ⟨a0, a1, a2, a3⟩ := (HI.out.dd.below hW).at HO2.out
      have ff := (HI.out.dd.below hW).fz
      have kk := (HI.out.dd.below hW).lt
      simp only at a0 a1 a2 a3
      clear hW HC HI HO2
      unfold set4 at HX
      go_upto_region 19 with fail
      generalize (((W.setCell ⟨g2, k * 4, none⟩ (.int .i64 m3)).setCell ⟨g2, k * 4 + 1, none⟩ (.int .u64 (u3 : Int))).setCell ⟨g2, k * 4 + 2, none⟩ (.int .u64 (v3 : Int))).setCell ⟨g2, k * 4 + 3, none⟩ (.int .i64 f3) = W8 at *
      clear a0 a1 a2 a3 ff kk
      obtain ⟨y0, y1, y2, y3, y4⟩ := HX.out.pp.cells
      have yf : ∀ j, W8.frozen? ⟨gz, j, none⟩ = false := fun j => by have := HX.out.pp; unfold At4 at this; simp [World.frozen?, this]
      have HXZ : Hid (Pj w (W8.setCell ⟨gz, 3, none⟩ (.int .i64 (2 * v))) N ⟨pn, px, pz, 2 * v⟩ (some ⟨gs, os, none⟩) (some ⟨gd, od, none⟩) ca cb gc g1 g2 ca' cb' gz (US N) ((UD N).set k ⟨m3, u3, v3, f3⟩)) := hide (HX.out.setZ (2 * v))
      clear HX
      go_upto_region 20 with fail
      generalize W8.setCell ⟨gz, 3, none⟩ (.int .i64 (2 * v)) = W8b at *
      clear y0 y1 y2 y3 y4 yf
      obtain ⟨b0, b1, b2, b3⟩ := HXZ.out.cc.cells
      obtain ⟨y0, y1, y2, y3, y4⟩ := HXZ.out.pp.cells
      have HX9 : Hid (Pj w (set4 W8b g1 (k * 4) ⟨pn, px, pz, 2 * v⟩) N ⟨pn, px, pz, 2 * v⟩ (some ⟨gs, os, none⟩) (some ⟨gd, od, none⟩) ca cb gc g1 g2 ca' cb' gz ((US N).set k ⟨pn, px, pz, 2 * v⟩) ((UD N).set k ⟨m3, u3, v3, f3⟩)) := hide (HXZ.out.setS k ⟨pn, px, pz, 2 * v⟩)
      unfold set4 at HX9
      obtain ⟨mo1, uo1, vo1, fo1⟩ := o1
      obtain ⟨t0, t1, t2, t3⟩ := HXZ.out.so.at HO1.out
      have tf := HXZ.out.so.fz
      have tk := HXZ.out.so.lt
      simp only at t0 t1 t2 t3 y0 y1 y2 y3
      clear HXZ HO1 HPK
      go_upto_region 21 with fail
      generalize (((W8b.setCell ⟨g1, k * 4, none⟩ (.int .i64 pn)).setCell ⟨g1, k * 4 + 1, none⟩ (.int .u64 (px : Int))).setCell ⟨g1, k * 4 + 2, none⟩ (.int .u64 (pz : Int))).setCell ⟨g1, k * 4 + 3, none⟩ (.int .i64 (2 * v)) = W9 at *
      clear b0 b1 b2 b3 y0 y1 y2 y3 y4 t0 t1 t2 t3 tf tk
      obtain ⟨r0, r1, r2, r3⟩ := HX9.out.cc.cells
      have hR := HX9.out.rs
      have hKK := HEND.out _ _ _ _ _ HX9.out.so HX9.out.dd HLL.out.1 HLL.out.2
      have HF : Hid (Th (W9.setRow (w.heap.size + 1) #[.int .i64 (N : Int), .slice (some ⟨g1, 0, none⟩) N ca', .slice (some ⟨g2, 0, none⟩) N cb']) R (some ⟨g1, 0, none⟩) (some ⟨g2, 0, none⟩) ca' cb' /\ Below w.heap.size w (W9.setRow (w.heap.size + 1) #[.int .i64 (N : Int), .slice (some ⟨g1, 0, none⟩) N ca', .slice (some ⟨g2, 0, none⟩) N cb'])) := hide ⟨hKK.row hR _, below_setRow HX9.out.bw (by omega) _⟩
      unfold At3 at hR
      clear hKK HEND HLL HX9
      go_wp2_with (first
        | (refine wpList_store_row rfl _ _ _ rfl (w.heap.size + 1) _ rfl rfl _ _ hR (by exact infoT) (by rfl) (all3 _ _ _ _ _ _ _) ?_))
      refine bodyPost_ret (Pau.results_ct rfl _ _ (w.heap.size + 1) _ _ _ _ rfl (setRow_heap _ _ _ _ _ _ hR) Tryz.underlying29 rfl (by exact infoT)) rfl ?_
      exact ⟨some ⟨g1, 0, none⟩, some ⟨g2, 0, none⟩, ca', cb', rfl, HF.out.1, HF.out.2⟩
end Go.Proofs.YtpehekonjdneaaaGreatDoor.Tbl
