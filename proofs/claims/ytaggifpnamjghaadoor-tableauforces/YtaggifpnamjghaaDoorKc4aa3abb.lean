import Derived.Test.YtaggifpnamjghaaDoorK24f7ed78
import Derived.Test.YtaggifpnamjghaaDoorKb8b198a0
import Derived.Test.YtaggifpnamjghaaDoorKc54ee8a9
set_option maxRecDepth 100000
set_option maxHeartbeats 2000000
namespace Go.Proofs.YtaggifpnamjghaaDoor.Tbl
open Go.RowKit Go.Shelf Go.Proofs.YtaggifpnamjghaaDoor.Pau Go.Proofs.YtaggifpnamjghaaDoor.Gt
structure Fo (w V : World) (N : Nat) (p : P) (a b : Option Addr) (ca cb gc g1 g2 c1 c2 : Nat) (u v : List P) : Prop where
  tb : At3 V w.heap.size (.int .i64 (N : Int)) (.slice a N ca) (.slice b N cb)
  pp : At4 V (w.heap.size + 1) (.int .i64 p.n) (.int .u64 (p.x : Int)) (.int .u64 (p.z : Int)) (.int .i64 p.ph)
  rs : At3 V (w.heap.size + 1 + 1) (.int .i64 0) (.slice none 0 0) (.slice none 0 0)
  cc : At3 V gc (.int .i64 (N : Int)) (.slice (some ⟨g1, 0, none⟩) N c1) (.slice (some ⟨g2, 0, none⟩) N c2)
  so : PO V g1 u
  dd : PO V g2 v
  bw : Below w.heap.size w V
  n1 : w.heap.size + 1 + 1 < g1
  n2 : w.heap.size + 1 + 1 < g2
  n3 : w.heap.size + 1 + 1 < gc
  e12 : g1 ≠ g2
  e13 : gc ≠ g1
  e23 : gc ≠ g2
namespace Fo
variable {w V : World} {N : Nat} {p : P} {a b : Option Addr} {ca cb gc g1 g2 c1 c2 : Nat} {u v : List P}
theorem keep {V' : World} (h : Fo w V N p a b ca cb gc g1 g2 c1 c2 u v) (hb : Below V.heap.size V V') : Fo w V' N p a b ca cb gc g1 g2 c1 c2 u v :=
  ⟨h.tb.below hb, h.pp.below hb, h.rs.below hb, h.cc.below hb, h.so.below hb, h.dd.below hb, bkp h.bw hb, h.n1, h.n2, h.n3, h.e12, h.e13, h.e23⟩
theorem setS (h : Fo w V N p a b ca cb gc g1 g2 c1 c2 u v) (i : Nat) (q : P) : Fo w (set4 V g1 (i * 4) q) N p a b ca cb gc g1 g2 c1 c2 (u.set i q) v :=
  ⟨h.tb.off (by have := h.n1; omega), At4.off4 h.pp (by have := h.n1; omega), h.rs.off (by have := h.n1; omega), h.cc.off h.e13, h.so.set q, h.dd.off h.e12.symm, below_set4 h.bw (by have := h.n1; omega), h.n1, h.n2, h.n3, h.e12, h.e13, h.e23⟩
theorem setD (h : Fo w V N p a b ca cb gc g1 g2 c1 c2 u v) (i : Nat) (q : P) : Fo w (set4 V g2 (i * 4) q) N p a b ca cb gc g1 g2 c1 c2 u (v.set i q) :=
  ⟨h.tb.off (by have := h.n2; omega), At4.off4 h.pp (by have := h.n2; omega), h.rs.off (by have := h.n2; omega), h.cc.off h.e23, h.so.off h.e12, h.dd.set q, below_set4 h.bw (by have := h.n2; omega), h.n1, h.n2, h.n3, h.e12, h.e13, h.e23⟩
end Fo
theorem fp_z {t : TT} {p : P} {m c r : Int} (hm : mbI t p = m) (hc : csI t p = c) (h : (m = 0 /\ c = 2 /\ r = 2) ∨ (m = 0 /\ c = 140 /\ r = 140) ∨ (m = -1 /\ c = 0 /\ r = 142)) : fpR t p = (zrT, 0, r) := by
  unfold fpR
  rcases h with ⟨-, h2, h3⟩ | ⟨-, h2, h3⟩ | ⟨h1, h2, h3⟩
  . rw [hc, h2, if_neg (by decide), h3]
  . rw [hc, h2, if_neg (by decide), h3]
  . rw [hc, h2, if_pos rfl, h3, fr_neg]
    unfold mbI at hm
    rw [hc, h2, if_pos rfl] at hm
    omega
theorem dForce_z (t : TT) (a b : Option Addr) (ca cb : Nat) (p : P) (hp : Wd p) (m c r : Int) (hm : mbI t p = m) (hc : csI t p = c) (hr : (m = 0 /\ c = 2 /\ r = 2) ∨ (m = 0 /\ c = 140 /\ r = 140) ∨ (m = -1 /\ c = 0 /\ r = 142)) (w : World) (h : Th w t a b ca cb) :
    Calls Tryd.prog 12 #[tV t a b ca cb, pV p] w fun e w' => ∃ a' b' ca' cb', e = .returned (.tuple #[tV (fpR t p).1 a' b' ca' cb', .int .i64 (fpR t p).2.1, .int .i64 (fpR t p).2.2]) /\ Th w' (fpR t p).1 a' b' ca' cb' /\ Below w.heap.size w w' := by
  rw [fp_z hm hc hr]
  have HC1 := hide (fun W (hb : Below w.heap.size w W) => dMember t a b ca cb p hp W (h.below hb))
  rw [hm, hc] at HC1
  obtain ⟨hA, hP, hZ⟩ := three343 w (.int .i64 t.n) (.slice a t.s.length ca) (.slice b t.d.length cb) (.int .i64 p.n) (.int .u64 (p.x : Int)) (.int .u64 (p.z : Int)) (.int .i64 p.ph) (.int .i64 0) (.slice none 0 0) (.slice none 0 0)
  have HZ := hide hZ
  have HB0 := hide (bkp (bkp (bnew w (.cells #[.int .i64 t.n, .slice a t.s.length ca, .slice b t.d.length cb] 24)) (bnew _ (.cells #[.int .i64 p.n, .int .u64 (p.x : Int), .int .u64 (p.z : Int), .int .i64 p.ph] 32))) (bnew _ (.cells #[.int .i64 0, .slice none 0 0, .slice none 0 0] 24)))
  have HZT := hide th_zero
  clear hA hP hZ h hm hc hp
  unfold tV at HC1 ⊢
  unfold zrT at HZT ⊢
  obtain ⟨pn, px, pz, pph⟩ := p
  unfold pV at HC1 ⊢
  simp only [List.length_nil] at *
  generalize t.s.length = ns at *
  generalize t.d.length = nd at *
  generalize t.n = n at *
  rcases hr with ⟨rfl, rfl, rfl⟩ | ⟨rfl, rfl, rfl⟩ | ⟨rfl, rfl, rfl⟩
  all_goals (
    go_enter Tryd.func12, Tryd.ntmps12
    go_wp2_with fail
    refine (HC1.out _ HB0.out).mono ?_
    rintro e w1 ⟨rfl, hb1⟩
    have HB1 := hide (bkp HB0.out hb1)
    have hR := HZ.out.below hb1
    clear hb1 HZ HB0 HC1
    unfold At3 at hR
    go_wp2_with (first
      | (refine wpList_store_row rfl _ _ _ rfl (w.heap.size + 1 + 1) _ rfl rfl _ _ hR (by exact infoT) (by rfl) (all3 _ _ _ _ _ _ _) ?_))
    refine bodyPost_ret (results_ctt rfl _ _ (w.heap.size + 1 + 1) _ _ _ _ rfl (setRow_heap _ _ _ _ _ _ hR) Tryd.underlying24 rfl (by exact infoT)) rfl ?_
    exact ⟨none, none, 0, 0, rfl, HZT.out _, below_setRow HB1.out (by omega) _⟩)
theorem ch_len {t : TT} (hc : chB t = true) : t.s.length <= 64 /\ t.d.length <= 64 := by
  obtain ⟨h0, h64, hls, hld⟩ := sz_of (ch_size hc)
  exact ⟨by omega, by omega⟩
theorem dForce_one (t : TT) (a b : Option Addr) (ca cb : Nat) (p : P) (hp : Wd p) (hm : mbI t p = 1) (hcs : csI t p = 0) (w : World) (h : Th w t a b ca cb) :
    Calls Tryd.prog 12 #[tV t a b ca cb, pV p] w fun e w' => ∃ a' b' ca' cb', e = .returned (.tuple #[tV t a' b' ca' cb', .int .i64 0, .int .i64 0]) /\ Th w' t a' b' ca' cb' /\ Below w.heap.size w w' := by
  have HT := hide h
  obtain ⟨hc, hz, hsg⟩ := cs_ok hcs
  obtain ⟨hs64, hd64⟩ := ch_len hc
  have HC1 := hide (fun W (hb : Below w.heap.size w W) => dMember t a b ca cb p hp W (h.below hb))
  have HC2 := hide (fun W (hb : Below w.heap.size w W) => dCopy t a b ca cb (by omega) (by omega) W (h.below hb))
  rw [hm, hcs] at HC1
  obtain ⟨hA, hP, hZ⟩ := three343 w (.int .i64 t.n) (.slice a t.s.length ca) (.slice b t.d.length cb) (.int .i64 p.n) (.int .u64 (p.x : Int)) (.int .u64 (p.z : Int)) (.int .i64 p.ph) (.int .i64 0) (.slice none 0 0) (.slice none 0 0)
  have HA := hide hA
  have HP := hide hP
  have HZ := hide hZ
  have HB0 := hide (bkp (bkp (bnew w (.cells #[.int .i64 t.n, .slice a t.s.length ca, .slice b t.d.length cb] 24)) (bnew _ (.cells #[.int .i64 p.n, .int .u64 (p.x : Int), .int .u64 (p.z : Int), .int .i64 p.ph] 32))) (bnew _ (.cells #[.int .i64 0, .slice none 0 0, .slice none 0 0] 24)))
  clear hA hP hZ h
  have HTH : Hid (∀ W a' b' ca' cb', Tn W w.heap.size t a' b' ca' cb' -> Th W t a' b' ca' cb') := hide (fun W a' b' ca' cb' hT => hT.th HT.out.ws HT.out.wd HT.out.na HT.out.nb)
  have HTB : Hid (∀ W B a' b' ca' cb', Tn W B t a' b' ca' cb' -> Th W t a' b' ca' cb') := hide (fun W B a' b' ca' cb' hT => hT.th HT.out.ws HT.out.wd HT.out.na HT.out.nb)
  clear hm hcs hc hz hsg hp HT HTH
  unfold tV at HC1 HC2 ⊢
  obtain ⟨pn, px, pz, pph⟩ := p
  unfold pV at HC1 ⊢
  simp only at *
  generalize t.s.length = ns at *
  generalize t.d.length = nd at *
  generalize hn : t.n = n at *
  clear hn
  go_enter Tryd.func12, Tryd.ntmps12
  go_wp2_with fail
  refine (HC1.out _ HB0.out).mono ?_
  rintro e w1 ⟨rfl, hb1⟩
  have HB1 := hide (bkp HB0.out hb1)
  have HA1 := hide (HA.out.below hb1)
  have HP1 := hide (HP.out.below hb1)
  have HZ1 := hide (HZ.out.below hb1)
  have HL1 : Hid (w.heap.size + 1 + 1 < w1.heap.size) := hide HZ1.out.lt
  clear hb1 HA HP HZ HB0 HC1
  obtain ⟨x0, x1, x2, x3⟩ := HA1.out.cells
  go_wp2_with fail
  refine (HC2.out _ HB1.out).mono ?_
  rintro e w2 ⟨a', b', ca', cb', rfl, hTn, hb2⟩
  have HTn := hide hTn
  have HB2 := hide (bkp HB1.out hb2)
  have HA2 := hide (HA1.out.below hb2)
  have HP2 := hide (HP1.out.below hb2)
  have HZ2 := hide (HZ1.out.below hb2)
  have HL2 : Hid (w1.heap.size <= w2.heap.size) := hide hb2.size
  clear hb2 hTn HB1 HA1 HP1 HZ1 HC2 x0 x1 x2 x3
  obtain ⟨r0, r1, r2, r3⟩ := (At3.new w2 (.int .i64 n) (.slice a' ns ca') (.slice b' nd cb')).cells
  have hR := HZ2.out.below (bnew w2 (.cells #[.int .i64 n, .slice a' ns ca', .slice b' nd cb'] 24))
  have HX : Hid (Th ((w2.alloc (.cells #[.int .i64 n, .slice a' ns ca', .slice b' nd cb'] 24)).setRow (w.heap.size + 1 + 1) #[.int .i64 n, .slice a' ns ca', .slice b' nd cb']) t a' b' ca' cb' /\ Below w.heap.size w ((w2.alloc (.cells #[.int .i64 n, .slice a' ns ca', .slice b' nd cb'] 24)).setRow (w.heap.size + 1 + 1) #[.int .i64 n, .slice a' ns ca', .slice b' nd cb'])) := hide ⟨((HTB.out _ _ _ _ _ _ HTn.out).below (bnew w2 _)).row hR _, below_setRow (bkp HB2.out (bnew w2 _)) (by omega) _⟩
  clear HTB HTn HA2 HP2 HZ2 HB2
  unfold At3 at hR
  go_wp2_with (first
    | (refine wpList_store_row rfl _ _ _ rfl (w.heap.size + 1 + 1) _ rfl rfl _ _ hR (by exact infoT) (by rfl) (all3 _ _ _ _ _ _ _) ?_))
  refine bodyPost_ret (results_ctt rfl _ _ (w.heap.size + 1 + 1) _ _ _ _ rfl (setRow_heap _ _ _ _ _ _ hR) Tryd.underlying24 rfl (by exact infoT)) rfl ?_
  exact ⟨a', b', ca', cb', rfl, HX.out.1, HX.out.2⟩
end Go.Proofs.YtaggifpnamjghaaDoor.Tbl
