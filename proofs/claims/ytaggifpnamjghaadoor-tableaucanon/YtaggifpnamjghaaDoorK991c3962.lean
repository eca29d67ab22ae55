import Derived.Test.YtaggifpnamjghaaDoorKe11883b6
set_option maxRecDepth 100000
set_option maxHeartbeats 8000000
namespace Go.Proofs.YtaggifpnamjghaaDoor.Tbl
open Go.RowKit Go.Shelf Go.Proofs.YtaggifpnamjghaaDoor.Pau Go.Proofs.YtaggifpnamjghaaDoor.Gt
theorem Pc.ne {w : World} {g o k : Nat} {p : P} {i : Int} {a b : Option Addr} {m n c d : Nat} (h : Pc w g o p) (h3 : At3 w k (.int .i64 i) (.slice a m c) (.slice b n d)) : g ≠ k := by
  rintro rfl
  unfold At3 at h3
  have key : ∀ j v, w.cell? ⟨g, j, none⟩ = some v -> (#[Value.int .i64 i, .slice a m c, .slice b n d] : Array Value)[j]? = some v := by
    intro j v hv
    simpa [World.cell?, h3] using hv
  have h1 := key _ _ h.n
  have h2 := key _ _ h.x
  match o, h1, h2 with
  | 0, h1, h2 => simp at h2
  | 1, h1, h2 => simp at h1
  | 2, h1, h2 => simp at h1
  | o + 3, h1, h2 => simp at h1
theorem PIn.off3 {w w' : World} {k : Nat} {ao : Option Addr} {l : List P} {i : Int} {a b : Option Addr} {m n c d : Nat} (h : PIn w ao l) (h3 : At3 w k (.int .i64 i) (.slice a m c) (.slice b n d)) (hk : ∀ j, j ≠ k -> w'.heap[j]? = w.heap[j]?) : PIn w' ao l := by
  rcases h with h | ⟨g, off, e, h⟩
  . exact .inl h
  . refine .inr ⟨g, off, e, fun j p hp => ?_⟩
    have hq := h j p hp
    have key : ∀ x, w'.cell? ⟨g, x, none⟩ = w.cell? ⟨g, x, none⟩ := fun x => World.cell?_of_block (w := w) (a := ⟨g, x, none⟩) (hk g (hq.ne h3))
    exact ⟨(key _).trans hq.n, (key _).trans hq.x, (key _).trans hq.z, (key _).trans hq.ph⟩
theorem Th.off3 {w w' : World} {k : Nat} {t : TT} {x y : Option Addr} {cx cy : Nat} {i : Int} {a b : Option Addr} {m n c d : Nat} (h : Th w t x y cx cy) (h3 : At3 w k (.int .i64 i) (.slice a m c) (.slice b n d)) (hk : ∀ j, j ≠ k -> w'.heap[j]? = w.heap[j]?) : Th w' t x y cx cy := ⟨h.s.off3 h3 hk, h.d.off3 h3 hk, h.ws, h.wd, h.la, h.lb, h.na, h.nb⟩
theorem Th.row {w : World} {k : Nat} {t : TT} {x y : Option Addr} {cx cy : Nat} {i : Int} {a b : Option Addr} {m n c d : Nat} (h : Th w t x y cx cy) (h3 : At3 w k (.int .i64 i) (.slice a m c) (.slice b n d)) (cs : Array Value) : Th (w.setRow k cs) t x y cx cy := h.off3 h3 (fun _ hj => setRow_other _ _ _ _ hj)
def gtR (t : TT) (k : Int) (l : List Int) : TT × Int := if chB t = true then (if chkP k l t.n = 0 then (if clB (rw' k) = true then (thT t k l, 0) else (zrT, 141)) else (zrT, chkP k l t.n)) else (zrT, 140)
theorem tGate (t : TT) (a b : Option Addr) (ca cb : Nat) (k : Int) (l : List Int) (hl : l.length <= 1000000000000000) (ao : Option Addr) (c : Nat) (hc : l.length <= c) (w : World) (h : Th w t a b ca cb) (hT : Tg w) (hN : Ns w ao l) :
    Calls Tryd.prog 19 #[tV t a b ca cb, .int .i64 k, .slice ao l.length c] w fun e w' => ∃ a' b' ca' cb', e = .returned (.tuple #[tV (gtR t k l).1 a' b' ca' cb', .int .i64 (gtR t k l).2]) /\ Th w' (gtR t k l).1 a' b' ca' cb' /\ Below w.heap.size w w' := by
  have HC1 := hide (fun W (hb : Below w.heap.size w W) => tCheck t a b ca cb W (h.below hb))
  have HC2 := hide (fun W (hb : Below w.heap.size w W) => gCheck k ao c l t.n hl hc W (hT.below hb).tb (hN.below hb))
  have HC3 := hide (fun W (hb : Below w.heap.size w W) => gClifford k W (hT.below hb).tb)
  have HC4 := hide (fun W (hb : Below w.heap.size w W) (hz : szB t = true) => tThrough t a b ca cb hz k l hl ao c hc W (h.below hb) (hT.below hb) (hN.below hb))
  have HZT := hide th_zero
  have hsz : chB t = true -> szB t = true := ch_size
  obtain ⟨hA, hZ⟩ := two3 w (.int .i64 t.n) (.slice a t.s.length ca) (.slice b t.d.length cb) (.int .i64 0) (.slice none 0 0) (.slice none 0 0)
  have HA := hide hA
  have HZ := hide hZ
  have HB0 := hide (bkp (bnew w (.cells #[.int .i64 t.n, .slice a t.s.length ca, .slice b t.d.length cb] 24)) (bnew _ (.cells #[.int .i64 0, .slice none 0 0, .slice none 0 0] 24)))
  unfold gtR
  unfold chI at HC1
  unfold tV at HC1 HC4 ⊢
  have HR : Hid (thT t k l = thT t k l) := hide rfl
  generalize hth : thT t k l = R at *
  generalize chB t = r1 at *
  generalize chkP k l t.n = r2 at *
  generalize clB (rw' k) = r3 at *
  generalize t.s.length = ns at *
  generalize t.d.length = nd at *
  generalize t.n = n at *
  generalize l.length = m at *
  clear hA hZ h hT hN HR hth
  cases r1 with
  | false =>
    simp only [Bool.false_eq_true, if_false, zrT, List.length_nil] at HC1 HZT ⊢
    go_enter Tryd.func19, Tryd.ntmps19
    go_wp2_with fail
    refine (HC1.out _ HB0.out).mono ?_
    rintro e w1 ⟨rfl, hb1⟩
    have hR := HZ.out.below hb1
    have HB1 := hide (bkp HB0.out hb1)
    clear hb1
    unfold At3 at hR
    go_wp2_with (first
      | (refine wpList_store_row rfl _ _ _ rfl (w.heap.size + 1) _ rfl rfl _ _ hR (by exact infoT) (by rfl) (all3 _ _ _ _ _ _ _) ?_))
    refine bodyPost_ret (Pau.results_ct rfl _ _ (w.heap.size + 1) _ _ _ _ rfl (setRow_heap _ _ _ _ _ _ hR) Tryd.underlying24 rfl (by exact infoT)) rfl ?_
    exact ⟨none, none, 0, 0, rfl, HZT.out _, below_setRow HB1.out (by omega) _⟩
  | true =>
    have hz := hsz rfl
    simp only [if_true] at HC1 ⊢
    have HC5 := hide (fun W hb => HC4.out W hb hz)
    clear HC4 hsz
    by_cases h2 : r2 = 0
    . subst h2
      simp only [if_true] at HC2 ⊢
      cases r3 with
      | false =>
        simp only [Bool.false_eq_true, if_false, zrT, List.length_nil] at HC1 HZT ⊢
        go_enter Tryd.func19, Tryd.ntmps19
        go_wp2_with fail
        refine (HC1.out _ HB0.out).mono ?_
        rintro e w1 ⟨rfl, hb1⟩
        obtain ⟨x0, x1, x2, x3⟩ := (HA.out.below hb1).cells
        have HB1 := hide (bkp HB0.out hb1)
        have HZ1 := hide (HZ.out.below hb1)
        clear hb1 HZ HA HB0
        go_wp2_with fail
        refine (HC2.out _ HB1.out).mono ?_
        rintro e w2 ⟨rfl, hb2⟩
        have HB2 := hide (bkp HB1.out hb2)
        have HZ2 := hide (HZ1.out.below hb2)
        clear hb2 HZ1 HB1 x0 x1 x2 x3
        go_wp2_with fail
        refine (HC3.out _ HB2.out).mono ?_
        rintro e w3 ⟨rfl, hb3⟩
        have HB3 := hide (bkp HB2.out hb3)
        have hR := HZ2.out.below hb3
        clear hb3 HZ2 HB2
        unfold At3 at hR
        go_wp2_with (first
          | (refine wpList_store_row rfl _ _ _ rfl (w.heap.size + 1) _ rfl rfl _ _ hR (by exact infoT) (by rfl) (all3 _ _ _ _ _ _ _) ?_))
        refine bodyPost_ret (Pau.results_ct rfl _ _ (w.heap.size + 1) _ _ _ _ rfl (setRow_heap _ _ _ _ _ _ hR) Tryd.underlying24 rfl (by exact infoT)) rfl ?_
        exact ⟨none, none, 0, 0, rfl, HZT.out _, below_setRow HB3.out (by omega) _⟩
      | true =>
        simp only [if_true]
        go_enter Tryd.func19, Tryd.ntmps19
        go_wp2_with fail
        refine (HC1.out _ HB0.out).mono ?_
        rintro e w1 ⟨rfl, hb1⟩
        obtain ⟨x0, x1, x2, x3⟩ := (HA.out.below hb1).cells
        have HB1 := hide (bkp HB0.out hb1)
        have HA1 := hide (HA.out.below hb1)
        have HZ1 := hide (HZ.out.below hb1)
        clear hb1 HZ HA HB0
        go_wp2_with fail
        refine (HC2.out _ HB1.out).mono ?_
        rintro e w2 ⟨rfl, hb2⟩
        have HB2 := hide (bkp HB1.out hb2)
        have HA2 := hide (HA1.out.below hb2)
        have HZ2 := hide (HZ1.out.below hb2)
        clear hb2 HZ1 HB1 x0 x1 x2 x3 HA1
        go_wp2_with fail
        refine (HC3.out _ HB2.out).mono ?_
        rintro e w3 ⟨rfl, hb3⟩
        have HB3 := hide (bkp HB2.out hb3)
        have HZ3 := hide (HZ2.out.below hb3)
        obtain ⟨x0, x1, x2, x3⟩ := (HA2.out.below hb3).cells
        clear hb3 HZ2 HB2 HA2
        go_wp2_with fail
        refine (HC5.out _ HB3.out).mono ?_
        rintro e w4 ⟨a', b', ca', cb', rfl, hth, hb4⟩
        have hR := HZ3.out.below hb4
        have HX := hide (And.intro (hth.row hR #[.int .i64 R.n, .slice a' R.s.length ca', .slice b' R.d.length cb']) (bkp HB3.out hb4))
        clear hb4 HZ3 HB3 hth x0 x1 x2 x3
        unfold At3 at hR
        go_wp2_with (first
          | (refine wpList_store_row rfl _ _ _ rfl (w.heap.size + 1) _ rfl rfl _ _ hR (by exact infoT) (by rfl) (all3 _ _ _ _ _ _ _) ?_))
        refine bodyPost_ret (Pau.results_ct rfl _ _ (w.heap.size + 1) _ _ _ _ rfl (setRow_heap _ _ _ _ _ _ hR) Tryd.underlying24 rfl (by exact infoT)) rfl ?_
        exact ⟨a', b', ca', cb', rfl, HX.out.1, below_setRow HX.out.2 (by omega) _⟩
    . have d2 : (r2 != 0) = true := bne_iff_ne.2 h2
      simp only [h2, if_false, zrT, List.length_nil] at HZT ⊢
      go_enter Tryd.func19, Tryd.ntmps19
      go_wp2_with fail
      refine (HC1.out _ HB0.out).mono ?_
      rintro e w1 ⟨rfl, hb1⟩
      obtain ⟨x0, x1, x2, x3⟩ := (HA.out.below hb1).cells
      have HB1 := hide (bkp HB0.out hb1)
      have HZ1 := hide (HZ.out.below hb1)
      clear hb1 HZ HA HB0
      go_wp2_with fail
      refine (HC2.out _ HB1.out).mono ?_
      rintro e w2 ⟨rfl, hb2⟩
      have HB2 := hide (bkp HB1.out hb2)
      have hR := HZ1.out.below hb2
      clear hb2 HZ1 HB1 x0 x1 x2 x3
      unfold At3 at hR
      go_wp2_with (first
        | (refine wpList_store_row rfl _ _ _ rfl (w.heap.size + 1) _ rfl rfl _ _ hR (by exact infoT) (by rfl) (all3 _ _ _ _ _ _ _) ?_))
      refine bodyPost_ret (Pau.results_ct rfl _ _ (w.heap.size + 1) _ _ _ _ rfl (setRow_heap _ _ _ _ _ _ hR) Tryd.underlying24 rfl (by exact infoT)) rfl ?_
      exact ⟨none, none, 0, 0, rfl, HZT.out _, below_setRow HB2.out (by omega) _⟩
end Go.Proofs.YtaggifpnamjghaaDoor.Tbl
