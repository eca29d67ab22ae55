import Derived.Test.YtpehekonjdneaaaDoorKdc9fe01a
set_option maxRecDepth 100000
set_option maxHeartbeats 8000000
namespace Go.Proofs.YtpehekonjdneaaaDoor.Tbl
open Go.RowKit Go.Shelf Go.Proofs.YtpehekonjdneaaaDoor.Pau Go.Proofs.YtpehekonjdneaaaDoor.Gt
def prR (t : TT) (q v : Int) : TT × Int := if cqI t q = 0 then (if v = 0 ∨ v = 1 then ((frR t (lzP t.n q.toNat v)).1, (frR t (lzP t.n q.toNat v)).2.2) else (zrT, 2)) else (zrT, cqI t q)
theorem tProject_no (t : TT) (a b : Option Addr) (ca cb : Nat) (q v : Int) (hno : ¬ (cqI t q = 0 /\ (v = 0 ∨ v = 1))) (w : World) (h : Th w t a b ca cb) :
    Calls Tryd.prog 16 #[tV t a b ca cb, .int .i64 q, .int .i64 v] w fun e w' => ∃ a' b' ca' cb', e = .returned (.tuple #[tV (prR t q v).1 a' b' ca' cb', .int .i64 (prR t q v).2]) /\ Th w' (prR t q v).1 a' b' ca' cb' /\ Below w.heap.size w w' := by
  have HC1 := hide (fun W (hb : Below w.heap.size w W) => tCheckQ t a b ca cb q W (h.below hb))
  have HZT := hide th_zero
  obtain ⟨hA, hZ⟩ := two3 w (.int .i64 t.n) (.slice a t.s.length ca) (.slice b t.d.length cb) (.int .i64 0) (.slice none 0 0) (.slice none 0 0)
  have HZ := hide hZ
  have HB0 := hide (bkp (bnew w (.cells #[.int .i64 t.n, .slice a t.s.length ca, .slice b t.d.length cb] 24)) (bnew _ (.cells #[.int .i64 0, .slice none 0 0, .slice none 0 0] 24)))
  unfold prR
  by_cases hc : cqI t q = 0
  . have hv : ¬ (v = 0 ∨ v = 1) := fun e => hno ⟨hc, e⟩
    rw [if_pos hc, if_neg hv]
    rw [hc] at HC1
    have d0 : (v != 0) = true := bne_iff_ne.2 (fun e => hv (.inl e))
    have d1 : (v != 1) = true := bne_iff_ne.2 (fun e => hv (.inr e))
    unfold tV at HC1 ⊢
    simp only [zrT, List.length_nil] at HZT ⊢
    generalize t.s.length = ns at *
    generalize t.d.length = nd at *
    generalize t.n = n at *
    clear hA hZ h hc hv hno
    go_enter Tryd.func16, Tryd.ntmps16
    go_wp2_with fail
    refine (HC1.out _ HB0.out).mono ?_
    rintro e w1 ⟨rfl, hb1⟩
    have hR := HZ.out.below hb1
    have HB1 := hide (bkp HB0.out hb1)
    clear hb1
    unfold At3 at hR
    go_wp2_with (first
      | (refine wpList_store_row rfl _ _ _ rfl (w.heap.size + 1) _ rfl rfl _ _ hR (by exact infoT) (by rfl) (all3 _ _ _ _ _ _ _) ?_))
    refine bodyPost_ret (Pau.results_ct rfl _ _ (w.heap.size + 1) _ _ _ _ rfl (setRow_heap _ _ _ _ _ _ hR) Tryd.underlying24 rfl (by exact infoT)) rfl ?_
    exact ⟨none, none, 0, 0, rfl, HZT.out _, below_setRow HB1.out (by omega) _⟩
  . rw [if_neg hc]
    have d0 : (cqI t q != 0) = true := bne_iff_ne.2 hc
    unfold tV at HC1 ⊢
    simp only [zrT, List.length_nil] at HZT ⊢
    generalize cqI t q = cq at *
    generalize t.s.length = ns at *
    generalize t.d.length = nd at *
    generalize t.n = n at *
    clear hA hZ h hc hno
    go_enter Tryd.func16, Tryd.ntmps16
    go_wp2_with fail
    refine (HC1.out _ HB0.out).mono ?_
    rintro e w1 ⟨rfl, hb1⟩
    have hR := HZ.out.below hb1
    have HB1 := hide (bkp HB0.out hb1)
    clear hb1
    unfold At3 at hR
    go_wp2_with (first
      | (refine wpList_store_row rfl _ _ _ rfl (w.heap.size + 1) _ rfl rfl _ _ hR (by exact infoT) (by rfl) (all3 _ _ _ _ _ _ _) ?_))
    refine bodyPost_ret (Pau.results_ct rfl _ _ (w.heap.size + 1) _ _ _ _ rfl (setRow_heap _ _ _ _ _ _ hR) Tryd.underlying24 rfl (by exact infoT)) rfl ?_
    exact ⟨none, none, 0, 0, rfl, HZT.out _, below_setRow HB1.out (by omega) _⟩
theorem tProject_ok (t : TT) (a b : Option Addr) (ca cb : Nat) (q v : Int) (hc : cqI t q = 0) (hv : v = 0 ∨ v = 1) (w : World) (h : Th w t a b ca cb) :
    Calls Tryd.prog 16 #[tV t a b ca cb, .int .i64 q, .int .i64 v] w fun e w' => ∃ a' b' ca' cb', e = .returned (.tuple #[tV (frR t (lzP t.n q.toNat v)).1 a' b' ca' cb', .int .i64 (frR t (lzP t.n q.toNat v)).2.2]) /\ Th w' (frR t (lzP t.n q.toNat v)).1 a' b' ca' cb' /\ Below w.heap.size w w' := by
  have HC1 := hide (fun W (hb : Below w.heap.size w W) => tCheckQ t a b ca cb q W (h.below hb))
  rw [hc] at HC1
  obtain ⟨-, q0, q1, q64, hz⟩ := cq_ok hc
  obtain ⟨k, rfl⟩ : ∃ k : Nat, q = (k : Int) := ⟨q.toNat, by omega⟩
  rw [Int.toNat_natCast] at q64 ⊢
  have HC2 := hide (fun W => tLetterZ t.n k q64 v (by omega) (by omega) W)
  have HC3 := hide (fun W (hb : Below w.heap.size w W) => tForce t a b ca cb hz (lzP t.n k v) (wd_lz _ q64 _) W (h.below hb))
  obtain ⟨hA, hZ⟩ := two3 w (.int .i64 t.n) (.slice a t.s.length ca) (.slice b t.d.length cb) (.int .i64 0) (.slice none 0 0) (.slice none 0 0)
  have HA := hide hA
  have HZ := hide hZ
  have HB0 := hide (bkp (bnew w (.cells #[.int .i64 t.n, .slice a t.s.length ca, .slice b t.d.length cb] 24)) (bnew _ (.cells #[.int .i64 0, .slice none 0 0, .slice none 0 0] 24)))
  generalize hF : frR t (lzP t.n k v) = F at *
  generalize hlz : lzP t.n k v = z at *
  obtain ⟨zn, zx, zz, zp⟩ := z
  obtain ⟨F, f1, f2⟩ := F
  unfold tV at HC1 HC3 ⊢
  unfold pV at HC2 HC3
  simp only at HC2 HC3 ⊢
  have dv : ((v != 0) && (v != 1)) = false := by rcases hv with rfl | rfl <;> rfl
  generalize t.s.length = ns at *
  generalize t.d.length = nd at *
  generalize t.n = n at *
  generalize F.n = fn at *
  generalize hfs : F.s.length = fs at *
  generalize hfd : F.d.length = fd at *
  clear hA hZ h hc hF hlz hz q0 q1 hfs hfd
  go_enter Tryd.func16, Tryd.ntmps16
  go_wp2_with fail
  refine (HC1.out _ HB0.out).mono ?_
  rintro e w1 ⟨rfl, hb1⟩
  have HB1 := hide (bkp HB0.out hb1)
  have HA1 := hide (HA.out.below hb1)
  have HZ1 := hide (HZ.out.below hb1)
  clear hb1 HB0 HA HZ HC1
  obtain ⟨x0, x1, x2, x3⟩ := HA1.out.cells
  have HSV : Hid (∀ V, Below w1.heap.size w1 V -> (Below w1.heap.size w1 V /\ V.cell? ⟨w.heap.size, 0, none⟩ = some (.int .i64 n) /\ V.cell? ⟨w.heap.size, 1, none⟩ = some (.slice a ns ca) /\ V.cell? ⟨w.heap.size, 2, none⟩ = some (.slice b nd cb))) := hide (fun V hV => by
    obtain ⟨k0, k1, k2, -⟩ := (HA1.out.below hV).cells
    exact ⟨hV, k0, k1, k2⟩)
  have HBV : Hid (∀ V, Below w1.heap.size w1 V -> Below w.heap.size w V) := hide (fun V hV => bkp HB1.out hV)
  have HD0 : Hid (Below w1.heap.size w1 w1.drew) := hide (Below.refl _ _).drew
  have HD1 : Hid (∀ o, Below w1.heap.size w1 (w1.alloc o).drew) := hide (fun o => (bnew w1 o).drew)
  rcases hv with rfl | rfl
  all_goals go_wp2_with fail
  all_goals clear x0 x1 x2 x3
  all_goals go_region_held3 (fun V => Below w1.heap.size w1 V /\ V.cell? ⟨w.heap.size, 0, none⟩ = some (.int .i64 n) /\ V.cell? ⟨w.heap.size, 1, none⟩ = some (.slice a ns ca) /\ V.cell? ⟨w.heap.size, 2, none⟩ = some (.slice b nd cb))
    (first | exact HSV.out _ HD0.out | exact HSV.out _ (HD1.out _) | exact HSV.out _ (by assumption) | exact HSV.out _ (bkp hb4 (bnew _ _)) | exact HSV.out _ (bkp ‹Below w1.heap.size w1 _ /\ _›.1 (bnew _ _)) | exact HSV.out _ (((hb4.setCell (p := ⟨_, 0, none⟩) (Nat.le_refl _) _).setCell (p := ⟨_, 1, none⟩) (Nat.le_refl _) _).setCell (p := ⟨_, 2, none⟩) (Nat.le_refl _) _) | exact HSV.out _ (((hb4.setCell (p := ⟨_, 0, none⟩) hb3.size _).setCell (p := ⟨_, 1, none⟩) hb3.size _).setCell (p := ⟨_, 2, none⟩) hb3.size _))
    (first
      | (go_at_call 34; (with_reducible refine Calls.mono (HC2.out _) ?_); rintro e w3 ⟨rfl, q3⟩; have hb3 := bkp (‹Below w1.heap.size w1 _ /\ _›.1) q3; first | (have zz3 : At3 w3 w1.heap.size (.int .i64 0) (.slice none 0 0) (.slice none 0 0) := (q3.block w1.heap.size (by simp)).trans (heap_alloc_new w1 _)) | skip)
      | (go_at_call 35; (with_reducible refine Calls.mono (HC3.out _ (HBV.out _ (‹Below w1.heap.size w1 _ /\ _›.1))) ?_); rintro e w4 ⟨a', b', ca', cb', rfl, hTh, q4⟩; have hb4 := bkp (‹Below w1.heap.size w1 _ /\ _›.1) q4; first | (have zz4 := At3.below zz3 q4; obtain ⟨z0, z1, z2, z3⟩ := zz4.cells; have zf := fun j => At3.fz zz4 j) | (have zz4 : At3 w4 w3.heap.size (.int .i64 0) (.slice none 0 0) (.slice none 0 0) := (q4.block w3.heap.size (by simp)).trans (heap_alloc_new w3 _); obtain ⟨z0, z1, z2, z3⟩ := zz4.cells; have zf := fun j => At3.fz zz4 j) | skip))
  . have HX : Hid (At3 (w4.alloc (.cells #[.int .i64 fn, .slice a' fs ca', .slice b' fd cb'] 24)) w4.heap.size (.int .i64 fn) (.slice a' fs ca') (.slice b' fd cb') /\ At3 (w4.alloc (.cells #[.int .i64 fn, .slice a' fs ca', .slice b' fd cb'] 24)) (w.heap.size + 1) (.int .i64 0) (.slice none 0 0) (.slice none 0 0) /\ Th (w4.alloc (.cells #[.int .i64 fn, .slice a' fs ca', .slice b' fd cb'] 24)) F a' b' ca' cb' /\ Below w.heap.size w (w4.alloc (.cells #[.int .i64 fn, .slice a' fs ca', .slice b' fd cb'] 24))) := hide ⟨At3.new _ _ _ _, (HZ1.out.below hb4).below (bnew _ _), hTh.below (bnew _ _), HBV.out _ (bkp hb4 (bnew _ _))⟩
    clear hb3 hb4 q3 q4 hTh HSV HBV HD0 HD1 HC2 HC3 HA1 HZ1 HB1
    generalize w4.alloc (.cells #[.int .i64 fn, .slice a' fs ca', .slice b' fd cb'] 24) = V at *
    generalize w4.heap.size = g9 at *
    obtain ⟨y0, y1, y2, y3⟩ := HX.out.1.cells
    have hR := HX.out.2.1
    have HY := hide (And.intro (HX.out.2.2.1.row hR #[.int .i64 fn, .slice a' fs ca', .slice b' fd cb']) HX.out.2.2.2)
    unfold At3 at hR
    clear HX
    go_wp2_with (first
      | (refine wpList_store_row rfl _ _ _ rfl (w.heap.size + 1) _ rfl rfl _ _ hR (by exact infoT) (by rfl) (all3 _ _ _ _ _ _ _) ?_))
    refine bodyPost_ret (Pau.results_ct rfl _ _ (w.heap.size + 1) _ _ _ _ rfl (setRow_heap _ _ _ _ _ _ hR) Tryd.underlying24 rfl (by exact infoT)) rfl ?_
    exact ⟨a', b', ca', cb', rfl, HY.out.1, below_setRow HY.out.2 (by omega) _⟩
  . have l1 := HZ1.out.lt
    have l2 := hb3.size
    have l3 := HB1.out.size
    have HX : Hid (At3 (((w4.setCell ⟨w3.heap.size, 0, none⟩ (.int .i64 fn)).setCell ⟨w3.heap.size, 1, none⟩ (.slice a' fs ca')).setCell ⟨w3.heap.size, 2, none⟩ (.slice b' fd cb')) w3.heap.size (.int .i64 fn) (.slice a' fs ca') (.slice b' fd cb') /\ At3 (((w4.setCell ⟨w3.heap.size, 0, none⟩ (.int .i64 fn)).setCell ⟨w3.heap.size, 1, none⟩ (.slice a' fs ca')).setCell ⟨w3.heap.size, 2, none⟩ (.slice b' fd cb')) (w.heap.size + 1) (.int .i64 0) (.slice none 0 0) (.slice none 0 0) /\ Th (((w4.setCell ⟨w3.heap.size, 0, none⟩ (.int .i64 fn)).setCell ⟨w3.heap.size, 1, none⟩ (.slice a' fs ca')).setCell ⟨w3.heap.size, 2, none⟩ (.slice b' fd cb')) F a' b' ca' cb' /\ Below w.heap.size w (((w4.setCell ⟨w3.heap.size, 0, none⟩ (.int .i64 fn)).setCell ⟨w3.heap.size, 1, none⟩ (.slice a' fs ca')).setCell ⟨w3.heap.size, 2, none⟩ (.slice b' fd cb'))) := hide ⟨zz4.set _ _ _, (set3_heap _ _ _ _ _ _ (by omega)).trans (HZ1.out.below hb4), hTh.off3 zz4 (fun _ hj => set3_heap _ _ _ _ _ _ hj), HBV.out _ (below_set3 hb4 _ _ _ (by omega))⟩
    clear hb3 hb4 q3 q4 hTh HSV HBV HD0 HD1 HC2 HC3 HA1 HZ1 HB1 zz4 z0 z1 z2 z3 zf l1 l2 l3
    generalize (((w4.setCell ⟨w3.heap.size, 0, none⟩ (.int .i64 fn)).setCell ⟨w3.heap.size, 1, none⟩ (.slice a' fs ca')).setCell ⟨w3.heap.size, 2, none⟩ (.slice b' fd cb')) = V at *
    generalize w3.heap.size = g9 at *
    obtain ⟨y0, y1, y2, y3⟩ := HX.out.1.cells
    have hR := HX.out.2.1
    have HY := hide (And.intro (HX.out.2.2.1.row hR #[.int .i64 fn, .slice a' fs ca', .slice b' fd cb']) HX.out.2.2.2)
    unfold At3 at hR
    clear HX
    go_wp2_with (first
      | (refine wpList_store_row rfl _ _ _ rfl (w.heap.size + 1) _ rfl rfl _ _ hR (by exact infoT) (by rfl) (all3 _ _ _ _ _ _ _) ?_))
    refine bodyPost_ret (Pau.results_ct rfl _ _ (w.heap.size + 1) _ _ _ _ rfl (setRow_heap _ _ _ _ _ _ hR) Tryd.underlying24 rfl (by exact infoT)) rfl ?_
    exact ⟨a', b', ca', cb', rfl, HY.out.1, below_setRow HY.out.2 (by omega) _⟩
  . have l1 := HZ1.out.lt
    have l2 := hb3.size
    have l3 := HB1.out.size
    have HX : Hid (At3 (((w4.setCell ⟨w1.heap.size, 0, none⟩ (.int .i64 fn)).setCell ⟨w1.heap.size, 1, none⟩ (.slice a' fs ca')).setCell ⟨w1.heap.size, 2, none⟩ (.slice b' fd cb')) w1.heap.size (.int .i64 fn) (.slice a' fs ca') (.slice b' fd cb') /\ At3 (((w4.setCell ⟨w1.heap.size, 0, none⟩ (.int .i64 fn)).setCell ⟨w1.heap.size, 1, none⟩ (.slice a' fs ca')).setCell ⟨w1.heap.size, 2, none⟩ (.slice b' fd cb')) (w.heap.size + 1) (.int .i64 0) (.slice none 0 0) (.slice none 0 0) /\ Th (((w4.setCell ⟨w1.heap.size, 0, none⟩ (.int .i64 fn)).setCell ⟨w1.heap.size, 1, none⟩ (.slice a' fs ca')).setCell ⟨w1.heap.size, 2, none⟩ (.slice b' fd cb')) F a' b' ca' cb' /\ Below w.heap.size w (((w4.setCell ⟨w1.heap.size, 0, none⟩ (.int .i64 fn)).setCell ⟨w1.heap.size, 1, none⟩ (.slice a' fs ca')).setCell ⟨w1.heap.size, 2, none⟩ (.slice b' fd cb'))) := hide ⟨zz4.set _ _ _, (set3_heap _ _ _ _ _ _ (by omega)).trans (HZ1.out.below hb4), hTh.off3 zz4 (fun _ hj => set3_heap _ _ _ _ _ _ hj), HBV.out _ (below_set3 hb4 _ _ _ (by omega))⟩
    clear hb3 hb4 q3 q4 hTh HSV HBV HD0 HD1 HC2 HC3 HA1 HZ1 HB1 zz4 z0 z1 z2 z3 zf l1 l2 l3
    generalize (((w4.setCell ⟨w1.heap.size, 0, none⟩ (.int .i64 fn)).setCell ⟨w1.heap.size, 1, none⟩ (.slice a' fs ca')).setCell ⟨w1.heap.size, 2, none⟩ (.slice b' fd cb')) = V at *
    generalize w1.heap.size = g9 at *
    obtain ⟨y0, y1, y2, y3⟩ := HX.out.1.cells
    have hR := HX.out.2.1
    have HY := hide (And.intro (HX.out.2.2.1.row hR #[.int .i64 fn, .slice a' fs ca', .slice b' fd cb']) HX.out.2.2.2)
    unfold At3 at hR
    clear HX
    go_wp2_with (first
      | (refine wpList_store_row rfl _ _ _ rfl (w.heap.size + 1) _ rfl rfl _ _ hR (by exact infoT) (by rfl) (all3 _ _ _ _ _ _ _) ?_))
    refine bodyPost_ret (Pau.results_ct rfl _ _ (w.heap.size + 1) _ _ _ _ rfl (setRow_heap _ _ _ _ _ _ hR) Tryd.underlying24 rfl (by exact infoT)) rfl ?_
    exact ⟨a', b', ca', cb', rfl, HY.out.1, below_setRow HY.out.2 (by omega) _⟩
  . have HX : Hid (At3 (w4.alloc (.cells #[.int .i64 fn, .slice a' fs ca', .slice b' fd cb'] 24)) w4.heap.size (.int .i64 fn) (.slice a' fs ca') (.slice b' fd cb') /\ At3 (w4.alloc (.cells #[.int .i64 fn, .slice a' fs ca', .slice b' fd cb'] 24)) (w.heap.size + 1) (.int .i64 0) (.slice none 0 0) (.slice none 0 0) /\ Th (w4.alloc (.cells #[.int .i64 fn, .slice a' fs ca', .slice b' fd cb'] 24)) F a' b' ca' cb' /\ Below w.heap.size w (w4.alloc (.cells #[.int .i64 fn, .slice a' fs ca', .slice b' fd cb'] 24))) := hide ⟨At3.new _ _ _ _, (HZ1.out.below hb4).below (bnew _ _), hTh.below (bnew _ _), HBV.out _ (bkp hb4 (bnew _ _))⟩
    clear hb3 hb4 q3 q4 hTh HSV HBV HD0 HD1 HC2 HC3 HA1 HZ1 HB1
    generalize w4.alloc (.cells #[.int .i64 fn, .slice a' fs ca', .slice b' fd cb'] 24) = V at *
    generalize w4.heap.size = g9 at *
    obtain ⟨y0, y1, y2, y3⟩ := HX.out.1.cells
    have hR := HX.out.2.1
    have HY := hide (And.intro (HX.out.2.2.1.row hR #[.int .i64 fn, .slice a' fs ca', .slice b' fd cb']) HX.out.2.2.2)
    unfold At3 at hR
    clear HX
    go_wp2_with (first
      | (refine wpList_store_row rfl _ _ _ rfl (w.heap.size + 1) _ rfl rfl _ _ hR (by exact infoT) (by rfl) (all3 _ _ _ _ _ _ _) ?_))
    refine bodyPost_ret (Pau.results_ct rfl _ _ (w.heap.size + 1) _ _ _ _ rfl (setRow_heap _ _ _ _ _ _ hR) Tryd.underlying24 rfl (by exact infoT)) rfl ?_
    exact ⟨a', b', ca', cb', rfl, HY.out.1, below_setRow HY.out.2 (by omega) _⟩
  . have l1 := HZ1.out.lt
    have l2 := hb3.size
    have l3 := HB1.out.size
    have HX : Hid (At3 (((w4.setCell ⟨w3.heap.size, 0, none⟩ (.int .i64 fn)).setCell ⟨w3.heap.size, 1, none⟩ (.slice a' fs ca')).setCell ⟨w3.heap.size, 2, none⟩ (.slice b' fd cb')) w3.heap.size (.int .i64 fn) (.slice a' fs ca') (.slice b' fd cb') /\ At3 (((w4.setCell ⟨w3.heap.size, 0, none⟩ (.int .i64 fn)).setCell ⟨w3.heap.size, 1, none⟩ (.slice a' fs ca')).setCell ⟨w3.heap.size, 2, none⟩ (.slice b' fd cb')) (w.heap.size + 1) (.int .i64 0) (.slice none 0 0) (.slice none 0 0) /\ Th (((w4.setCell ⟨w3.heap.size, 0, none⟩ (.int .i64 fn)).setCell ⟨w3.heap.size, 1, none⟩ (.slice a' fs ca')).setCell ⟨w3.heap.size, 2, none⟩ (.slice b' fd cb')) F a' b' ca' cb' /\ Below w.heap.size w (((w4.setCell ⟨w3.heap.size, 0, none⟩ (.int .i64 fn)).setCell ⟨w3.heap.size, 1, none⟩ (.slice a' fs ca')).setCell ⟨w3.heap.size, 2, none⟩ (.slice b' fd cb'))) := hide ⟨zz4.set _ _ _, (set3_heap _ _ _ _ _ _ (by omega)).trans (HZ1.out.below hb4), hTh.off3 zz4 (fun _ hj => set3_heap _ _ _ _ _ _ hj), HBV.out _ (below_set3 hb4 _ _ _ (by omega))⟩
    clear hb3 hb4 q3 q4 hTh HSV HBV HD0 HD1 HC2 HC3 HA1 HZ1 HB1 zz4 z0 z1 z2 z3 zf l1 l2 l3
    generalize (((w4.setCell ⟨w3.heap.size, 0, none⟩ (.int .i64 fn)).setCell ⟨w3.heap.size, 1, none⟩ (.slice a' fs ca')).setCell ⟨w3.heap.size, 2, none⟩ (.slice b' fd cb')) = V at *
    generalize w3.heap.size = g9 at *
    obtain ⟨y0, y1, y2, y3⟩ := HX.out.1.cells
    have hR := HX.out.2.1
    have HY := hide (And.intro (HX.out.2.2.1.row hR #[.int .i64 fn, .slice a' fs ca', .slice b' fd cb']) HX.out.2.2.2)
    unfold At3 at hR
    clear HX
    go_wp2_with (first
      | (refine wpList_store_row rfl _ _ _ rfl (w.heap.size + 1) _ rfl rfl _ _ hR (by exact infoT) (by rfl) (all3 _ _ _ _ _ _ _) ?_))
    refine bodyPost_ret (Pau.results_ct rfl _ _ (w.heap.size + 1) _ _ _ _ rfl (setRow_heap _ _ _ _ _ _ hR) Tryd.underlying24 rfl (by exact infoT)) rfl ?_
    exact ⟨a', b', ca', cb', rfl, HY.out.1, below_setRow HY.out.2 (by omega) _⟩
  . have l1 := HZ1.out.lt
    have l2 := hb3.size
    have l3 := HB1.out.size
    have HX : Hid (At3 (((w4.setCell ⟨w1.heap.size, 0, none⟩ (.int .i64 fn)).setCell ⟨w1.heap.size, 1, none⟩ (.slice a' fs ca')).setCell ⟨w1.heap.size, 2, none⟩ (.slice b' fd cb')) w1.heap.size (.int .i64 fn) (.slice a' fs ca') (.slice b' fd cb') /\ At3 (((w4.setCell ⟨w1.heap.size, 0, none⟩ (.int .i64 fn)).setCell ⟨w1.heap.size, 1, none⟩ (.slice a' fs ca')).setCell ⟨w1.heap.size, 2, none⟩ (.slice b' fd cb')) (w.heap.size + 1) (.int .i64 0) (.slice none 0 0) (.slice none 0 0) /\ Th (((w4.setCell ⟨w1.heap.size, 0, none⟩ (.int .i64 fn)).setCell ⟨w1.heap.size, 1, none⟩ (.slice a' fs ca')).setCell ⟨w1.heap.size, 2, none⟩ (.slice b' fd cb')) F a' b' ca' cb' /\ Below w.heap.size w (((w4.setCell ⟨w1.heap.size, 0, none⟩ (.int .i64 fn)).setCell ⟨w1.heap.size, 1, none⟩ (.slice a' fs ca')).setCell ⟨w1.heap.size, 2, none⟩ (.slice b' fd cb'))) := hide ⟨zz4.set _ _ _, (set3_heap _ _ _ _ _ _ (by omega)).trans (HZ1.out.below hb4), hTh.off3 zz4 (fun _ hj => set3_heap _ _ _ _ _ _ hj), HBV.out _ (below_set3 hb4 _ _ _ (by omega))⟩
    clear hb3 hb4 q3 q4 hTh HSV HBV HD0 HD1 HC2 HC3 HA1 HZ1 HB1 zz4 z0 z1 z2 z3 zf l1 l2 l3
    generalize (((w4.setCell ⟨w1.heap.size, 0, none⟩ (.int .i64 fn)).setCell ⟨w1.heap.size, 1, none⟩ (.slice a' fs ca')).setCell ⟨w1.heap.size, 2, none⟩ (.slice b' fd cb')) = V at *
    generalize w1.heap.size = g9 at *
    obtain ⟨y0, y1, y2, y3⟩ := HX.out.1.cells
    have hR := HX.out.2.1
    have HY := hide (And.intro (HX.out.2.2.1.row hR #[.int .i64 fn, .slice a' fs ca', .slice b' fd cb']) HX.out.2.2.2)
    unfold At3 at hR
    clear HX
    go_wp2_with (first
      | (refine wpList_store_row rfl _ _ _ rfl (w.heap.size + 1) _ rfl rfl _ _ hR (by exact infoT) (by rfl) (all3 _ _ _ _ _ _ _) ?_))
    refine bodyPost_ret (Pau.results_ct rfl _ _ (w.heap.size + 1) _ _ _ _ rfl (setRow_heap _ _ _ _ _ _ hR) Tryd.underlying24 rfl (by exact infoT)) rfl ?_
    exact ⟨a', b', ca', cb', rfl, HY.out.1, below_setRow HY.out.2 (by omega) _⟩
theorem tProject (t : TT) (a b : Option Addr) (ca cb : Nat) (q v : Int) (w : World) (h : Th w t a b ca cb) :
    Calls Tryd.prog 16 #[tV t a b ca cb, .int .i64 q, .int .i64 v] w fun e w' => ∃ a' b' ca' cb', e = .returned (.tuple #[tV (prR t q v).1 a' b' ca' cb', .int .i64 (prR t q v).2]) /\ Th w' (prR t q v).1 a' b' ca' cb' /\ Below w.heap.size w w' := by
  by_cases hc : cqI t q = 0 /\ (v = 0 ∨ v = 1)
  . unfold prR
    rw [if_pos hc.1, if_pos hc.2]
    exact tProject_ok t a b ca cb q v hc.1 hc.2 w h
  . exact tProject_no t a b ca cb q v hc w h
theorem sz_iff {t : TT} : szB t = true ↔ 0 <= t.n /\ t.n <= 64 /\ (t.s.length : Int) = t.n /\ (t.d.length : Int) = t.n := by unfold szB; exact decide_eq_true_iff
theorem sz_fc {t : TT} (h : szB t = true) (p : P) : szB (fcT t p) = true := by
  rw [sz_iff] at h ⊢
  have e1 : (fcT t p).s.length = t.s.length := by show (List.set _ _ _).length = _; rw [List.length_set, ml_len]
  have e2 : (fcT t p).d.length = t.d.length := by show (List.set _ _ _).length = _; rw [List.length_set, ml_len]
  rw [e1, e2]
  exact h
theorem sz_fr {t : TT} (h : szB t = true) {p : P} (h0 : (frR t p).2.2 = 0) : szB (frR t p).1 = true := by
  rcases mem_three t p with hm | hm | hm
  . rw [fr_two hm]; exact sz_fc h p
  . rw [fr_one hm]; exact h
  . rw [fr_neg hm] at h0; cases h0
theorem sz_pr {t : TT} {q v : Int} (h0 : (prR t q v).2 = 0) : szB (prR t q v).1 = true := by
  unfold prR at h0 ⊢
  split at h0
  . rename_i hc
    rw [if_pos hc]
    split at h0
    . rename_i hv
      rw [if_pos hv]
      exact sz_fr (cq_ok hc).2.2.2.2 h0
    . cases h0
  . rename_i hc
    exact absurd h0 hc
def stR (t : TT) (q v : Int) : TT × Int := if (prR t q v).2 = 0 then (if v = 0 then prR t q v else (thT (prR t q v).1 2 [q], 0)) else prR t q v
theorem ns_one (w : World) (q : Int) : Ns (w.alloc (.cells #[.int .i64 q] 3)) (some ⟨w.heap.size, 0, none⟩) [q] := .inr ⟨w.heap.size, 0, rfl, fun j z hj => by
  match j, hj with
  | 0, hj =>
    simp at hj
    subst hj
    exact cell_of_row _ _ 0 _ _ _ (heap_alloc_new _ _)⟩
theorem tSettle (t : TT) (a b : Option Addr) (ca cb : Nat) (q v : Int) (w : World) (h : Th w t a b ca cb) (hT : Tg w) :
    Calls Tryd.prog 19 #[tV t a b ca cb, .int .i64 q, .int .i64 v] w fun e w' => ∃ a' b' ca' cb', e = .returned (.tuple #[tV (stR t q v).1 a' b' ca' cb', .int .i64 (stR t q v).2]) /\ Th w' (stR t q v).1 a' b' ca' cb' /\ Below w.heap.size w w' := by
  have HC1 := hide (fun W (hb : Below w.heap.size w W) => tProject t a b ca cb q v W (h.below hb))
  have HC2 := hide (fun W (hb : Below w.heap.size w W) a' b' ca' cb' (hh : Th W (prR t q v).1 a' b' ca' cb') g (hn : Ns W (some ⟨g, 0, none⟩) [q]) (hz : szB (prR t q v).1 = true) => tThrough (prR t q v).1 a' b' ca' cb' hz 2 [q] (by simp) (some ⟨g, 0, none⟩) 1 (by simp) W hh (hT.below hb) hn)
  have hsz : (prR t q v).2 = 0 -> szB (prR t q v).1 = true := sz_pr
  obtain ⟨hA, hZ⟩ := two3 w (.int .i64 t.n) (.slice a t.s.length ca) (.slice b t.d.length cb) (.int .i64 0) (.slice none 0 0) (.slice none 0 0)
  have HA := hide hA
  have HZ := hide hZ
  have HB0 := hide (bkp (bnew w (.cells #[.int .i64 t.n, .slice a t.s.length ca, .slice b t.d.length cb] 24)) (bnew _ (.cells #[.int .i64 0, .slice none 0 0, .slice none 0 0] 24)))
  have HNS := hide (fun W => ns_one W q)
  unfold stR
  unfold tV at HC1 HC2 ⊢
  generalize prR t q v = R at *
  obtain ⟨R, r2⟩ := R
  simp only [List.length_cons, List.length_nil] at *
  generalize t.s.length = ns at *
  generalize t.d.length = nd at *
  generalize t.n = n at *
  generalize hG : thT R 2 [q] = G at *
  clear hA hZ h hT hG
  have key : (r2 = 0 /\ ¬ v = 0) ∨ (r2 = 0 /\ v = 0) ∨ ¬ r2 = 0 := by
    by_cases h1 : r2 = 0
    . by_cases h2 : v = 0
      . exact .inr (.inl ⟨h1, h2⟩)
      . exact .inl ⟨h1, h2⟩
    . exact .inr (.inr h1)
  rcases key with ⟨rfl, h2⟩ | ⟨rfl, rfl⟩ | h1
  . rw [if_pos rfl, if_neg h2]
    have hz := hsz rfl
    have d1 : (v == 0) = false := beq_false_of_ne h2
    go_enter Tryd.func19, Tryd.ntmps19
    go_wp2_with fail
    refine (HC1.out _ HB0.out).mono ?_
    rintro e w1 ⟨a', b', ca', cb', rfl, hth, hb1⟩
    have hbn := bnew w1 (.cells #[.int .i64 R.n, .slice a' R.s.length ca', .slice b' R.d.length cb'] 24)
    have HB1 := hide (bkp (bkp HB0.out hb1) hbn)
    have HZ1 := hide ((HZ.out.below hb1).below hbn)
    have HT1 := hide (hth.below hbn)
    have H81 := hide (At3.new w1 (.int .i64 R.n) (.slice a' R.s.length ca') (.slice b' R.d.length cb'))
    have hW : (w1.alloc (.cells #[.int .i64 R.n, .slice a' R.s.length ca', .slice b' R.d.length cb'] 24)).heap.size = w1.heap.size + 1 := World.size_alloc ..
    have HN1 := hide (HNS.out (w1.alloc (.cells #[.int .i64 R.n, .slice a' R.s.length ca', .slice b' R.d.length cb'] 24)))
    rw [hW] at HN1
    clear hb1 hbn hth HB0 HA HZ HC1 hW
    go_wp2_with fail
    generalize w1.alloc (.cells #[.int .i64 R.n, .slice a' R.s.length ca', .slice b' R.d.length cb'] 24) = W1 at *
    generalize w1.heap.size = g8 at *
    have hbq := bnew W1 (.cells #[.int .i64 q] 3)
    refine (HC2.out _ (bkp HB1.out hbq) _ _ _ _ (HT1.out.below hbq) _ HN1.out hz).mono ?_
    rintro e w2 ⟨a2, b2, ca2, cb2, rfl, hth2, hb2⟩
    have hR := (HZ1.out.below hbq).below hb2
    have HX := hide (And.intro (hth2.row hR #[.int .i64 G.n, .slice a2 G.s.length ca2, .slice b2 G.d.length cb2]) (bkp (bkp HB1.out hbq) hb2))
    clear hb2 hth2 hbq HB1 HZ1 HT1 H81 HC2 HNS HN1
    unfold At3 at hR
    go_wp2_with (first
      | (refine wpList_store_row rfl _ _ _ rfl (w.heap.size + 1) _ rfl rfl _ _ hR (by exact infoT) (by rfl) (all3 _ _ _ _ _ _ _) ?_))
    refine bodyPost_ret (Pau.results_ct rfl _ _ (w.heap.size + 1) _ _ _ _ rfl (setRow_heap _ _ _ _ _ _ hR) Tryd.underlying24 rfl (by exact infoT)) rfl ?_
    exact ⟨a2, b2, ca2, cb2, rfl, HX.out.1, below_setRow HX.out.2 (by omega) _⟩
  . simp only [if_true]
    go_enter Tryd.func19, Tryd.ntmps19
    go_wp2_with fail
    refine (HC1.out _ HB0.out).mono ?_
    rintro e w1 ⟨a', b', ca', cb', rfl, hth, hb1⟩
    have hbn := bnew w1 (.cells #[.int .i64 R.n, .slice a' R.s.length ca', .slice b' R.d.length cb'] 24)
    have HB1 := hide (bkp (bkp HB0.out hb1) hbn)
    have hR := (HZ.out.below hb1).below hbn
    have HT1 := hide ((hth.below hbn).row hR #[.int .i64 R.n, .slice a' R.s.length ca', .slice b' R.d.length cb'])
    have H81 := hide (At3.new w1 (.int .i64 R.n) (.slice a' R.s.length ca') (.slice b' R.d.length cb'))
    clear hb1 hbn hth HB0 HA HZ HC1 HC2 HNS
    unfold At3 at hR
    go_wp2_with (first
      | (refine wpList_store_row rfl _ _ _ rfl (w.heap.size + 1) _ rfl rfl _ _ hR (by exact infoT) (by rfl) (all3 _ _ _ _ _ _ _) ?_))
    refine bodyPost_ret (Pau.results_ct rfl _ _ (w.heap.size + 1) _ _ _ _ rfl (setRow_heap _ _ _ _ _ _ hR) Tryd.underlying24 rfl (by exact infoT)) rfl ?_
    exact ⟨a', b', ca', cb', rfl, HT1.out, below_setRow HB1.out (by omega) _⟩
  . simp only [h1, if_false]
    have d1 : (r2 != 0) = true := bne_iff_ne.2 h1
    go_enter Tryd.func19, Tryd.ntmps19
    go_wp2_with fail
    refine (HC1.out _ HB0.out).mono ?_
    rintro e w1 ⟨a', b', ca', cb', rfl, hth, hb1⟩
    have hbn := bnew w1 (.cells #[.int .i64 R.n, .slice a' R.s.length ca', .slice b' R.d.length cb'] 24)
    have HB1 := hide (bkp (bkp HB0.out hb1) hbn)
    have hR := (HZ.out.below hb1).below hbn
    have HT1 := hide ((hth.below hbn).row hR #[.int .i64 R.n, .slice a' R.s.length ca', .slice b' R.d.length cb'])
    have H81 := hide (At3.new w1 (.int .i64 R.n) (.slice a' R.s.length ca') (.slice b' R.d.length cb'))
    clear hb1 hbn hth HB0 HA HZ HC1 HC2 HNS
    unfold At3 at hR
    go_wp2_with (first
      | (refine wpList_store_row rfl _ _ _ rfl (w.heap.size + 1) _ rfl rfl _ _ hR (by exact infoT) (by rfl) (all3 _ _ _ _ _ _ _) ?_))
    refine bodyPost_ret (Pau.results_ct rfl _ _ (w.heap.size + 1) _ _ _ _ rfl (setRow_heap _ _ _ _ _ _ hR) Tryd.underlying24 rfl (by exact infoT)) rfl ?_
    exact ⟨a', b', ca', cb', rfl, HT1.out, below_setRow HB1.out (by omega) _⟩
def Rr (N : Nat) (p : P) : Prop := rt p = true /\ p.n = (N : Int)
theorem Rr.wd {N : Nat} {p : P} (h : Rr N p) : Wd p := by
  obtain ⟨h1, h2⟩ := h
  obtain ⟨a, b, c, d, -⟩ := rt_iff.1 h1
  have hp : 2 ^ p.n.toNat <= 2 ^ 64 := Nat.pow_le_pow_right (by decide) (by omega)
  have e : (2 : Nat) ^ 64 = 18446744073709551616 := by decide
  exact ⟨by omega, by omega⟩
theorem Rr.fit {N : Nat} {a b : P} (ha : Rr N a) (hb : Rr N b) : fitP a b = true := fit_iff.2 ⟨ha.1, hb.1, ha.2.trans hb.2.symm⟩
theorem Rr.pd {N : Nat} {a b : P} (ha : Rr N a) (hb : Rr N b) : pdP a b = mulP a b /\ Rr N (pdP a b) := by
  have hf := ha.fit hb
  have e : pdP a b = mulP a b := by unfold pdP mulR; rw [if_pos hf]
  rw [e]
  exact ⟨rfl, mul_rt hf, ha.2⟩
theorem Rr.n64 {N : Nat} {p : P} (h : Rr N p) : N <= 64 := by
  have := (rt_iff.1 h.1).2.1
  have := h.2
  omega
def bitN (N : Nat) (p : P) (c : Nat) : Nat := if c < N then bt p.x c else bt p.z (c - N)
def bitB (N c : Nat) (p : P) : Bool := bitN N p c == 1
theorem bitN_lt (N : Nat) (p : P) (c : Nat) : bitN N p c < 2 := by unfold bitN; split <;> exact bt_lt _ _
theorem tBit (N : Nat) (p : P) (hp : Rr N p) (c : Nat) (hc : c < 2 * N) (w : World) : Calls Tryd.prog 40 #[pV p, .int .i64 (c : Int)] w fun e w' => e = .returned (.int .u64 (bitN N p c : Int)) /\ Below w.heap.size w w' := by
  have hN := hp.n64
  have hw := hp.wd
  have hpn := hp.2
  have b1 := bit_run p.x c hw.1
  have b2 := bit_run p.z (c - N) hw.2
  unfold bitN
  obtain ⟨n, x, z, ph⟩ := p
  simp only at *
  subst hpn
  unfold pV
  simp only
  have HB := hide (bnew w (.cells #[.int .i64 (N : Int), .int .u64 (x : Int), .int .u64 (z : Int), .int .i64 ph] 49))
  clear hp
  by_cases h : c < N
  . rw [if_pos h]
    have d1 : decide ((c : Int) < (N : Int)) = true := decide_eq_true (by omega)
    generalize bt x c = r at *
    clear b2
    go_enter Tryd.func40, Tryd.ntmps40
    go_wp2_with fail
    go_ret
    exact ⟨rfl, HB.out⟩
  . rw [if_neg h]
    obtain ⟨d, rfl⟩ : ∃ d, c = N + d := ⟨c - N, by omega⟩
    rw [show N + d - N = d by omega] at b2 ⊢
    have d1 : decide (((N + d : Nat) : Int) < (N : Int)) = false := decide_eq_false (by omega)
    have e1 : wrap64 (((N + d : Nat) : Int) - (N : Int)) = (d : Int) := by unfold wrap64; omega
    have e2 : IntKind.i64.wrap (((N + d : Nat) : Int) - (N : Int)) = (d : Int) := by rw [wrapI]; omega
    have hd64 : (d : Int) <= 64 := by omega
    generalize bt z d = r at *
    clear b1
    go_enter Tryd.func40, Tryd.ntmps40
    go_wp2_with fail
    go_ret
    exact ⟨rfl, HB.out⟩
def At1 (w : World) (g : Nat) (c : Int) : Prop := w.heap[g]? = some (.cells #[.int .i64 c] 3 (0, 0))
theorem At1.lt {w : World} {g : Nat} {c : Int} (h : At1 w g c) : g < w.heap.size := (Array.getElem?_eq_some_iff.1 h).1
theorem At1.below {w w' : World} {g : Nat} {c : Int} (h : At1 w g c) (hb : Below w.heap.size w w') : At1 w' g c := (hb.block g h.lt).trans h
theorem At1.cell {w : World} {g : Nat} {c : Int} (h : At1 w g c) : w.cell? ⟨g, 0, none⟩ = some (.int .i64 c) := cell_of_row _ _ 0 _ _ _ h
theorem At1.bx {g b : Nat} {w w' : World} {c : Int} (h : At1 w b c) (hb : Bx g w w') (hne : b ≠ g) : At1 w' b c := (hb.block b h.lt hne).trans h
theorem tSet (N : Nat) (p : P) (hp : Rr N p) (c : Nat) (hc : c < 2 * N) (g : Nat) (w : World) (h : At1 w g (c : Int)) :
    Calls Tryd.prog 39 #[pV p, .pointer (some ⟨g, 0, none⟩)] w fun e w' => e = .returned (.bool (bitB N c p)) /\ Below w.heap.size w w' := by
  have c1 := fun W => tBit N p hp c hc W
  unfold bitB
  have hl := bitN_lt N p c
  generalize bitN N p c = r at *
  have hr : (r == 1) = ((r : Int) == 1) := by
    have : r = 0 ∨ r = 1 := by omega
    rcases this with rfl | rfl <;> rfl
  rw [hr]
  obtain ⟨n, x, z, ph⟩ := p
  unfold pV at *
  simp only at *
  have HB := hide (bnew w (.cells #[.int .i64 n, .int .u64 (x : Int), .int .u64 (z : Int), .int .i64 ph] 49))
  have x0 := (h.below HB.out).cell
  have x1 := (h.below HB.out).lt
  clear hp h hr
  go_enter Tryd.func39, Tryd.ntmps39
  go_wp2_with (go_at_call 40; refine (c1 _).mono ?_; rintro e w1 ⟨rfl, hb1⟩; have HB1 := hide (bkp HB.out hb1))
  go_ret
  exact ⟨rfl, HB1.out⟩
theorem eSet : ∀ args w, (callFunc 39 args).run Tryd.prog w = .ok (.enter 39 args) w := enters_of Tryd.func39 (by kernel_rfl) rfl
theorem tell_set {V : World} {g N c : Nat} (hc : c < 2 * N) (h : At1 V g (c : Int)) : Tell (Rr N) V (.func (.func 39) #[] #[.pointer (some ⟨g, 0, none⟩)]) (bitB N c) := ⟨39, _, rfl, eSet, fun U hU p hp => tSet N p hp c hc g U (h.below hU)⟩
def pvK (N c : Nat) (s : List P × Nat) : Nat := s.2 + (s.1.drop s.2).findIdx (bitB N c)
def redC (N c : Nat) (s : List P × Nat) : List P × Nat :=
  if (s.1.drop s.2).any (bitB N c) = true then (mlL ((s.1.set s.2 (s.1.getD (pvK N c s) oP)).set (pvK N c s) (s.1.getD s.2 oP)) (s.1.getD (pvK N c s) oP) s.2 (bitB N c), s.2 + 1) else s
def redS (N : Nat) (l : List P) : Nat -> List P × Nat
  | 0 => (l, 0)
  | c + 1 => redC N c (redS N l c)
theorem redC_len (N c : Nat) (s : List P × Nat) : (redC N c s).1.length = s.1.length := by
  unfold redC
  split
  . simp only [ml_len, List.length_set]
  . rfl
theorem redS_len (N : Nat) (l : List P) : ∀ c, (redS N l c).1.length = l.length
  | 0 => rfl
  | c + 1 => by rw [redS, redC_len, redS_len N l c]
theorem redC_rank {N c : Nat} {s : List P × Nat} (h : s.2 <= s.1.length) : (redC N c s).2 <= s.1.length /\ s.2 <= (redC N c s).2 /\ ((s.1.drop s.2).any (bitB N c) = true -> pvK N c s < s.1.length /\ s.2 < s.1.length) := by
  have key : (s.1.drop s.2).any (bitB N c) = true -> pvK N c s < s.1.length /\ s.2 < s.1.length := by
    intro ha
    obtain ⟨x, hx, hT⟩ := List.any_eq_true.1 ha
    have := List.findIdx_lt_length_of_exists (p := bitB N c) ⟨x, hx, hT⟩
    rw [List.length_drop] at this
    unfold pvK
    omega
  unfold redC
  split
  . rename_i ha
    have := key ha
    exact ⟨by show s.2 + 1 <= _; omega, by show s.2 <= s.2 + 1; omega, key⟩
  . exact ⟨h, Nat.le_refl _, key⟩
theorem redS_rank (N : Nat) (l : List P) : ∀ c, (redS N l c).2 <= l.length
  | 0 => Nat.zero_le _
  | c + 1 => by
    have h := redS_rank N l c
    rw [← redS_len N l c] at h
    have := (redC_rank (N := N) (c := c) h).1
    rw [redS_len] at this
    exact this
theorem rr_ml {N : Nat} {l : List P} (h : ∀ p ∈ l, Rr N p) {q : P} (hq : Rr N q) (k : Nat) (T : P -> Bool) : ∀ p ∈ mlL l q k T, Rr N p := by
  intro p hp
  obtain ⟨i, hi⟩ := List.getElem?_of_mem hp
  have hl := (List.getElem?_eq_some_iff.1 hi).1
  rw [ml_len] at hl
  unfold mlL at hi
  rw [upd_at _ _ _ _ hl, if_pos hl] at hi
  cases hi
  have hh := h _ (List.mem_of_getElem? (get_of hl))
  unfold mulF
  split
  . exact (hh.pd hq).2
  . exact hh
theorem rr_set {N : Nat} {l : List P} (h : ∀ p ∈ l, Rr N p) {q : P} (hq : Rr N q) (k : Nat) : ∀ p ∈ l.set k q, Rr N p := by
  intro p hp
  rcases List.mem_or_eq_of_mem_set hp with h1 | h1
  . exact h p h1
  . rw [h1]; exact hq
theorem rr_getD {N : Nat} {l : List P} (h : ∀ p ∈ l, Rr N p) {i : Nat} (hi : i < l.length) : Rr N (l.getD i oP) := h _ (List.mem_of_getElem? (get_of hi))
theorem redC_rr {N c : Nat} {s : List P × Nat} (h : ∀ p ∈ s.1, Rr N p) (hr : s.2 <= s.1.length) : ∀ p ∈ (redC N c s).1, Rr N p := by
  have hk := (redC_rank (N := N) (c := c) hr).2.2
  unfold redC
  split
  . rename_i ha
    obtain ⟨h1, h2⟩ := hk ha
    exact rr_ml (rr_set (rr_set h (rr_getD h h1) _) (rr_getD h h2) _) (rr_getD h h1) _ _
  . exact h
theorem redS_rr {N : Nat} {l : List P} (h : ∀ p ∈ l, Rr N p) : ∀ c, ∀ p ∈ (redS N l c).1, Rr N p
  | 0 => h
  | c + 1 => redC_rr (redS_rr h c) (by rw [redS_len]; exact redS_rank N l c)
end Go.Proofs.YtpehekonjdneaaaDoor.Tbl
