import Derived.Test.YtaggifpnamjghaaDoorK991c3962
set_option maxRecDepth 100000
set_option maxHeartbeats 8000000
namespace Go.Proofs.YtaggifpnamjghaaDoor.Tbl
open Go.RowKit Go.Shelf Go.Proofs.YtaggifpnamjghaaDoor.Pau Go.Proofs.YtaggifpnamjghaaDoor.Gt
def prR (t : TT) (q v : Int) : TT × Int := if cqI t q = 0 then (if v = 0 ∨ v = 1 then ((frR t (lzP t.n q.toNat v)).1, (frR t (lzP t.n q.toNat v)).2.2) else (zrT, 2)) else (zrT, cqI t q)
theorem tProject_no (t : TT) (a b : Option Addr) (ca cb : Nat) (q v : Int) (hno : ¬ (cqI t q = 0 /\ (v = 0 ∨ v = 1))) (w : World) (h : Th w t a b ca cb) :
    Calls Tryd.prog 21 #[tV t a b ca cb, .int .i64 q, .int .i64 v] w fun e w' => ∃ a' b' ca' cb', e = .returned (.tuple #[tV (prR t q v).1 a' b' ca' cb', .int .i64 (prR t q v).2]) /\ Th w' (prR t q v).1 a' b' ca' cb' /\ Below w.heap.size w w' := by
  have HC1 := hide (fun W (hb : Below w.heap.size w W) => tCheckQ t a b ca cb q W (h.below hb))
  have HZT := hide th_zero
  obtain ⟨hA, hZ⟩ := two3 w (.int .i64 t.n) (.slice a t.s.length ca) (.slice b t.d.length cb) (.int .i64 0) (.slice none 0 0) (.slice none 0 0)
  have HZ := hide hZ
  have HB0 := hide (bkp (bnew w (.cells #[.int .i64 t.n, .slice a t.s.length ca, .slice b t.d.length cb] 24)) (bnew _ (.cells #[.int .i64 0, .slice none 0 0, .slice none 0 0] 24)))
  unfold prR
  by_cases hc : cqI t q = 0
  . have hv : ¬ (v = 0 ∨ v = 1) := fun e => hno ⟨hc, e⟩
    rw [if_pos hc, if_neg hv]
    rw [hc] at HC1
    have d0 : (v != 0) = true := bne_iff_ne.2 (fun e => hv (.inl e))
    have d1 : (v != 1) = true := bne_iff_ne.2 (fun e => hv (.inr e))
    unfold tV at HC1 ⊢
    simp only [zrT, List.length_nil] at HZT ⊢
    generalize t.s.length = ns at *
    generalize t.d.length = nd at *
    generalize t.n = n at *
    clear hA hZ h hc hv hno
    go_enter Tryd.func21, Tryd.ntmps21
    go_wp2_with fail
    refine (HC1.out _ HB0.out).mono ?_
    rintro e w1 ⟨rfl, hb1⟩
    have hR := HZ.out.below hb1
    have HB1 := hide (bkp HB0.out hb1)
    clear hb1
    unfold At3 at hR
    go_wp2_with (first
      | (refine wpList_store_row rfl _ _ _ rfl (w.heap.size + 1) _ rfl rfl _ _ hR (by exact infoT) (by rfl) (all3 _ _ _ _ _ _ _) ?_))
    refine bodyPost_ret (Pau.results_ct rfl _ _ (w.heap.size + 1) _ _ _ _ rfl (setRow_heap _ _ _ _ _ _ hR) Tryd.underlying24 rfl (by exact infoT)) rfl ?_
    exact ⟨none, none, 0, 0, rfl, HZT.out _, below_setRow HB1.out (by omega) _⟩
  . rw [if_neg hc]
    have d0 : (cqI t q != 0) = true := bne_iff_ne.2 hc
    unfold tV at HC1 ⊢
    simp only [zrT, List.length_nil] at HZT ⊢
    generalize cqI t q = cq at *
    generalize t.s.length = ns at *
    generalize t.d.length = nd at *
    generalize t.n = n at *
    clear hA hZ h hc hno
    go_enter Tryd.func21, Tryd.ntmps21
    go_wp2_with fail
    refine (HC1.out _ HB0.out).mono ?_
    rintro e w1 ⟨rfl, hb1⟩
    have hR := HZ.out.below hb1
    have HB1 := hide (bkp HB0.out hb1)
    clear hb1
    unfold At3 at hR
    go_wp2_with (first
      | (refine wpList_store_row rfl _ _ _ rfl (w.heap.size + 1) _ rfl rfl _ _ hR (by exact infoT) (by rfl) (all3 _ _ _ _ _ _ _) ?_))
    refine bodyPost_ret (Pau.results_ct rfl _ _ (w.heap.size + 1) _ _ _ _ rfl (setRow_heap _ _ _ _ _ _ hR) Tryd.underlying24 rfl (by exact infoT)) rfl ?_
    exact ⟨none, none, 0, 0, rfl, HZT.out _, below_setRow HB1.out (by omega) _⟩
theorem tProject_ok (t : TT) (a b : Option Addr) (ca cb : Nat) (q v : Int) (hc : cqI t q = 0) (hv : v = 0 ∨ v = 1) (w : World) (h : Th w t a b ca cb) :
    Calls Tryd.prog 21 #[tV t a b ca cb, .int .i64 q, .int .i64 v] w fun e w' => ∃ a' b' ca' cb', e = .returned (.tuple #[tV (frR t (lzP t.n q.toNat v)).1 a' b' ca' cb', .int .i64 (frR t (lzP t.n q.toNat v)).2.2]) /\ Th w' (frR t (lzP t.n q.toNat v)).1 a' b' ca' cb' /\ Below w.heap.size w w' := by
  have HC1 := hide (fun W (hb : Below w.heap.size w W) => tCheckQ t a b ca cb q W (h.below hb))
  rw [hc] at HC1
  obtain ⟨-, q0, q1, q64, hz⟩ := cq_ok hc
  obtain ⟨k, rfl⟩ : ∃ k : Nat, q = (k : Int) := ⟨q.toNat, by omega⟩
  rw [Int.toNat_natCast] at q64 ⊢
  have HC2 := hide (fun W => tLetterZ t.n k q64 v (by omega) (by omega) W)
  have HC3 := hide (fun W (hb : Below w.heap.size w W) => tForce t a b ca cb hz (lzP t.n k v) (wd_lz _ q64 _) W (h.below hb))
  obtain ⟨hA, hZ⟩ := two3 w (.int .i64 t.n) (.slice a t.s.length ca) (.slice b t.d.length cb) (.int .i64 0) (.slice none 0 0) (.slice none 0 0)
  have HA := hide hA
  have HZ := hide hZ
  have HB0 := hide (bkp (bnew w (.cells #[.int .i64 t.n, .slice a t.s.length ca, .slice b t.d.length cb] 24)) (bnew _ (.cells #[.int .i64 0, .slice none 0 0, .slice none 0 0] 24)))
  generalize hF : frR t (lzP t.n k v) = F at *
  generalize hlz : lzP t.n k v = z at *
  obtain ⟨zn, zx, zz, zp⟩ := z
  obtain ⟨F, f1, f2⟩ := F
  unfold tV at HC1 HC3 ⊢
  unfold pV at HC2 HC3
  simp only at HC2 HC3 ⊢
  have dv : ((v != 0) && (v != 1)) = false := by rcases hv with rfl | rfl <;> rfl
  generalize t.s.length = ns at *
  generalize t.d.length = nd at *
  generalize t.n = n at *
  generalize F.n = fn at *
  generalize hfs : F.s.length = fs at *
  generalize hfd : F.d.length = fd at *
  clear hA hZ h hc hF hlz hz q0 q1 hfs hfd
  go_enter Tryd.func21, Tryd.ntmps21
  go_wp2_with fail
  refine (HC1.out _ HB0.out).mono ?_
  rintro e w1 ⟨rfl, hb1⟩
  have HB1 := hide (bkp HB0.out hb1)
  have HA1 := hide (HA.out.below hb1)
  have HZ1 := hide (HZ.out.below hb1)
  clear hb1 HB0 HA HZ HC1
  obtain ⟨x0, x1, x2, x3⟩ := HA1.out.cells
  have HSV : Hid (∀ V, Below w1.heap.size w1 V -> (Below w1.heap.size w1 V /\ V.cell? ⟨w.heap.size, 0, none⟩ = some (.int .i64 n) /\ V.cell? ⟨w.heap.size, 1, none⟩ = some (.slice a ns ca) /\ V.cell? ⟨w.heap.size, 2, none⟩ = some (.slice b nd cb))) := hide (fun V hV => by
    obtain ⟨k0, k1, k2, -⟩ := (HA1.out.below hV).cells
    exact ⟨hV, k0, k1, k2⟩)
  have HBV : Hid (∀ V, Below w1.heap.size w1 V -> Below w.heap.size w V) := hide (fun V hV => bkp HB1.out hV)
  have HD0 : Hid (Below w1.heap.size w1 w1.drew) := hide (Below.refl _ _).drew
  have HD1 : Hid (∀ o, Below w1.heap.size w1 (w1.alloc o).drew) := hide (fun o => (bnew w1 o).drew)
  rcases hv with rfl | rfl
  all_goals go_wp2_with fail
  all_goals clear x0 x1 x2 x3
  all_goals go_region_held3 (fun V => Below w1.heap.size w1 V /\ V.cell? ⟨w.heap.size, 0, none⟩ = some (.int .i64 n) /\ V.cell? ⟨w.heap.size, 1, none⟩ = some (.slice a ns ca) /\ V.cell? ⟨w.heap.size, 2, none⟩ = some (.slice b nd cb))
    (first | exact HSV.out _ HD0.out | exact HSV.out _ (HD1.out _) | exact HSV.out _ (by assumption) | exact HSV.out _ (bkp hb4 (bnew _ _)) | exact HSV.out _ (bkp ‹Below w1.heap.size w1 _ /\ _›.1 (bnew _ _)) | exact HSV.out _ (((hb4.setCell (p := ⟨_, 0, none⟩) (Nat.le_refl _) _).setCell (p := ⟨_, 1, none⟩) (Nat.le_refl _) _).setCell (p := ⟨_, 2, none⟩) (Nat.le_refl _) _) | exact HSV.out _ (((hb4.setCell (p := ⟨_, 0, none⟩) hb3.size _).setCell (p := ⟨_, 1, none⟩) hb3.size _).setCell (p := ⟨_, 2, none⟩) hb3.size _))
    (first
      | (go_at_call 47; (with_reducible refine Calls.mono (HC2.out _) ?_); rintro e w3 ⟨rfl, q3⟩; have hb3 := bkp (‹Below w1.heap.size w1 _ /\ _›.1) q3; first | (have zz3 : At3 w3 w1.heap.size (.int .i64 0) (.slice none 0 0) (.slice none 0 0) := (q3.block w1.heap.size (by simp)).trans (heap_alloc_new w1 _)) | skip)
      | (go_at_call 32; (with_reducible refine Calls.mono (HC3.out _ (HBV.out _ (‹Below w1.heap.size w1 _ /\ _›.1))) ?_); rintro e w4 ⟨a', b', ca', cb', rfl, hTh, q4⟩; have hb4 := bkp (‹Below w1.heap.size w1 _ /\ _›.1) q4; first | (have zz4 := At3.below zz3 q4; obtain ⟨z0, z1, z2, z3⟩ := zz4.cells; have zf := fun j => At3.fz zz4 j) | (have zz4 : At3 w4 w3.heap.size (.int .i64 0) (.slice none 0 0) (.slice none 0 0) := (q4.block w3.heap.size (by simp)).trans (heap_alloc_new w3 _); obtain ⟨z0, z1, z2, z3⟩ := zz4.cells; have zf := fun j => At3.fz zz4 j) | skip))
  . have HX : Hid (At3 (w4.alloc (.cells #[.int .i64 fn, .slice a' fs ca', .slice b' fd cb'] 24)) w4.heap.size (.int .i64 fn) (.slice a' fs ca') (.slice b' fd cb') /\ At3 (w4.alloc (.cells #[.int .i64 fn, .slice a' fs ca', .slice b' fd cb'] 24)) (w.heap.size + 1) (.int .i64 0) (.slice none 0 0) (.slice none 0 0) /\ Th (w4.alloc (.cells #[.int .i64 fn, .slice a' fs ca', .slice b' fd cb'] 24)) F a' b' ca' cb' /\ Below w.heap.size w (w4.alloc (.cells #[.int .i64 fn, .slice a' fs ca', .slice b' fd cb'] 24))) := hide ⟨At3.new _ _ _ _, (HZ1.out.below hb4).below (bnew _ _), hTh.below (bnew _ _), HBV.out _ (bkp hb4 (bnew _ _))⟩
    clear hb3 hb4 q3 q4 hTh HSV HBV HD0 HD1 HC2 HC3 HA1 HZ1 HB1
    generalize w4.alloc (.cells #[.int .i64 fn, .slice a' fs ca', .slice b' fd cb'] 24) = V at *
    generalize w4.heap.size = g9 at *
    obtain ⟨y0, y1, y2, y3⟩ := HX.out.1.cells
    have hR := HX.out.2.1
    have HY := hide (And.intro (HX.out.2.2.1.row hR #[.int .i64 fn, .slice a' fs ca', .slice b' fd cb']) HX.out.2.2.2)
    unfold At3 at hR
    clear HX
    go_wp2_with (first
      | (refine wpList_store_row rfl _ _ _ rfl (w.heap.size + 1) _ rfl rfl _ _ hR (by exact infoT) (by rfl) (all3 _ _ _ _ _ _ _) ?_))
    refine bodyPost_ret (Pau.results_ct rfl _ _ (w.heap.size + 1) _ _ _ _ rfl (setRow_heap _ _ _ _ _ _ hR) Tryd.underlying24 rfl (by exact infoT)) rfl ?_
    exact ⟨a', b', ca', cb', rfl, HY.out.1, below_setRow HY.out.2 (by omega) _⟩
  . have l1 := HZ1.out.lt
    have l2 := hb3.size
    have l3 := HB1.out.size
    have HX : Hid (At3 (((w4.setCell ⟨w3.heap.size, 0, none⟩ (.int .i64 fn)).setCell ⟨w3.heap.size, 1, none⟩ (.slice a' fs ca')).setCell ⟨w3.heap.size, 2, none⟩ (.slice b' fd cb')) w3.heap.size (.int .i64 fn) (.slice a' fs ca') (.slice b' fd cb') /\ At3 (((w4.setCell ⟨w3.heap.size, 0, none⟩ (.int .i64 fn)).setCell ⟨w3.heap.size, 1, none⟩ (.slice a' fs ca')).setCell ⟨w3.heap.size, 2, none⟩ (.slice b' fd cb')) (w.heap.size + 1) (.int .i64 0) (.slice none 0 0) (.slice none 0 0) /\ Th (((w4.setCell ⟨w3.heap.size, 0, none⟩ (.int .i64 fn)).setCell ⟨w3.heap.size, 1, none⟩ (.slice a' fs ca')).setCell ⟨w3.heap.size, 2, none⟩ (.slice b' fd cb')) F a' b' ca' cb' /\ Below w.heap.size w (((w4.setCell ⟨w3.heap.size, 0, none⟩ (.int .i64 fn)).setCell ⟨w3.heap.size, 1, none⟩ (.slice a' fs ca')).setCell ⟨w3.heap.size, 2, none⟩ (.slice b' fd cb'))) := hide ⟨zz4.set _ _ _, (set3_heap _ _ _ _ _ _ (by omega)).trans (HZ1.out.below hb4), hTh.off3 zz4 (fun _ hj => set3_heap _ _ _ _ _ _ hj), HBV.out _ (below_set3 hb4 _ _ _ (by omega))⟩
    clear hb3 hb4 q3 q4 hTh HSV HBV HD0 HD1 HC2 HC3 HA1 HZ1 HB1 zz4 z0 z1 z2 z3 zf l1 l2 l3
    generalize (((w4.setCell ⟨w3.heap.size, 0, none⟩ (.int .i64 fn)).setCell ⟨w3.heap.size, 1, none⟩ (.slice a' fs ca')).setCell ⟨w3.heap.size, 2, none⟩ (.slice b' fd cb')) = V at *
    generalize w3.heap.size = g9 at *
    obtain ⟨y0, y1, y2, y3⟩ := HX.out.1.cells
    have hR := HX.out.2.1
    have HY := hide (And.intro (HX.out.2.2.1.row hR #[.int .i64 fn, .slice a' fs ca', .slice b' fd cb']) HX.out.2.2.2)
    unfold At3 at hR
    clear HX
    go_wp2_with (first
      | (refine wpList_store_row rfl _ _ _ rfl (w.heap.size + 1) _ rfl rfl _ _ hR (by exact infoT) (by rfl) (all3 _ _ _ _ _ _ _) ?_))
    refine bodyPost_ret (Pau.results_ct rfl _ _ (w.heap.size + 1) _ _ _ _ rfl (setRow_heap _ _ _ _ _ _ hR) Tryd.underlying24 rfl (by exact infoT)) rfl ?_
    exact ⟨a', b', ca', cb', rfl, HY.out.1, below_setRow HY.out.2 (by omega) _⟩
  . have l1 := HZ1.out.lt
    have l2 := hb3.size
    have l3 := HB1.out.size
    have HX : Hid (At3 (((w4.setCell ⟨w1.heap.size, 0, none⟩ (.int .i64 fn)).setCell ⟨w1.heap.size, 1, none⟩ (.slice a' fs ca')).setCell ⟨w1.heap.size, 2, none⟩ (.slice b' fd cb')) w1.heap.size (.int .i64 fn) (.slice a' fs ca') (.slice b' fd cb') /\ At3 (((w4.setCell ⟨w1.heap.size, 0, none⟩ (.int .i64 fn)).setCell ⟨w1.heap.size, 1, none⟩ (.slice a' fs ca')).setCell ⟨w1.heap.size, 2, none⟩ (.slice b' fd cb')) (w.heap.size + 1) (.int .i64 0) (.slice none 0 0) (.slice none 0 0) /\ Th (((w4.setCell ⟨w1.heap.size, 0, none⟩ (.int .i64 fn)).setCell ⟨w1.heap.size, 1, none⟩ (.slice a' fs ca')).setCell ⟨w1.heap.size, 2, none⟩ (.slice b' fd cb')) F a' b' ca' cb' /\ Below w.heap.size w (((w4.setCell ⟨w1.heap.size, 0, none⟩ (.int .i64 fn)).setCell ⟨w1.heap.size, 1, none⟩ (.slice a' fs ca')).setCell ⟨w1.heap.size, 2, none⟩ (.slice b' fd cb'))) := hide ⟨zz4.set _ _ _, (set3_heap _ _ _ _ _ _ (by omega)).trans (HZ1.out.below hb4), hTh.off3 zz4 (fun _ hj => set3_heap _ _ _ _ _ _ hj), HBV.out _ (below_set3 hb4 _ _ _ (by omega))⟩
    clear hb3 hb4 q3 q4 hTh HSV HBV HD0 HD1 HC2 HC3 HA1 HZ1 HB1 zz4 z0 z1 z2 z3 zf l1 l2 l3
    generalize (((w4.setCell ⟨w1.heap.size, 0, none⟩ (.int .i64 fn)).setCell ⟨w1.heap.size, 1, none⟩ (.slice a' fs ca')).setCell ⟨w1.heap.size, 2, none⟩ (.slice b' fd cb')) = V at *
    generalize w1.heap.size = g9 at *
    obtain ⟨y0, y1, y2, y3⟩ := HX.out.1.cells
    have hR := HX.out.2.1
    have HY := hide (And.intro (HX.out.2.2.1.row hR #[.int .i64 fn, .slice a' fs ca', .slice b' fd cb']) HX.out.2.2.2)
    unfold At3 at hR
    clear HX
    go_wp2_with (first
      | (refine wpList_store_row rfl _ _ _ rfl (w.heap.size + 1) _ rfl rfl _ _ hR (by exact infoT) (by rfl) (all3 _ _ _ _ _ _ _) ?_))
    refine bodyPost_ret (Pau.results_ct rfl _ _ (w.heap.size + 1) _ _ _ _ rfl (setRow_heap _ _ _ _ _ _ hR) Tryd.underlying24 rfl (by exact infoT)) rfl ?_
    exact ⟨a', b', ca', cb', rfl, HY.out.1, below_setRow HY.out.2 (by omega) _⟩
  . have HX : Hid (At3 (w4.alloc (.cells #[.int .i64 fn, .slice a' fs ca', .slice b' fd cb'] 24)) w4.heap.size (.int .i64 fn) (.slice a' fs ca') (.slice b' fd cb') /\ At3 (w4.alloc (.cells #[.int .i64 fn, .slice a' fs ca', .slice b' fd cb'] 24)) (w.heap.size + 1) (.int .i64 0) (.slice none 0 0) (.slice none 0 0) /\ Th (w4.alloc (.cells #[.int .i64 fn, .slice a' fs ca', .slice b' fd cb'] 24)) F a' b' ca' cb' /\ Below w.heap.size w (w4.alloc (.cells #[.int .i64 fn, .slice a' fs ca', .slice b' fd cb'] 24))) := hide ⟨At3.new _ _ _ _, (HZ1.out.below hb4).below (bnew _ _), hTh.below (bnew _ _), HBV.out _ (bkp hb4 (bnew _ _))⟩
    clear hb3 hb4 q3 q4 hTh HSV HBV HD0 HD1 HC2 HC3 HA1 HZ1 HB1
    generalize w4.alloc (.cells #[.int .i64 fn, .slice a' fs ca', .slice b' fd cb'] 24) = V at *
    generalize w4.heap.size = g9 at *
    obtain ⟨y0, y1, y2, y3⟩ := HX.out.1.cells
    have hR := HX.out.2.1
    have HY := hide (And.intro (HX.out.2.2.1.row hR #[.int .i64 fn, .slice a' fs ca', .slice b' fd cb']) HX.out.2.2.2)
    unfold At3 at hR
    clear HX
    go_wp2_with (first
      | (refine wpList_store_row rfl _ _ _ rfl (w.heap.size + 1) _ rfl rfl _ _ hR (by exact infoT) (by rfl) (all3 _ _ _ _ _ _ _) ?_))
    refine bodyPost_ret (Pau.results_ct rfl _ _ (w.heap.size + 1) _ _ _ _ rfl (setRow_heap _ _ _ _ _ _ hR) Tryd.underlying24 rfl (by exact infoT)) rfl ?_
    exact ⟨a', b', ca', cb', rfl, HY.out.1, below_setRow HY.out.2 (by omega) _⟩
  . have l1 := HZ1.out.lt
    have l2 := hb3.size
    have l3 := HB1.out.size
    have HX : Hid (At3 (((w4.setCell ⟨w3.heap.size, 0, none⟩ (.int .i64 fn)).setCell ⟨w3.heap.size, 1, none⟩ (.slice a' fs ca')).setCell ⟨w3.heap.size, 2, none⟩ (.slice b' fd cb')) w3.heap.size (.int .i64 fn) (.slice a' fs ca') (.slice b' fd cb') /\ At3 (((w4.setCell ⟨w3.heap.size, 0, none⟩ (.int .i64 fn)).setCell ⟨w3.heap.size, 1, none⟩ (.slice a' fs ca')).setCell ⟨w3.heap.size, 2, none⟩ (.slice b' fd cb')) (w.heap.size + 1) (.int .i64 0) (.slice none 0 0) (.slice none 0 0) /\ Th (((w4.setCell ⟨w3.heap.size, 0, none⟩ (.int .i64 fn)).setCell ⟨w3.heap.size, 1, none⟩ (.slice a' fs ca')).setCell ⟨w3.heap.size, 2, none⟩ (.slice b' fd cb')) F a' b' ca' cb' /\ Below w.heap.size w (((w4.setCell ⟨w3.heap.size, 0, none⟩ (.int .i64 fn)).setCell ⟨w3.heap.size, 1, none⟩ (.slice a' fs ca')).setCell ⟨w3.heap.size, 2, none⟩ (.slice b' fd cb'))) := hide ⟨zz4.set _ _ _, (set3_heap _ _ _ _ _ _ (by omega)).trans (HZ1.out.below hb4), hTh.off3 zz4 (fun _ hj => set3_heap _ _ _ _ _ _ hj), HBV.out _ (below_set3 hb4 _ _ _ (by omega))⟩
    clear hb3 hb4 q3 q4 hTh HSV HBV HD0 HD1 HC2 HC3 HA1 HZ1 HB1 zz4 z0 z1 z2 z3 zf l1 l2 l3
    generalize (((w4.setCell ⟨w3.heap.size, 0, none⟩ (.int .i64 fn)).setCell ⟨w3.heap.size, 1, none⟩ (.slice a' fs ca')).setCell ⟨w3.heap.size, 2, none⟩ (.slice b' fd cb')) = V at *
    generalize w3.heap.size = g9 at *
    obtain ⟨y0, y1, y2, y3⟩ := HX.out.1.cells
    have hR := HX.out.2.1
    have HY := hide (And.intro (HX.out.2.2.1.row hR #[.int .i64 fn, .slice a' fs ca', .slice b' fd cb']) HX.out.2.2.2)
    unfold At3 at hR
    clear HX
    go_wp2_with (first
      | (refine wpList_store_row rfl _ _ _ rfl (w.heap.size + 1) _ rfl rfl _ _ hR (by exact infoT) (by rfl) (all3 _ _ _ _ _ _ _) ?_))
    refine bodyPost_ret (Pau.results_ct rfl _ _ (w.heap.size + 1) _ _ _ _ rfl (setRow_heap _ _ _ _ _ _ hR) Tryd.underlying24 rfl (by exact infoT)) rfl ?_
    exact ⟨a', b', ca', cb', rfl, HY.out.1, below_setRow HY.out.2 (by omega) _⟩
  . have l1 := HZ1.out.lt
    have l2 := hb3.size
    have l3 := HB1.out.size
    have HX : Hid (At3 (((w4.setCell ⟨w1.heap.size, 0, none⟩ (.int .i64 fn)).setCell ⟨w1.heap.size, 1, none⟩ (.slice a' fs ca')).setCell ⟨w1.heap.size, 2, none⟩ (.slice b' fd cb')) w1.heap.size (.int .i64 fn) (.slice a' fs ca') (.slice b' fd cb') /\ At3 (((w4.setCell ⟨w1.heap.size, 0, none⟩ (.int .i64 fn)).setCell ⟨w1.heap.size, 1, none⟩ (.slice a' fs ca')).setCell ⟨w1.heap.size, 2, none⟩ (.slice b' fd cb')) (w.heap.size + 1) (.int .i64 0) (.slice none 0 0) (.slice none 0 0) /\ Th (((w4.setCell ⟨w1.heap.size, 0, none⟩ (.int .i64 fn)).setCell ⟨w1.heap.size, 1, none⟩ (.slice a' fs ca')).setCell ⟨w1.heap.size, 2, none⟩ (.slice b' fd cb')) F a' b' ca' cb' /\ Below w.heap.size w (((w4.setCell ⟨w1.heap.size, 0, none⟩ (.int .i64 fn)).setCell ⟨w1.heap.size, 1, none⟩ (.slice a' fs ca')).setCell ⟨w1.heap.size, 2, none⟩ (.slice b' fd cb'))) := hide ⟨zz4.set _ _ _, (set3_heap _ _ _ _ _ _ (by omega)).trans (HZ1.out.below hb4), hTh.off3 zz4 (fun _ hj => set3_heap _ _ _ _ _ _ hj), HBV.out _ (below_set3 hb4 _ _ _ (by omega))⟩
    clear hb3 hb4 q3 q4 hTh HSV HBV HD0 HD1 HC2 HC3 HA1 HZ1 HB1 zz4 z0 z1 z2 z3 zf l1 l2 l3
    generalize (((w4.setCell ⟨w1.heap.size, 0, none⟩ (.int .i64 fn)).setCell ⟨w1.heap.size, 1, none⟩ (.slice a' fs ca')).setCell ⟨w1.heap.size, 2, none⟩ (.slice b' fd cb')) = V at *
    generalize w1.heap.size = g9 at *
    obtain ⟨y0, y1, y2, y3⟩ := HX.out.1.cells
    have hR := HX.out.2.1
    have HY := hide (And.intro (HX.out.2.2.1.row hR #[.int .i64 fn, .slice a' fs ca', .slice b' fd cb']) HX.out.2.2.2)
    unfold At3 at hR
    clear HX
    go_wp2_with (first
      | (refine wpList_store_row rfl _ _ _ rfl (w.heap.size + 1) _ rfl rfl _ _ hR (by exact infoT) (by rfl) (all3 _ _ _ _ _ _ _) ?_))
    refine bodyPost_ret (Pau.results_ct rfl _ _ (w.heap.size + 1) _ _ _ _ rfl (setRow_heap _ _ _ _ _ _ hR) Tryd.underlying24 rfl (by exact infoT)) rfl ?_
    exact ⟨a', b', ca', cb', rfl, HY.out.1, below_setRow HY.out.2 (by omega) _⟩
theorem tProject (t : TT) (a b : Option Addr) (ca cb : Nat) (q v : Int) (w : World) (h : Th w t a b ca cb) :
    Calls Tryd.prog 21 #[tV t a b ca cb, .int .i64 q, .int .i64 v] w fun e w' => ∃ a' b' ca' cb', e = .returned (.tuple #[tV (prR t q v).1 a' b' ca' cb', .int .i64 (prR t q v).2]) /\ Th w' (prR t q v).1 a' b' ca' cb' /\ Below w.heap.size w w' := by
  by_cases hc : cqI t q = 0 /\ (v = 0 ∨ v = 1)
  . unfold prR
    rw [if_pos hc.1, if_pos hc.2]
    exact tProject_ok t a b ca cb q v hc.1 hc.2 w h
  . exact tProject_no t a b ca cb q v hc w h
end Go.Proofs.YtaggifpnamjghaaDoor.Tbl
