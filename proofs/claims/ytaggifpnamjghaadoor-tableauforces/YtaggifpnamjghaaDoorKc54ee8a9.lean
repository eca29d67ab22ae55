import Derived.Test.YtaggifpnamjghaaDoorK0e8f2147
set_option maxRecDepth 100000
set_option maxHeartbeats 4000000
namespace Go.Proofs.YtaggifpnamjghaaDoor.Tbl
open Go.RowKit Go.Shelf Go.Proofs.YtaggifpnamjghaaDoor.Pau Go.Proofs.YtaggifpnamjghaaDoor.Gt
def fpR (t : TT) (p : P) : TT × Int × Int := if csI t p = 0 then frR t p else (zrT, 0, csI t p)
theorem cs_three (t : TT) (p : P) : csI t p = 0 ∨ csI t p = 2 ∨ csI t p = 140 := by
  unfold csI
  split
  . split
    . exact .inl rfl
    . exact .inr (.inl rfl)
  . exact .inr (.inr rfl)
theorem tForceP (t : TT) (a b : Option Addr) (ca cb : Nat) (p : P) (hp : Wd p) (w : World) (h : Th w t a b ca cb) :
    Calls Tryd.prog 11 #[tV t a b ca cb, pV p] w fun e w' => ∃ a' b' ca' cb', e = .returned (.tuple #[tV (fpR t p).1 a' b' ca' cb', .int .i64 (fpR t p).2.1, .int .i64 (fpR t p).2.2]) /\ Th w' (fpR t p).1 a' b' ca' cb' /\ Below w.heap.size w w' := by
  have HC1 := hide (fun W (hb : Below w.heap.size w W) => tCheckS t a b ca cb p hp W (h.below hb))
  have HC2 := hide (fun W (hb : Below w.heap.size w W) (hz : szB t = true) => tForce t a b ca cb hz p hp W (h.below hb))
  obtain ⟨hA, hP, hZ⟩ := three343 w (.int .i64 t.n) (.slice a t.s.length ca) (.slice b t.d.length cb) (.int .i64 p.n) (.int .u64 (p.x : Int)) (.int .u64 (p.z : Int)) (.int .i64 p.ph) (.int .i64 0) (.slice none 0 0) (.slice none 0 0)
  have HA := hide hA
  have HP := hide hP
  have HZ := hide hZ
  have HB0 := hide (bkp (bkp (bnew w (.cells #[.int .i64 t.n, .slice a t.s.length ca, .slice b t.d.length cb] 24)) (bnew _ (.cells #[.int .i64 p.n, .int .u64 (p.x : Int), .int .u64 (p.z : Int), .int .i64 p.ph] 32))) (bnew _ (.cells #[.int .i64 0, .slice none 0 0, .slice none 0 0] 24)))
  clear hA hP hZ h
  unfold fpR
  by_cases hcs : csI t p = 0
  . rw [if_pos hcs]
    rw [hcs] at HC1
    have hz := (cs_ok hcs).2.1
    have HC3 := hide (fun W hb => HC2.out W hb hz)
    generalize hF : frR t p = F at *
    obtain ⟨F, f1, f2⟩ := F
    unfold tV at HC1 HC3 ⊢
    clear HC2 hF hcs hz hp
    obtain ⟨pn, px, pz, pph⟩ := p
    unfold pV at HC1 HC3 ⊢
    simp only at *
    generalize t.s.length = ns at *
    generalize t.d.length = nd at *
    generalize t.n = n at *
    generalize F.n = fn at *
    generalize hfs : F.s.length = fs at *
    generalize hfd : F.d.length = fd at *
    clear hfs hfd
    go_enter Tryd.func11, Tryd.ntmps11
    go_wp2_with fail
    refine (HC1.out _ HB0.out).mono ?_
    rintro e w1 ⟨rfl, hb1⟩
    have HB1 := hide (bkp HB0.out hb1)
    have HA1 := hide (HA.out.below hb1)
    have HP1 := hide (HP.out.below hb1)
    have HZ1 := hide (HZ.out.below hb1)
    clear hb1 HA HP HZ HB0 HC1
    obtain ⟨x0, x1, x2, x3⟩ := HA1.out.cells
    obtain ⟨y0, y1, y2, y3, y4⟩ := HP1.out.cells
    go_wp2_with fail
    refine (HC3.out _ HB1.out).mono ?_
    rintro e w2 ⟨a', b', ca', cb', rfl, hTh, hb2⟩
    have hR := HZ1.out.below hb2
    have HX := hide (And.intro (hTh.row hR #[.int .i64 fn, .slice a' fs ca', .slice b' fd cb']) (bkp HB1.out hb2))
    clear hTh hb2 HA1 HZ1 HP1 HC3 x0 x1 x2 x3 y0 y1 y2 y3 y4
    unfold At3 at hR
    go_wp2_with (first
      | (refine wpList_store_row rfl _ _ _ rfl (w.heap.size + 1 + 1) _ rfl rfl _ _ hR (by exact infoT) (by rfl) (all3 _ _ _ _ _ _ _) ?_))
    refine bodyPost_ret (results_ctt rfl _ _ (w.heap.size + 1 + 1) _ _ _ _ rfl (setRow_heap _ _ _ _ _ _ hR) Tryd.underlying24 rfl (by exact infoT)) rfl ?_
    exact ⟨a', b', ca', cb', rfl, HX.out.1, below_setRow HX.out.2 (by omega) _⟩
  . rw [if_neg hcs]
    have HZT := hide th_zero
    have h2 : csI t p = 2 ∨ csI t p = 140 := by have := cs_three t p; omega
    unfold tV at HC1 ⊢
    unfold zrT at HZT ⊢
    clear HC2 hcs hp
    generalize csI t p = c at *
    obtain ⟨pn, px, pz, pph⟩ := p
    unfold pV at HC1 ⊢
    simp only [List.length_nil] at *
    generalize t.s.length = ns at *
    generalize t.d.length = nd at *
    generalize t.n = n at *
    rcases h2 with rfl | rfl
    all_goals (
      go_enter Tryd.func11, Tryd.ntmps11
      go_wp2_with fail
      refine (HC1.out _ HB0.out).mono ?_
      rintro e w1 ⟨rfl, hb1⟩
      have HB1 := hide (bkp HB0.out hb1)
      have hR := HZ.out.below hb1
      clear hb1 HA HP HZ HB0 HC1
      unfold At3 at hR
      go_wp2_with (first
        | (refine wpList_store_row rfl _ _ _ rfl (w.heap.size + 1 + 1) _ rfl rfl _ _ hR (by exact infoT) (by rfl) (all3 _ _ _ _ _ _ _) ?_))
      refine bodyPost_ret (results_ctt rfl _ _ (w.heap.size + 1 + 1) _ _ _ _ rfl (setRow_heap _ _ _ _ _ _ hR) Tryd.underlying24 rfl (by exact infoT)) rfl ?_
      exact ⟨none, none, 0, 0, rfl, HZT.out _, below_setRow HB1.out (by omega) _⟩)
end Go.Proofs.YtaggifpnamjghaaDoor.Tbl
