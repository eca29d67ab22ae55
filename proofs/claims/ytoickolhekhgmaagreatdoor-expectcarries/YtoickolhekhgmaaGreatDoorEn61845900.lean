import Derived.Test.YtoickolhekhgmaaGreatDoorEn738aaf72
namespace Go.Proofs.YtoickolhekhgmaaGreatDoor.Gt
end Go.Proofs.YtoickolhekhgmaaGreatDoor.Gt
namespace Go.Proofs.YtoickolhekhgmaaGreatDoor.Pau
end Go.Proofs.YtoickolhekhgmaaGreatDoor.Pau
set_option maxRecDepth 100000
set_option maxHeartbeats 4000000
namespace Go.Proofs.YtoickolhekhgmaaGreatDoor.Tbl
open Go.RowKit Go.Shelf Go.Proofs.YtoickolhekhgmaaGreatDoor.Pau Go.Proofs.YtoickolhekhgmaaGreatDoor.Gt
def tnB (p : P) : P -> Bool := fun s => !cmB s p
def lsI (t : TT) (p : P) : Nat := t.s.findIdx (tnB p)
def csI (t : TT) (p : P) : Int := if chB t = true then (if sgB p t.n = true then 0 else 2) else 140
theorem two34 (w : World) (a b c a1 b1 c1 d1 : Value) : At3 ((w.alloc (.cells #[a, b, c] 30)).alloc (.cells #[a1, b1, c1, d1] 27)) w.heap.size a b c /\ At4 ((w.alloc (.cells #[a, b, c] 30)).alloc (.cells #[a1, b1, c1, d1] 27)) (w.heap.size + 1) a1 b1 c1 d1 :=
  ⟨(At3.new w a b c).below (bnew _ _), by have := At4.new (w.alloc (.cells #[a, b, c] 30)) a1 b1 c1 d1; simpa using this⟩
theorem tCheckS (t : TT) (a b : Option Addr) (ca cb : Nat) (p : P) (hp : Wd p) (w : World) (h : Th w t a b ca cb) :
    Calls Tryz.prog 51 #[tV t a b ca cb, pV p] w fun e w' => e = .returned (.int .i64 (csI t p)) /\ Below w.heap.size w w' := by
  have HC1 := hide (fun W (hb : Below w.heap.size w W) => tCheck t a b ca cb W (h.below hb))
  have HC2 := hide (fun W => tSigned p hp t.n W)
  unfold chI at HC1
  unfold csI
  unfold tV at HC1 ⊢
  generalize chB t = r at *
  generalize sgB p t.n = s at *
  generalize t.s.length = ns at *
  generalize t.d.length = nd at *
  generalize t.n = n at *
  obtain ⟨pn, px, pz, pph⟩ := p
  unfold pV at HC2 ⊢
  simp only at HC2 ⊢
  obtain ⟨hA, hP⟩ := two34 w (.int .i64 n) (.slice a ns ca) (.slice b nd cb) (.int .i64 pn) (.int .u64 (px : Int)) (.int .u64 (pz : Int)) (.int .i64 pph)
  have HA0 := hide hA
  have HP0 := hide hP
  have HB0 := hide (bkp (bnew w (.cells #[.int .i64 n, .slice a ns ca, .slice b nd cb] 30)) (bnew _ (.cells #[.int .i64 pn, .int .u64 (px : Int), .int .u64 (pz : Int), .int .i64 pph] 27)))
  clear h hA hP hp
  cases r with
  | false =>
    simp only [Bool.false_eq_true, if_false] at HC1 ⊢
    go_enter Tryz.func51, Tryz.ntmps51
    go_wp2_with (first | (go_at_call 80; refine (HC1.out _ HB0.out).mono ?_; rintro e w1 ⟨rfl, hb1⟩; have HB1 := hide (bkp HB0.out hb1)))
    go_ret
    exact ⟨rfl, HB1.out⟩
  | true =>
    simp only [if_true] at HC1 ⊢
    cases s <;> simp only [if_true, Bool.false_eq_true, if_false]
    all_goals go_enter Tryz.func51, Tryz.ntmps51
    all_goals go_wp2_with (first
      | (go_at_call 80; refine (HC1.out _ HB0.out).mono ?_; rintro e w1 ⟨rfl, hb1⟩; have HB1 := hide (bkp HB0.out hb1); obtain ⟨x0, x1, x2, x3⟩ := (HA0.out.below hb1).cells; obtain ⟨y0, y1, y2, y3, y4⟩ := (HP0.out.below hb1).cells)
      | (go_at_call 81; refine (HC2.out _).mono ?_; rintro e w2 ⟨rfl, hb2⟩; have HB2 := hide (bkp HB1.out hb2)))
    all_goals go_ret
    all_goals exact ⟨rfl, HB2.out⟩
theorem cs_ok {t : TT} {p : P} (h : csI t p = 0) : chB t = true /\ szB t = true /\ sgB p t.n = true := by
  unfold csI at h
  split at h
  . rename_i hc
    split at h
    . rename_i hq
      exact ⟨hc, ch_size hc, hq⟩
    . cases h
  . cases h
def mbI (t : TT) (p : P) : Int := if csI t p = 0 then memI t p else 0
theorem tMemberP (t : TT) (a b : Option Addr) (ca cb : Nat) (p : P) (hp : Wd p) (w : World) (h : Th w t a b ca cb) :
    Calls Tryz.prog 19 #[tV t a b ca cb, pV p] w fun e w' => e = .returned (.tuple #[.int .i64 (mbI t p), .int .i64 (csI t p)]) /\ Below w.heap.size w w' := by
  have HC1 := hide (fun W (hb : Below w.heap.size w W) => tCheckS t a b ca cb p hp W (h.below hb))
  have HC2 := hide (fun W (hb : Below w.heap.size w W) (hz : szB t = true) => tMember t a b ca cb hz p hp W (h.below hb))
  unfold mbI
  obtain ⟨hA, hP⟩ := two34 w (.int .i64 t.n) (.slice a t.s.length ca) (.slice b t.d.length cb) (.int .i64 p.n) (.int .u64 (p.x : Int)) (.int .u64 (p.z : Int)) (.int .i64 p.ph)
  have HA0 := hide hA
  have HP0 := hide hP
  have HB0 := hide (bkp (bnew w (.cells #[.int .i64 t.n, .slice a t.s.length ca, .slice b t.d.length cb] 30)) (bnew _ (.cells #[.int .i64 p.n, .int .u64 (p.x : Int), .int .u64 (p.z : Int), .int .i64 p.ph] 27)))
  clear hA hP
  by_cases hc : csI t p = 0
  . rw [if_pos hc]
    have hz := (cs_ok hc).2.1
    rw [hc] at HC1 ⊢
    have HC3 := hide (fun W hb => HC2.out W hb hz)
    unfold tV at HC1 HC3 ⊢
    generalize memI t p = m at *
    obtain ⟨pn, px, pz, pph⟩ := p
    unfold pV at HC1 HC3 ⊢
    simp only at *
    generalize t.s.length = ns at *
    generalize t.d.length = nd at *
    generalize t.n = n at *
    clear h hc hz HC2 hp
    go_enter Tryz.func19, Tryz.ntmps19
    go_wp2_with (first
      | (go_at_call 51; refine (HC1.out _ HB0.out).mono ?_; rintro e w1 ⟨rfl, hb1⟩; have HB1 := hide (bkp HB0.out hb1); obtain ⟨x0, x1, x2, x3⟩ := (HA0.out.below hb1).cells; obtain ⟨y0, y1, y2, y3, y4⟩ := (HP0.out.below hb1).cells)
      | (go_at_call 52; refine (HC3.out _ HB1.out).mono ?_; rintro e w2 ⟨rfl, hb2⟩; have HB2 := hide (bkp HB1.out hb2)))
    go_ret2
    exact ⟨rfl, HB2.out⟩
  . rw [if_neg hc]
    have d1 : (csI t p != 0) = true := bne_iff_ne.2 hc
    unfold tV at HC1 ⊢
    generalize csI t p = c at *
    obtain ⟨pn, px, pz, pph⟩ := p
    unfold pV at HC1 ⊢
    simp only at *
    generalize t.s.length = ns at *
    generalize t.d.length = nd at *
    generalize t.n = n at *
    clear h hc HC2 hp
    go_enter Tryz.func19, Tryz.ntmps19
    go_wp2_with (first | (go_at_call 51; refine (HC1.out _ HB0.out).mono ?_; rintro e w1 ⟨rfl, hb1⟩; have HB1 := hide (bkp HB0.out hb1)))
    go_ret2
    exact ⟨rfl, HB1.out⟩
end Go.Proofs.YtoickolhekhgmaaGreatDoor.Tbl
