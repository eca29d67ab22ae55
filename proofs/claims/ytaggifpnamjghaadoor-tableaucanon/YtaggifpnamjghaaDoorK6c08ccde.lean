import Derived.Test.YtaggifpnamjghaaDoorK92ccc9d5
set_option maxRecDepth 100000
set_option maxHeartbeats 4000000
namespace Go.Proofs.YtaggifpnamjghaaDoor.Tbl
open Go.RowKit Go.Shelf Go.Proofs.YtaggifpnamjghaaDoor.Pau Go.Proofs.YtaggifpnamjghaaDoor.Gt
def cqI (t : TT) (q : Int) : Int := if chB t = true then (if 0 <= q /\ q < t.n then 0 else 2) else 140
def csI (t : TT) (p : P) : Int := if chB t = true then (if sgB p t.n = true then 0 else 2) else 140
theorem tCheckQ (t : TT) (a b : Option Addr) (ca cb : Nat) (q : Int) (w : World) (h : Th w t a b ca cb) :
    Calls Tryd.prog 45 #[tV t a b ca cb, .int .i64 q] w fun e w' => e = .returned (.int .i64 (cqI t q)) /\ Below w.heap.size w w' := by
  have HC1 := hide (fun W (hb : Below w.heap.size w W) => tCheck t a b ca cb W (h.below hb))
  unfold chI at HC1
  unfold cqI
  unfold tV at HC1 ⊢
  generalize chB t = r at *
  generalize t.s.length = ns at *
  generalize t.d.length = nd at *
  generalize t.n = n at *
  have HB0 := hide (bnew w (.cells #[.int .i64 n, .slice a ns ca, .slice b nd cb] 24))
  have HA0 := hide (At3.new w (.int .i64 n) (.slice a ns ca) (.slice b nd cb))
  clear h
  cases r with
  | false =>
    simp only [Bool.false_eq_true, if_false] at HC1 ⊢
    go_enter Tryd.func45, Tryd.ntmps45
    go_wp2_with (first | (go_at_call 6; refine (HC1.out _ HB0.out).mono ?_; rintro e w1 ⟨rfl, hb1⟩; have HB1 := hide (bkp HB0.out hb1)))
    go_ret
    exact ⟨rfl, HB1.out⟩
  | true =>
    simp only [if_true] at HC1 ⊢
    by_cases h1 : q < 0
    . rw [if_neg (by omega)]
      have d1 : decide (q < 0) = true := decide_eq_true h1
      go_enter Tryd.func45, Tryd.ntmps45
      go_wp2_with (first | (go_at_call 6; refine (HC1.out _ HB0.out).mono ?_; rintro e w1 ⟨rfl, hb1⟩; have HB1 := hide (bkp HB0.out hb1)))
      go_ret
      exact ⟨rfl, HB1.out⟩
    . have d1 : decide (q < 0) = false := decide_eq_false h1
      by_cases h2 : q < n
      . rw [if_pos (by omega)]
        have d2 : decide (n <= q) = false := decide_eq_false (by omega)
        go_enter Tryd.func45, Tryd.ntmps45
        go_wp2_with (first | (go_at_call 6; refine (HC1.out _ HB0.out).mono ?_; rintro e w1 ⟨rfl, hb1⟩; have HB1 := hide (bkp HB0.out hb1); obtain ⟨x0, x1, x2, x3⟩ := (HA0.out.below hb1).cells))
        go_ret
        exact ⟨rfl, HB1.out⟩
      . rw [if_neg (by omega)]
        have d2 : decide (n <= q) = true := decide_eq_true (by omega)
        go_enter Tryd.func45, Tryd.ntmps45
        go_wp2_with (first | (go_at_call 6; refine (HC1.out _ HB0.out).mono ?_; rintro e w1 ⟨rfl, hb1⟩; have HB1 := hide (bkp HB0.out hb1); obtain ⟨x0, x1, x2, x3⟩ := (HA0.out.below hb1).cells))
        go_ret
        exact ⟨rfl, HB1.out⟩
theorem two34 (w : World) (a b c a1 b1 c1 d1 : Value) : At3 ((w.alloc (.cells #[a, b, c] 24)).alloc (.cells #[a1, b1, c1, d1] 32)) w.heap.size a b c /\ At4 ((w.alloc (.cells #[a, b, c] 24)).alloc (.cells #[a1, b1, c1, d1] 32)) (w.heap.size + 1) a1 b1 c1 d1 :=
  ⟨(At3.new w a b c).below (bnew _ _), by have := At4.new (w.alloc (.cells #[a, b, c] 24)) a1 b1 c1 d1; simpa using this⟩
theorem tCheckS (t : TT) (a b : Option Addr) (ca cb : Nat) (p : P) (hp : Wd p) (w : World) (h : Th w t a b ca cb) :
    Calls Tryd.prog 31 #[tV t a b ca cb, pV p] w fun e w' => e = .returned (.int .i64 (csI t p)) /\ Below w.heap.size w w' := by
  have HC1 := hide (fun W (hb : Below w.heap.size w W) => tCheck t a b ca cb W (h.below hb))
  have HC2 := hide (fun W => tSigned p hp t.n W)
  unfold chI at HC1
  unfold csI
  unfold tV at HC1 ⊢
  generalize chB t = r at *
  generalize sgB p t.n = s at *
  generalize t.s.length = ns at *
  generalize t.d.length = nd at *
  generalize t.n = n at *
  obtain ⟨pn, px, pz, pph⟩ := p
  unfold pV at HC2 ⊢
  simp only at HC2 ⊢
  obtain ⟨hA, hP⟩ := two34 w (.int .i64 n) (.slice a ns ca) (.slice b nd cb) (.int .i64 pn) (.int .u64 (px : Int)) (.int .u64 (pz : Int)) (.int .i64 pph)
  have HA0 := hide hA
  have HP0 := hide hP
  have HB0 := hide (bkp (bnew w (.cells #[.int .i64 n, .slice a ns ca, .slice b nd cb] 24)) (bnew _ (.cells #[.int .i64 pn, .int .u64 (px : Int), .int .u64 (pz : Int), .int .i64 pph] 32)))
  clear h hA hP hp
  cases r with
  | false =>
    simp only [Bool.false_eq_true, if_false] at HC1 ⊢
    go_enter Tryd.func31, Tryd.ntmps31
    go_wp2_with (first | (go_at_call 6; refine (HC1.out _ HB0.out).mono ?_; rintro e w1 ⟨rfl, hb1⟩; have HB1 := hide (bkp HB0.out hb1)))
    go_ret
    exact ⟨rfl, HB1.out⟩
  | true =>
    simp only [if_true] at HC1 ⊢
    cases s <;> simp only [if_true, Bool.false_eq_true, if_false]
    all_goals go_enter Tryd.func31, Tryd.ntmps31
    all_goals go_wp2_with (first
      | (go_at_call 6; refine (HC1.out _ HB0.out).mono ?_; rintro e w1 ⟨rfl, hb1⟩; have HB1 := hide (bkp HB0.out hb1); obtain ⟨x0, x1, x2, x3⟩ := (HA0.out.below hb1).cells; obtain ⟨y0, y1, y2, y3, y4⟩ := (HP0.out.below hb1).cells)
      | (go_at_call 16; refine (HC2.out _).mono ?_; rintro e w2 ⟨rfl, hb2⟩; have HB2 := hide (bkp HB1.out hb2)))
    all_goals go_ret
    all_goals exact ⟨rfl, HB2.out⟩
def lzP (n : Int) (q : Nat) (v : Int) : P := ⟨n, 0, 2 ^ q, 2 * v⟩
theorem tLetterZ (n : Int) (q : Nat) (hq : q < 64) (v : Int) (h0 : 0 <= v) (h1 : v <= 1) (w : World) :
    Calls Tryd.prog 47 #[.int .i64 n, .int .i64 (q : Int), .int .i64 v] w fun e w' => e = .returned (pV (lzP n q v)) /\ Below w.heap.size w w' := by
  have e1 := shl_one q hq
  have e2 : IntKind.i64.wrap (2 * v) = 2 * v := by rw [wrapI]; omega
  have e3 : wrap64 (2 * v) = 2 * v := by unfold wrap64; omega
  have HB0 := hide (bnew w (.cells #[.int .i64 0, .int .u64 0, .int .u64 0, .int .i64 0] 32))
  have hR := At4.new w (.int .i64 0) (.int .u64 0) (.int .u64 0) (.int .i64 0)
  unfold lzP pV
  simp only at *
  unfold At4 at hR
  go_enter Tryd.func47, Tryd.ntmps47
  go_wp2_with (first
    | (refine wpList_store_row rfl _ _ _ rfl w.heap.size _ rfl rfl _ _ hR (by exact infoP) (by rfl) (allP _ _ _ _) ?_))
  refine bodyPost_ret (results_c rfl _ _ w.heap.size _ _ _ _ rfl (setRow_heap _ _ _ _ _ _ hR) Tryd.underlying32 rfl (by exact infoP)) rfl ?_
  exact ⟨rfl, below_setRow HB0.out (by omega) _⟩
theorem wd_lz (n : Int) {q : Nat} (hq : q < 64) (v : Int) : Wd (lzP n q v) := ⟨(by decide : (0 : Nat) < 18446744073709551616), pow_lt64 hq⟩
def odI (t : TT) (q : Int) : Int := if cqI t q = 0 then (if memI t (lzP t.n q.toNat 0) = 1 then 0 else if memI t (lzP t.n q.toNat 0) = -1 then 1 else 2) else 0
theorem cq_ok {t : TT} {q : Int} (h : cqI t q = 0) : chB t = true /\ 0 <= q /\ q < t.n /\ q.toNat < 64 /\ szB t = true := by
  unfold cqI at h
  split at h
  . rename_i hc
    split at h
    . rename_i hq
      have := sz_of (ch_size hc)
      exact ⟨hc, hq.1, hq.2, by omega, ch_size hc⟩
    . cases h
  . cases h
theorem tOdds (t : TT) (a b : Option Addr) (ca cb : Nat) (q : Int) (w : World) (h : Th w t a b ca cb) :
    Calls Tryd.prog 20 #[tV t a b ca cb, .int .i64 q] w fun e w' => e = .returned (.tuple #[.int .i64 (odI t q), .int .i64 (cqI t q)]) /\ Below w.heap.size w w' := by
  have HC1 := hide (fun W (hb : Below w.heap.size w W) => tCheckQ t a b ca cb q W (h.below hb))
  unfold odI
  have HB0 := hide (bnew w (.cells #[.int .i64 t.n, .slice a t.s.length ca, .slice b t.d.length cb] 24))
  have HA0 := hide (At3.new w (.int .i64 t.n) (.slice a t.s.length ca) (.slice b t.d.length cb))
  by_cases hc : cqI t q = 0
  . rw [if_pos hc]
    rw [hc] at HC1 ⊢
    obtain ⟨-, q0, q1, q64, hz⟩ := cq_ok hc
    obtain ⟨k, rfl⟩ : ∃ k : Nat, q = (k : Int) := ⟨q.toNat, by omega⟩
    rw [Int.toNat_natCast] at q64 ⊢
    have HC2 := hide (fun W => tLetterZ t.n k q64 0 (by decide) (by decide) W)
    have HC3 := hide (fun W (hb : Below w.heap.size w W) => tMember t a b ca cb hz (lzP t.n k 0) (wd_lz _ q64 _) W (h.below hb))
    have hm := mem_three t (lzP t.n k 0)
    unfold tV at HC1 HC3 ⊢
    generalize memI t (lzP t.n k 0) = m at *
    generalize hlz : lzP t.n k 0 = z at *
    generalize t.s.length = ns at *
    generalize t.d.length = nd at *
    generalize t.n = n at *
    obtain ⟨zn, zx, zz, zp⟩ := z
    unfold pV at HC2 HC3
    simp only at HC2 HC3
    clear h hlz hc hz q0 q1
    go_enter Tryd.func20, Tryd.ntmps20
    go_wp2_with fail
    refine (HC1.out _ HB0.out).mono ?_
    rintro e w1 ⟨rfl, hb1⟩
    have HB1 := hide (bkp HB0.out hb1)
    have HA1 := hide (HA0.out.below hb1)
    clear hb1 HB0 HA0 HC1
    obtain ⟨x0, x1, x2, x3⟩ := HA1.out.cells
    go_wp2_with fail
    have HCC : Hid (∀ W, Below w1.heap.size w1 W -> (W.cell? ⟨w.heap.size, 0, none⟩ = some (.int .i64 n) /\ W.cell? ⟨w.heap.size, 1, none⟩ = some (.slice a ns ca) /\ W.cell? ⟨w.heap.size, 2, none⟩ = some (.slice b nd cb) /\ w.heap.size < W.heap.size)) := hide (fun W hW => (HA1.out.below hW).cells)
    have HBW : Hid (∀ W, Below w1.heap.size w1 W -> Below w.heap.size w W) := hide (fun W hW => bkp HB1.out hW)
    refine wp_region_quiet_C (C := fun W => Below w1.heap.size w1 W) (by kernel_rfl) (by kernel_rfl) (bdrew (Below.refl _ _) 1) ?_
    refine unhideP ?_
    repeat
      refine wpQuiet_stepH (fun K hK => ?_)
      go_simp
      first
        | (refine hK _ ?_; clear hK K)
        | (apply Exists.intro
           refine ⟨fun W hW => ?_, hK _ ?_⟩
           first
             | ((with_reducible refine Calls.mono (HC2.out _) ?_); rintro e x ⟨rfl, hb⟩; exact ⟨rfl, bkp hW hb⟩)
             | ((with_reducible refine Calls.mono (HC3.out _ (HBW.out W hW)) ?_); rintro e x ⟨rfl, hb⟩; exact ⟨rfl, bkp hW hb⟩)
             | (obtain ⟨p0, p1, p2, p3⟩ := HCC.out W hW; go_simp; rfl)
           clear hK K)
    refine wpQuiet_nilH ?_
    intro W hW
    have HF := hide (HBW.out W hW)
    clear hW HCC HBW HA1 HB1 x0 x1 x2 x3 HC2 HC3
    rcases hm with rfl | rfl | rfl
    . go_wp2_with fail
      go_ret2
      exact ⟨by first | rfl | simp, HF.out⟩
    . go_wp2_with fail
      go_ret2
      exact ⟨by first | rfl | simp, HF.out⟩
    . go_wp2_with fail
      go_ret2
      exact ⟨by first | rfl | simp, HF.out⟩
  . rw [if_neg hc]
    have d1 : (cqI t q != 0) = true := bne_iff_ne.2 hc
    unfold tV at HC1 ⊢
    generalize cqI t q = c at *
    generalize t.s.length = ns at *
    generalize t.d.length = nd at *
    generalize t.n = n at *
    clear h hc
    go_enter Tryd.func20, Tryd.ntmps20
    go_wp2_with (first | (go_at_call 45; refine (HC1.out _ HB0.out).mono ?_; rintro e w1 ⟨rfl, hb1⟩; have HB1 := hide (bkp HB0.out hb1)))
    go_ret2
    exact ⟨rfl, HB1.out⟩
theorem cs_ok {t : TT} {p : P} (h : csI t p = 0) : chB t = true /\ szB t = true /\ sgB p t.n = true := by
  unfold csI at h
  split at h
  . rename_i hc
    split at h
    . rename_i hq
      exact ⟨hc, ch_size hc, hq⟩
    . cases h
  . cases h
def mbI (t : TT) (p : P) : Int := if csI t p = 0 then memI t p else 0
theorem tMemberP (t : TT) (a b : Option Addr) (ca cb : Nat) (p : P) (hp : Wd p) (w : World) (h : Th w t a b ca cb) :
    Calls Tryd.prog 24 #[tV t a b ca cb, pV p] w fun e w' => e = .returned (.tuple #[.int .i64 (mbI t p), .int .i64 (csI t p)]) /\ Below w.heap.size w w' := by
  have HC1 := hide (fun W (hb : Below w.heap.size w W) => tCheckS t a b ca cb p hp W (h.below hb))
  have HC2 := hide (fun W (hb : Below w.heap.size w W) (hz : szB t = true) => tMember t a b ca cb hz p hp W (h.below hb))
  unfold mbI
  obtain ⟨hA, hP⟩ := two34 w (.int .i64 t.n) (.slice a t.s.length ca) (.slice b t.d.length cb) (.int .i64 p.n) (.int .u64 (p.x : Int)) (.int .u64 (p.z : Int)) (.int .i64 p.ph)
  have HA0 := hide hA
  have HP0 := hide hP
  have HB0 := hide (bkp (bnew w (.cells #[.int .i64 t.n, .slice a t.s.length ca, .slice b t.d.length cb] 24)) (bnew _ (.cells #[.int .i64 p.n, .int .u64 (p.x : Int), .int .u64 (p.z : Int), .int .i64 p.ph] 32)))
  clear hA hP
  by_cases hc : csI t p = 0
  . rw [if_pos hc]
    have hz := (cs_ok hc).2.1
    rw [hc] at HC1 ⊢
    have HC3 := hide (fun W hb => HC2.out W hb hz)
    unfold tV at HC1 HC3 ⊢
    generalize memI t p = m at *
    obtain ⟨pn, px, pz, pph⟩ := p
    unfold pV at HC1 HC3 ⊢
    simp only at *
    generalize t.s.length = ns at *
    generalize t.d.length = nd at *
    generalize t.n = n at *
    clear h hc hz HC2 hp
    go_enter Tryd.func24, Tryd.ntmps24
    go_wp2_with (first
      | (go_at_call 31; refine (HC1.out _ HB0.out).mono ?_; rintro e w1 ⟨rfl, hb1⟩; have HB1 := hide (bkp HB0.out hb1); obtain ⟨x0, x1, x2, x3⟩ := (HA0.out.below hb1).cells; obtain ⟨y0, y1, y2, y3, y4⟩ := (HP0.out.below hb1).cells)
      | (go_at_call 46; refine (HC3.out _ HB1.out).mono ?_; rintro e w2 ⟨rfl, hb2⟩; have HB2 := hide (bkp HB1.out hb2)))
    go_ret2
    exact ⟨rfl, HB2.out⟩
  . rw [if_neg hc]
    have d1 : (csI t p != 0) = true := bne_iff_ne.2 hc
    unfold tV at HC1 ⊢
    generalize csI t p = c at *
    obtain ⟨pn, px, pz, pph⟩ := p
    unfold pV at HC1 ⊢
    simp only at *
    generalize t.s.length = ns at *
    generalize t.d.length = nd at *
    generalize t.n = n at *
    clear h hc HC2 hp
    go_enter Tryd.func24, Tryd.ntmps24
    go_wp2_with (first | (go_at_call 31; refine (HC1.out _ HB0.out).mono ?_; rintro e w1 ⟨rfl, hb1⟩; have HB1 := hide (bkp HB0.out hb1)))
    go_ret2
    exact ⟨rfl, HB1.out⟩
end Go.Proofs.YtaggifpnamjghaaDoor.Tbl
