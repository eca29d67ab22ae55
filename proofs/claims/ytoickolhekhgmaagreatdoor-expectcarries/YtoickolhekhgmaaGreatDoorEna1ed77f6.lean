import Derived.Test.YtoickolhekhgmaaGreatDoorEnaf8d4c81
namespace Go.Proofs.YtoickolhekhgmaaGreatDoor.Gt
end Go.Proofs.YtoickolhekhgmaaGreatDoor.Gt
namespace Go.Proofs.YtoickolhekhgmaaGreatDoor.Pau
end Go.Proofs.YtoickolhekhgmaaGreatDoor.Pau
set_option maxRecDepth 100000
set_option maxHeartbeats 8000000
namespace Go.Proofs.YtoickolhekhgmaaGreatDoor.Tbl
open Go.RowKit Go.Shelf Go.Proofs.YtoickolhekhgmaaGreatDoor.Pau Go.Proofs.YtoickolhekhgmaaGreatDoor.Gt
theorem dTimes (a b : P) (ha : Wd a) (hb : Wd b) (w : World) : Calls Tryz.prog 54 #[pV a, pV b] w fun e w' => e = .returned (pV (pdP a b)) /\ Below w.heap.size w w' := by
  have c1 := fun W => dMul a b ha hb W
  unfold pdP
  generalize mulR a b = r at *
  obtain ⟨⟨rn, rx, rz, rp⟩, re⟩ := r
  obtain ⟨n, x, z, ph⟩ := a
  obtain ⟨n', x', z', ph'⟩ := b
  unfold pV at *
  simp only at *
  obtain ⟨-, -, HA2⟩ := At4.three w (.int .i64 n) (.int .u64 (x : Int)) (.int .u64 (z : Int)) (.int .i64 ph) (.int .i64 n') (.int .u64 (x' : Int)) (.int .u64 (z' : Int)) (.int .i64 ph') (.int .i64 0) (.int .u64 0) (.int .u64 0) (.int .i64 0)
  have HAh2 := hide HA2
  have HB := hide (bkp (bkp (bnew w (.cells #[.int .i64 n, .int .u64 (x : Int), .int .u64 (z : Int), .int .i64 ph] 27)) (bnew _ (.cells #[.int .i64 n', .int .u64 (x' : Int), .int .u64 (z' : Int), .int .i64 ph'] 27))) (bnew _ (.cells #[.int .i64 0, .int .u64 0, .int .u64 0, .int .i64 0] 27)))
  clear HA2 ha hb
  go_enter Tryz.func54, Tryz.ntmps54
  go_wp2_with fail
  refine (c1 _).mono ?_
  rintro e w1 ⟨rfl, hb1⟩
  have hbn := bnew w1 (.cells #[.int .i64 rn, .int .u64 (rx : Int), .int .u64 (rz : Int), .int .i64 rp] 27)
  have HB1 := hide (bkp (bkp HB.out hb1) hbn)
  have hR := (HAh2.out.below hb1).below hbn
  clear hb1 HAh2 hbn
  unfold At4 at hR
  go_wp2_with (first
    | (refine wpList_store_row rfl _ _ _ rfl (w.heap.size + 1 + 1) _ rfl rfl _ _ hR (by exact infoP) (by rfl) (allP _ _ _ _) ?_))
  refine bodyPost_ret (results_c rfl _ _ (w.heap.size + 1 + 1) _ _ _ _ rfl (setRow_heap _ _ _ _ _ _ hR) Tryz.underlying27 rfl (by exact infoP)) rfl ?_
  exact ⟨rfl, below_setRow HB1.out (by omega) _⟩
def loI (t : TT) (p : P) : Int := if lsB t p = true then (lsI t p : Int) else -1
theorem lo_at {t : TT} {N : Nat} (hc : chB t = true) (hN : t.n = (N : Int)) {p : P} (hp : Rr N p) {i : Nat} (hi : i < N) (h0 : ∀ j, j < i -> comB (t.s.getD j oP) p = true) (h1 : comB (t.s.getD i oP) p = false) : loI t p = (i : Int) := by
  obtain ⟨-, -, hls, -⟩ := sz_of (ch_size hc)
  rw [hN, Int.toNat_natCast] at hls
  have hr := fun j (hj : j < N) => (sg_rr hN ((ch_iff.1 hc).2.1 j (by rw [hN]; omega))).1
  have hT : ∀ j, j < N -> tnB p (t.s.getD j oP) = !comB (t.s.getD j oP) p := fun j hj => by unfold tnB; rw [cm_eq (hr j hj) hp]
  have hany : lsB t p = true := List.any_eq_true.2 ⟨t.s.getD i oP, List.mem_of_getElem? (get_of (by omega)), by have := hT i hi; unfold tnB at this; rw [this, h1]; rfl⟩
  unfold loI lsI
  rw [if_pos hany]
  congr 1
  rw [List.findIdx_eq (by omega)]
  have hg : ∀ j (hj : j < t.s.length), t.s[j] = t.s.getD j oP := fun j hj => by
    have := get_of hj
    rw [List.getElem?_eq_getElem hj] at this
    exact Option.some.inj this
  refine ⟨by rw [hg, hT i hi, h1]; rfl, fun j hj => ?_⟩
  rw [hg j (by omega), hT j (by omega), h0 j hj]
  rfl
theorem lo_no {t : TT} {N : Nat} (hc : chB t = true) (hN : t.n = (N : Int)) {p : P} (hp : Rr N p) (h0 : ∀ j, j < N -> comB (t.s.getD j oP) p = true) : loI t p = -1 := by
  obtain ⟨-, -, hls, -⟩ := sz_of (ch_size hc)
  rw [hN, Int.toNat_natCast] at hls
  have hr := fun j (hj : j < N) => (sg_rr hN ((ch_iff.1 hc).2.1 j (by rw [hN]; omega))).1
  have hany : lsB t p = false := by
    unfold lsB
    rw [List.any_eq_false]
    intro x hx
    obtain ⟨j, hj⟩ := List.getElem?_of_mem hx
    have hl := (List.getElem?_eq_some_iff.1 hj).1
    have e := get_of hl
    rw [hj] at e
    cases e
    rw [cm_eq (hr j (by omega)) hp, h0 j (by omega)]
    decide
  unfold loI
  rw [hany]
  rfl
theorem dLoose (t : TT) (a b : Option Addr) (ca cb : Nat) (hc : chB t = true) (p : P) (N : Nat) (hN : t.n = (N : Int)) (hp : Rr N p) (w : World) (h : Th w t a b ca cb) :
    Calls Tryz.prog 22 #[tV t a b ca cb, pV p] w fun e w' => e = .returned (.int .i64 (loI t p)) /\ Below w.heap.size w w' := by
  obtain ⟨h0, h64, hls, hld⟩ := sz_of (ch_size hc)
  rw [hN, Int.toNat_natCast] at hls hld
  have hN64 : N <= 64 := by omega
  have HG : Hid (∀ k, k < N -> ∀ W, Below w.heap.size w W -> (∃ gs os, a = some ⟨gs, os, none⟩ /\ gs < W.heap.size /\ Pc W gs (os + k * 4) (t.s.getD k oP))) := hide (fun k hk W hb => (h.s.below hb).at (get_of (by omega)))
  have HCM : Hid (∀ k, k < N -> ∀ W, Calls Tryz.prog 53 #[pV (t.s.getD k oP), pV p] W fun e w' => e = .returned (.bool (comB (t.s.getD k oP) p)) /\ Below W.heap.size W w') := hide (fun k hk W => dCommute14 _ _ (h.ws.getD (by omega)) hp.wd W)
  have HAT : Hid (∀ i, i < N -> (∀ j, j < i -> comB (t.s.getD j oP) p = true) -> comB (t.s.getD i oP) p = false -> loI t p = (i : Int)) := hide (fun i hi h0 h1 => lo_at hc hN hp hi h0 h1)
  have HNO : Hid ((∀ j, j < N -> comB (t.s.getD j oP) p = true) -> loI t p = -1) := hide (fun h0 => lo_no hc hN hp h0)
  obtain ⟨hA, hP⟩ := two34 w (.int .i64 t.n) (.slice a t.s.length ca) (.slice b t.d.length cb) (.int .i64 p.n) (.int .u64 (p.x : Int)) (.int .u64 (p.z : Int)) (.int .i64 p.ph)
  have HB0 := hide (bkp (bnew w (.cells #[.int .i64 t.n, .slice a t.s.length ca, .slice b t.d.length cb] 30)) (bnew _ (.cells #[.int .i64 p.n, .int .u64 (p.x : Int), .int .u64 (p.z : Int), .int .i64 p.ph] 27)))
  have HI0 := hide (And.intro HB0.out (And.intro hA hP))
  unfold tV
  rw [hN, hls, hld] at HI0
  rw [hN, hls, hld]
  generalize loI t p = R at *
  clear h hc h0 h64 hls hld hN hA hP HB0 hp
  obtain ⟨pn, px, pz, pph⟩ := p
  unfold pV at HCM ⊢
  simp only at *
  go_enter Tryz.func22, Tryz.ntmps22
  go_wp2_with fail
  generalize (w.alloc (.cells #[.int .i64 (N : Int), .slice a N ca, .slice b N cb] 30)).alloc (.cells #[.int .i64 pn, .int .u64 (px : Int), .int .u64 (pz : Int), .int .i64 pph] 27) = W0 at *
  go_loopw [5] (fun vi wr => ∃ i : Nat, vi = .int .i64 (i : Int) /\ i <= N /\ Hid (∀ j, j < i -> comB (t.s.getD j oP) ⟨pn, px, pz, pph⟩ = true) /\ Hid (Below w.heap.size w wr /\ At3 wr w.heap.size (.int .i64 (N : Int)) (.slice a N ca) (.slice b N cb) /\ At4 wr (w.heap.size + 1) (.int .i64 pn) (.int .u64 (px : Int)) (.int .u64 (pz : Int)) (.int .i64 pph))) (fun vi _ => N - (Go.RowKit.intOf vi).toNat)
  case atStart => exact ⟨0, rfl, Nat.zero_le _, hide (fun k hk => absurd hk (Nat.not_lt_zero _)), HI0⟩
  case round =>
    obtain ⟨i, rfl, hi, HK, HW⟩ := hrel
    clear HI0
    obtain ⟨q0, q1, q2, q3⟩ := HW.out.2.1.cells
    by_cases hlt : i < N
    . have hd : decide ((i : Int) < (N : Int)) = true := decide_eq_true (by omega)
      obtain ⟨gs, os, rfl, -, -⟩ := HG.out i hlt _ HW.out.1
      have c1 := HCM.out i hlt
      have hat := HAT.out i hlt HK.out
      have HE : Hid (comB (t.s.getD i oP) ⟨pn, px, pz, pph⟩ = true -> ∀ k, k < i + 1 -> comB (t.s.getD k oP) ⟨pn, px, pz, pph⟩ = true) := hide (fun e k hk => by
        by_cases e' : k = i
        . subst e'; exact e
        . exact HK.out k (by omega))
      have HC : Hid (∀ W, Below wr.heap.size wr W -> (W.cell? ⟨w.heap.size, 0, none⟩ = some (.int .i64 (N : Int)) /\ W.cell? ⟨w.heap.size, 1, none⟩ = some (.slice (some ⟨gs, os, none⟩) N ca) /\ W.cell? ⟨w.heap.size, 2, none⟩ = some (.slice b N cb) /\ w.heap.size < W.heap.size) /\ (W.cell? ⟨w.heap.size + 1, 0, none⟩ = some (.int .i64 pn) /\ W.cell? ⟨w.heap.size + 1, 1, none⟩ = some (.int .u64 (px : Int)) /\ W.cell? ⟨w.heap.size + 1, 2, none⟩ = some (.int .u64 (pz : Int)) /\ W.cell? ⟨w.heap.size + 1, 3, none⟩ = some (.int .i64 pph) /\ w.heap.size + 1 < W.heap.size) /\ Pc W gs (os + i * 4) (t.s.getD i oP) /\ gs < W.heap.size) := hide (fun W hb => by
        obtain ⟨gs', os', e1, k1, p1⟩ := HG.out i hlt _ (bkp HW.out.1 hb)
        cases e1
        exact ⟨(HW.out.2.1.below hb).cells, (HW.out.2.2.below hb).cells, p1, k1⟩)
      generalize comB (t.s.getD i oP) ⟨pn, px, pz, pph⟩ = r at *
      generalize t.s.getD i oP = ps at *
      obtain ⟨m1, x1, z1, p1⟩ := ps
      simp only at c1
      clear HK
      cases r
      all_goals (
        go_wp2_with fail
        refine wp_region_quiet_C (C := fun W => Below wr.heap.size wr W) (by kernel_rfl) (by kernel_rfl) (bdrew (Below.refl _ _) 1) ?_
        refine unhideP ?_
        repeat
          refine wpQuiet_stepH (fun K hK => ?_)
          go_simp
          first
            | (refine hK _ ?_; clear hK K)
            | (apply Exists.intro
               refine ⟨fun W hW => ?_, hK _ ?_⟩
               first
                 | ((with_reducible refine Calls.mono (c1 _) ?_); rintro e x ⟨rfl, hb⟩; exact ⟨rfl, bkp hW hb⟩)
                 | (obtain ⟨⟨p0, p1, p2, p3⟩, ⟨a0, a1, a2, a3, a4⟩, ⟨b0, b1, b2, b3⟩, e1⟩ := HC.out W hW; go_simp; rfl)
               clear hK K)
        refine wpQuiet_nilH ?_
        intro W hW
        have HX := hide (And.intro (bkp HW.out.1 hW) (And.intro (HW.out.2.1.below hW) (HW.out.2.2.below hW)))
        clear hW HC HW c1 q0 q1 q2 q3
        go_wp2_with fail)
      . have hR := hat (by trivial)
        subst hR
        go_ret
        exact ⟨rfl, HX.out.1⟩
      . have HE' := hide (HE.out (by trivial))
        go_roundw
        case rel => exact ⟨i + 1, by go_num, by omega, HE', HX⟩
        case measure => simp [Go.RowKit.intOf]; omega
    . obtain rfl : N = i := by omega
      have hR := HNO.out HK.out
      subst hR
      go_wp2_with fail
      go_ret
      exact ⟨rfl, HW.out.1⟩
theorem dSign (t : TT) (a b : Option Addr) (ca cb : Nat) (hc : chB t = true) (p : P) (N : Nat) (hN : t.n = (N : Int)) (hp : Rr N p) (w : World) (h : Th w t a b ca cb) :
    Calls Tryz.prog 23 #[tV t a b ca cb, pV p] w fun e w' => e = .returned (.int .i64 (if decide ((alP t p N).ph = p.ph) = true then 1 else -1)) /\ Below w.heap.size w w' := by
  obtain ⟨h0, h64, hls, hld⟩ := sz_of (ch_size hc)
  rw [hN, Int.toNat_natCast] at hls hld
  have hN64 : N <= 64 := by omega
  have HG : Hid (∀ k, k < N -> ∀ W, Below w.heap.size w W -> (∃ gs os, a = some ⟨gs, os, none⟩ /\ gs < W.heap.size /\ Pc W gs (os + k * 4) (t.s.getD k oP)) /\ (∃ gd od, b = some ⟨gd, od, none⟩ /\ gd < W.heap.size /\ Pc W gd (od + k * 4) (t.d.getD k oP))) := hide (fun k hk W hb => ⟨(h.s.below hb).at (get_of (by omega)), (h.d.below hb).at (get_of (by omega))⟩)
  have HCM : Hid (∀ k, k < N -> ∀ W, Calls Tryz.prog 53 #[pV (t.d.getD k oP), pV p] W fun e w' => e = .returned (.bool (comB (t.d.getD k oP) p)) /\ Below W.heap.size W w') := hide (fun k hk W => dCommute14 _ _ (h.wd.getD (by omega)) hp.wd W)
  have HPR : Hid (∀ k, k < N -> ∀ W, Calls Tryz.prog 54 #[pV (alP t p k), pV (t.s.getD k oP)] W fun e w' => e = .returned (pV (pdP (alP t p k) (t.s.getD k oP))) /\ Below W.heap.size W w') := hide (fun k hk W => dTimes _ _ (wd_al h.ws p k (by omega)) (h.ws.getD (by omega)) W)
  have HT : Hid (∀ k, k < N -> (comB (t.d.getD k oP) p = true -> alP t p (k + 1) = alP t p k) /\ (comB (t.d.getD k oP) p = false -> alP t p (k + 1) = pdP (alP t p k) (t.s.getD k oP))) := hide (fun k hk => by
    have hr := sg_rr hN ((ch_iff.1 hc).2.1 k (by rw [hN]; omega))
    have hcm := cm_eq hr.2 hp
    exact ⟨fun e => by rw [alP, if_pos (by rw [hcm]; exact e)], fun e => by rw [alP, if_neg (by rw [hcm, e]; decide)]⟩)
  have HA0 : Hid (alP t p 0 = ⟨N, 0, 0, 0⟩) := hide (by rw [alP, hN])
  obtain ⟨hA, hP⟩ := two34 w (.int .i64 t.n) (.slice a t.s.length ca) (.slice b t.d.length cb) (.int .i64 p.n) (.int .u64 (p.x : Int)) (.int .u64 (p.z : Int)) (.int .i64 p.ph)
  have HB0 := hide (bkp (bnew w (.cells #[.int .i64 t.n, .slice a t.s.length ca, .slice b t.d.length cb] 30)) (bnew _ (.cells #[.int .i64 p.n, .int .u64 (p.x : Int), .int .u64 (p.z : Int), .int .i64 p.ph] 27)))
  have HI0 := hide (And.intro HB0.out (And.intro hA hP))
  have hsz0 : ((w.alloc (.cells #[.int .i64 (N : Int), .slice a N ca, .slice b N cb] 30)).alloc (.cells #[.int .i64 p.n, .int .u64 (p.x : Int), .int .u64 (p.z : Int), .int .i64 p.ph] 27)).heap.size = w.heap.size + 2 := by simp
  unfold tV
  rw [hN, hls, hld] at HI0
  rw [hN, hls, hld]
  generalize hAA : alP t p = A at *
  obtain ⟨R, hR⟩ : ∃ R, (if decide ((A N).ph = p.ph) = true then (1 : Int) else -1) = R := ⟨_, rfl⟩
  rw [hR]
  have HR := hide hR
  clear hR
  clear h hc h0 h64 hls hld hN hA hP HB0 hp hAA
  obtain ⟨pn, px, pz, pph⟩ := p
  unfold pV at HCM ⊢
  simp only at *
  go_enter Tryz.func23, Tryz.ntmps23
  go_wp2_with fail
  have hga : w.heap.size + 2 = w.heap.size + 1 + 1 := rfl
  have HI1 : Hid (Below w.heap.size w (((w.alloc (.cells #[.int .i64 (N : Int), .slice a N ca, .slice b N cb] 30)).alloc (.cells #[.int .i64 pn, .int .u64 (px : Int), .int .u64 (pz : Int), .int .i64 pph] 27)).alloc (.cells #[.int .i64 (N : Int), .int .u64 0, .int .u64 0, .int .i64 0] 27)) /\ At3 (((w.alloc (.cells #[.int .i64 (N : Int), .slice a N ca, .slice b N cb] 30)).alloc (.cells #[.int .i64 pn, .int .u64 (px : Int), .int .u64 (pz : Int), .int .i64 pph] 27)).alloc (.cells #[.int .i64 (N : Int), .int .u64 0, .int .u64 0, .int .i64 0] 27)) w.heap.size (.int .i64 (N : Int)) (.slice a N ca) (.slice b N cb) /\ At4 (((w.alloc (.cells #[.int .i64 (N : Int), .slice a N ca, .slice b N cb] 30)).alloc (.cells #[.int .i64 pn, .int .u64 (px : Int), .int .u64 (pz : Int), .int .i64 pph] 27)).alloc (.cells #[.int .i64 (N : Int), .int .u64 0, .int .u64 0, .int .i64 0] 27)) (w.heap.size + 1) (.int .i64 pn) (.int .u64 (px : Int)) (.int .u64 (pz : Int)) (.int .i64 pph) /\ At4 (((w.alloc (.cells #[.int .i64 (N : Int), .slice a N ca, .slice b N cb] 30)).alloc (.cells #[.int .i64 pn, .int .u64 (px : Int), .int .u64 (pz : Int), .int .i64 pph] 27)).alloc (.cells #[.int .i64 (N : Int), .int .u64 0, .int .u64 0, .int .i64 0] 27)) (w.heap.size + 1 + 1) (.int .i64 (A 0).n) (.int .u64 ((A 0).x : Int)) (.int .u64 ((A 0).z : Int)) (.int .i64 (A 0).ph)) := hide ⟨bkp HI0.out.1 (bnew _ _), HI0.out.2.1.below (bnew _ _), HI0.out.2.2.below (bnew _ _), by rw [HA0.out, ← hga, ← hsz0]; exact At4.new _ _ _ _ _⟩
  clear HI0 HA0 hsz0 hga
  generalize ((w.alloc (.cells #[.int .i64 (N : Int), .slice a N ca, .slice b N cb] 30)).alloc (.cells #[.int .i64 pn, .int .u64 (px : Int), .int .u64 (pz : Int), .int .i64 pph] 27)).alloc (.cells #[.int .i64 (N : Int), .int .u64 0, .int .u64 0, .int .i64 0] 27) = W0 at *
  go_loopw [6] (fun vi wr => ∃ i : Nat, vi = .int .i64 (i : Int) /\ i <= N /\ Hid (Below w.heap.size w wr /\ At3 wr w.heap.size (.int .i64 (N : Int)) (.slice a N ca) (.slice b N cb) /\ At4 wr (w.heap.size + 1) (.int .i64 pn) (.int .u64 (px : Int)) (.int .u64 (pz : Int)) (.int .i64 pph) /\ At4 wr (w.heap.size + 1 + 1) (.int .i64 (A i).n) (.int .u64 ((A i).x : Int)) (.int .u64 ((A i).z : Int)) (.int .i64 (A i).ph))) (fun vi _ => N - (Go.RowKit.intOf vi).toNat)
  case atStart => exact ⟨0, rfl, Nat.zero_le _, HI1⟩
  case round =>
    obtain ⟨i, rfl, hi, HI⟩ := hrel
    clear HI1
    obtain ⟨q0, q1, q2, q3⟩ := HI.out.2.1.cells
    by_cases hlt : i < N
    . have hd : decide ((i : Int) < (N : Int)) = true := decide_eq_true (by omega)
      obtain ⟨⟨gs, os, rfl, -, -⟩, ⟨gd, od, rfl, -, -⟩⟩ := HG.out i hlt _ HI.out.1
      have c3 := HCM.out i hlt
      have c4 := HPR.out i hlt
      obtain ⟨ht1, ht2⟩ := HT.out i hlt
      have HC : Hid (∀ W, Below wr.heap.size wr W -> (W.cell? ⟨w.heap.size, 0, none⟩ = some (.int .i64 (N : Int)) /\ W.cell? ⟨w.heap.size, 1, none⟩ = some (.slice (some ⟨gs, os, none⟩) N ca) /\ W.cell? ⟨w.heap.size, 2, none⟩ = some (.slice (some ⟨gd, od, none⟩) N cb) /\ w.heap.size < W.heap.size) /\ (W.cell? ⟨w.heap.size + 1, 0, none⟩ = some (.int .i64 pn) /\ W.cell? ⟨w.heap.size + 1, 1, none⟩ = some (.int .u64 (px : Int)) /\ W.cell? ⟨w.heap.size + 1, 2, none⟩ = some (.int .u64 (pz : Int)) /\ W.cell? ⟨w.heap.size + 1, 3, none⟩ = some (.int .i64 pph) /\ w.heap.size + 1 < W.heap.size) /\ (W.cell? ⟨w.heap.size + 1 + 1, 0, none⟩ = some (.int .i64 (A i).n) /\ W.cell? ⟨w.heap.size + 1 + 1, 1, none⟩ = some (.int .u64 ((A i).x : Int)) /\ W.cell? ⟨w.heap.size + 1 + 1, 2, none⟩ = some (.int .u64 ((A i).z : Int)) /\ W.cell? ⟨w.heap.size + 1 + 1, 3, none⟩ = some (.int .i64 (A i).ph) /\ w.heap.size + 1 + 1 < W.heap.size) /\ Pc W gs (os + i * 4) (t.s.getD i oP) /\ Pc W gd (od + i * 4) (t.d.getD i oP) /\ gs < W.heap.size /\ gd < W.heap.size) := hide (fun W hb => by
        obtain ⟨⟨gs', os', e1, k1, p1⟩, ⟨gd', od', e2, k2, p2⟩⟩ := HG.out i hlt _ (bkp HI.out.1 hb)
        cases e1
        cases e2
        exact ⟨(HI.out.2.1.below hb).cells, (HI.out.2.2.1.below hb).cells, (HI.out.2.2.2.below hb).cells, p1, p2, k1, k2⟩)
      generalize comB (t.d.getD i oP) ⟨pn, px, pz, pph⟩ = r at *
      obtain ⟨B, hB⟩ : ∃ B, A (i + 1) = B := ⟨_, rfl⟩
      rw [hB] at ht1 ht2
      have HNX := hide hB
      clear hB
      generalize pdP (A i) (t.s.getD i oP) = C at *
      generalize t.d.getD i oP = dd at *
      generalize t.s.getD i oP = ss at *
      generalize A i = AA at *
      obtain ⟨m1, y1, z1, p1⟩ := dd
      obtain ⟨m2, y2, z2, p2⟩ := ss
      obtain ⟨m3, y3, z3, p3⟩ := AA
      obtain ⟨m4, y4, z4, p4⟩ := C
      unfold pV at c4
      simp only at *
      cases r
      all_goals (
        go_wp2_with fail
        refine wp_region_quiet_C (C := fun W => Below wr.heap.size wr W) (by kernel_rfl) (by kernel_rfl) (bdrew (Below.refl _ _) 1) ?_
        refine unhideP ?_
        repeat
          refine wpQuiet_stepH (fun K hK => ?_)
          go_simp
          first
            | (refine hK _ ?_; clear hK K)
            | (apply Exists.intro
               refine ⟨fun W hW => ?_, hK _ ?_⟩
               first
                 | ((with_reducible refine Calls.mono (c3 _) ?_); rintro e x ⟨rfl, hb⟩; exact ⟨rfl, bkp hW hb⟩)
                 | (obtain ⟨⟨p0, p1, p2, p3⟩, ⟨a0, a1, a2, a3, a4⟩, ⟨f0, f1, f2, f3, f4⟩, ⟨b0, b1, b2, b3⟩, ⟨d0, d1, d2, d3⟩, e1, e2⟩ := HC.out W hW; go_simp; rfl)
               clear hK K)
        refine wpQuiet_nilH ?_
        intro w5 hW
        have HW5 := hide hW
        have HI5 := hide (And.intro (bkp HI.out.1 hW) (And.intro (HI.out.2.1.below hW) (And.intro (HI.out.2.2.1.below hW) (HI.out.2.2.2.below hW))))
        clear hW HI q0 q1 q2 q3)
      . have hB := ht2 (by trivial)
        subst hB
        clear ht1 ht2
        go_wp2_with fail
        have HC5 : Hid (∀ W, Below w5.heap.size w5 W -> Below wr.heap.size wr W) := hide (fun W hW => bkp HW5.out hW)
        refine wp_region_quiet_last (C := fun W => Below w5.heap.size w5 W) (by kernel_rfl) 7 rfl (by kernel_rfl) (by kernel_rfl) (bdrew (Below.refl _ _) 1) ?_
        simp only [List.take_succ_cons, List.take_zero]
        repeat
          refine wpQuiet_step (fun K hK => ?_)
          go_simp
          first
            | (refine hK _ ?_; clear hK K)
            | (apply Exists.intro
               refine ⟨fun W hW => ?_, hK _ ?_⟩
               first
                 | ((with_reducible refine Calls.mono (c4 _) ?_); rintro e x ⟨rfl, hb⟩; exact ⟨rfl, bkp hW hb⟩)
                 | (obtain ⟨⟨p0, p1, p2, p3⟩, ⟨a0, a1, a2, a3, a4⟩, ⟨f0, f1, f2, f3, f4⟩, ⟨b0, b1, b2, b3⟩, ⟨d0, d1, d2, d3⟩, e1, e2⟩ := HC.out W (HC5.out W hW); go_simp; rfl)
               clear hK K)
        refine wpQuiet_nil ?_
        intro W hW
        have hR := HI5.out.2.2.2.below hW
        have HN1 := hide (And.intro (below_setRow (bkp HI5.out.1 hW) (show w.heap.size <= w.heap.size + 1 + 1 by omega) #[.int .i64 m4, .int .u64 (y4 : Int), .int .u64 (z4 : Int), .int .i64 p4]) (And.intro ((HI5.out.2.1.below hW).offR (k := w.heap.size + 1 + 1) (cs := #[.int .i64 m4, .int .u64 (y4 : Int), .int .u64 (z4 : Int), .int .i64 p4]) (by omega)) (And.intro (At4.offR (HI5.out.2.2.1.below hW) (k := w.heap.size + 1 + 1) (cs := #[.int .i64 m4, .int .u64 (y4 : Int), .int .u64 (z4 : Int), .int .i64 p4]) (by omega)) (At4.rowP (HI5.out.2.2.2.below hW) (a' := .int .i64 m4) (b' := .int .u64 (y4 : Int)) (c' := .int .u64 (z4 : Int)) (d' := .int .i64 p4)))))
        unfold At4 at hR
        clear hW HC HI5 HW5 HC5
        go_wp2_with (first
          | (refine wpList_store_row rfl _ _ _ rfl (w.heap.size + 1 + 1) _ rfl rfl _ _ hR (by exact infoP) (by rfl) (allP _ _ _ _) ?_))
        go_roundw
        case rel => exact ⟨i + 1, by go_num, by omega, hide ⟨HN1.out.1, HN1.out.2.1, HN1.out.2.2.1, by rw [HNX.out]; exact HN1.out.2.2.2⟩⟩
        case measure => simp [Go.RowKit.intOf]; omega
      . have hB := ht1 (by trivial)
        subst hB
        clear ht1 ht2 HC HW5
        go_wp2_with fail
        go_roundw
        case rel => exact ⟨i + 1, by go_num, by omega, hide ⟨HI5.out.1, HI5.out.2.1, HI5.out.2.2.1, by rw [HNX.out]; exact HI5.out.2.2.2⟩⟩
        case measure => simp [Go.RowKit.intOf]; omega
    . obtain rfl : N = i := by omega
      obtain ⟨x0, x1, x2, x3, x4⟩ := HI.out.2.2.1.cells
      obtain ⟨y0, y1, y2, y3, y4⟩ := HI.out.2.2.2.cells
      have HF := hide HI.out.1
      have hq : ((A N).ph == pph) = decide ((A N).ph = pph) := by
        by_cases e : (A N).ph = pph
        . rw [decide_eq_true e]; simpa using e
        . rw [decide_eq_false e]; exact beq_false_of_ne e
      have hR := HR.out
      clear HR
      generalize decide ((A N).ph = pph) = rr at *
      cases rr
      . have hR' : (-1 : Int) = R := hR
        subst hR'
        clear HI hR
        go_wp2_with fail
        go_ret
        exact ⟨rfl, HF.out⟩
      . have hR' : (1 : Int) = R := hR
        subst hR'
        clear HI hR
        go_wp2_with fail
        go_ret
        exact ⟨rfl, HF.out⟩
theorem mem_doc {t : TT} {N : Nat} (hc : chB t = true) (hN : t.n = (N : Int)) {p : P} (hp : Rr N p) : (loI t p ≥ 0 /\ memI t p = 0) ∨ (loI t p = -1 /\ memI t p = if decide ((alP t p N).ph = p.ph) = true then 1 else -1) := by
  unfold loI memI
  have hn : t.n.toNat = N := by rw [hN, Int.toNat_natCast]
  cases h : lsB t p
  . right
    refine ⟨by simp, ?_⟩
    rw [hn, al_sign hc hN hp h]
    simp
  . left
    refine ⟨?_, by simp⟩
    rw [if_pos rfl]
    omega
theorem dMember (t : TT) (a b : Option Addr) (ca cb : Nat) (p : P) (hp : Wd p) (w : World) (h : Th w t a b ca cb) :
    Calls Tryz.prog 9 #[tV t a b ca cb, pV p] w fun e w' => e = .returned (.tuple #[.int .i64 (mbI t p), .int .i64 (csI t p)]) /\ Below w.heap.size w w' := by
  have HC1 := hide (fun W (hb : Below w.heap.size w W) => dRightT t a b ca cb W (h.below hb))
  have HC2 := hide (fun W => dRight p hp W)
  have HC3 : Hid (chB t = true -> ∀ N : Nat, t.n = (N : Int) -> Rr N p -> ∀ W, Below w.heap.size w W -> Calls Tryz.prog 22 #[tV t a b ca cb, pV p] W fun e w' => e = .returned (.int .i64 (loI t p)) /\ Below W.heap.size W w') := hide (fun hc N hN hr W hb => dLoose t a b ca cb hc p N hN hr W (h.below hb))
  have HC4 : Hid (chB t = true -> ∀ N : Nat, t.n = (N : Int) -> Rr N p -> ∀ W, Below w.heap.size w W -> Calls Tryz.prog 23 #[tV t a b ca cb, pV p] W fun e w' => e = .returned (.int .i64 (if decide ((alP t p N).ph = p.ph) = true then 1 else -1)) /\ Below W.heap.size W w') := hide (fun hc N hN hr W hb => dSign t a b ca cb hc p N hN hr W (h.below hb))
  obtain ⟨hA, hP⟩ := two34 w (.int .i64 t.n) (.slice a t.s.length ca) (.slice b t.d.length cb) (.int .i64 p.n) (.int .u64 (p.x : Int)) (.int .u64 (p.z : Int)) (.int .i64 p.ph)
  have HB0 := hide (bkp (bnew w (.cells #[.int .i64 t.n, .slice a t.s.length ca, .slice b t.d.length cb] 30)) (bnew _ (.cells #[.int .i64 p.n, .int .u64 (p.x : Int), .int .u64 (p.z : Int), .int .i64 p.ph] 27)))
  have HA0 := hide hA
  have HP0 := hide hP
  have hsg := sg_eq p t.n
  have HS : Hid (chB t = true -> sgB p t.n = true -> ∃ N : Nat, t.n = (N : Int) /\ Rr N p) := hide (fun hc hs => by
    obtain ⟨h0, -⟩ := sz_of (ch_size hc)
    obtain ⟨N, hN⟩ : ∃ N : Nat, t.n = (N : Int) := ⟨t.n.toNat, by omega⟩
    refine ⟨N, hN, ?_⟩
    unfold sgB at hs
    rw [Bool.and_eq_true, Bool.and_eq_true, decide_eq_true_eq, hN] at hs
    exact ⟨hs.2.1, hs.1⟩)
  have HM : Hid (∀ N : Nat, chB t = true -> t.n = (N : Int) -> Rr N p -> (loI t p ≥ 0 /\ memI t p = 0) ∨ (loI t p = -1 /\ memI t p = if decide ((alP t p N).ph = p.ph) = true then 1 else -1)) := hide (fun N hc hN hr => mem_doc hc hN hr)
  clear hA hP h hp
  obtain ⟨m, hm⟩ : ∃ m, mbI t p = m := ⟨_, rfl⟩
  obtain ⟨c, hc⟩ : ∃ c, csI t p = c := ⟨_, rfl⟩
  rw [hm, hc]
  have HV : Hid ((chB t = false -> m = 0 /\ c = 140) /\ (chB t = true -> sgB p t.n = false -> m = 0 /\ c = 2) /\ (chB t = true -> sgB p t.n = true -> m = memI t p /\ c = 0)) := hide (by
    subst hm
    subst hc
    unfold mbI csI
    cases chB t <;> cases sgB p t.n <;> simp)
  clear hm hc
  unfold tV at HC1 HC3 HC4 ⊢
  cases hch : chB t with
  | false =>
    obtain ⟨rfl, rfl⟩ := HV.out.1 hch
    rw [hch] at HC1
    generalize t.s.length = ns at *
    generalize t.d.length = nd at *
    clear HC3 HC4 HS HM HV hsg hch
    generalize t.n = tn at *
    obtain ⟨pn, px, pz, pph⟩ := p
    unfold pV at HC2 ⊢
    simp only at *
    go_enter Tryz.func9, Tryz.ntmps9
    go_wp2_with fail
    refine (HC1.out _ HB0.out).mono ?_
    rintro e w1 ⟨rfl, hb1⟩
    have HB1 := hide (bkp HB0.out hb1)
    clear hb1 HB0 HA0 HP0 HC1
    go_wp2_with fail
    go_ret2
    exact ⟨rfl, HB1.out⟩
  | true =>
    have HNO := hide (HV.out.2.1 hch)
    have HYES := hide (HV.out.2.2 hch)
    have HS' := hide (HS.out hch)
    have HM' := hide (fun N => HM.out N hch)
    have HC3' := hide (HC3.out hch)
    have HC4' := hide (HC4.out hch)
    rw [hch] at HC1
    clear HC3 HC4 HS HM HV hch
    have hru : ∀ r, rt p = r -> sgB p t.n = (r && decide (p.n = t.n) && !decide (p.ph.tmod 2 = 1)) := fun r e => by rw [hsg, e]
    obtain ⟨r, hr⟩ : ∃ r, rt p = r := ⟨_, rfl⟩
    have hs1 := hru r hr
    rw [hr] at HC2
    clear hsg hru hr
    generalize sgB p t.n = sg at *
    have HF : Hid (∀ N : Nat, t.n = (N : Int) -> Rr N p -> sg = true -> ∀ W, Below w.heap.size w W -> Calls Tryz.prog 22 #[.agg #[.int .i64 t.n, .slice a t.s.length ca, .slice b t.d.length cb], pV p] W fun e w' => e = .returned (.int .i64 (loI t p)) /\ Below W.heap.size W w') := hide (fun N hN hr _ W hb => HC3'.out N hN hr W hb)
    clear HC3'
    generalize t.s.length = ns at *
    generalize t.d.length = nd at *
    by_cases hs : sg = true
    . obtain ⟨N, hN, hrr⟩ := HS'.out hs
      obtain ⟨rfl, rfl⟩ := HYES.out hs
      have hcase := HM'.out N hN hrr
      have HL := hide (HF.out N hN hrr hs)
      have HG := hide (HC4'.out N hN hrr)
      clear HF HC4' HM' HYES HNO HS'
      subst hs
      have hr1 : r = true /\ p.n = t.n /\ ¬ p.ph.tmod 2 = 1 := by
        have := hs1.symm
        rw [Bool.and_eq_true, Bool.and_eq_true, decide_eq_true_eq, Bool.not_eq_true', decide_eq_false_iff_not] at this
        exact ⟨this.1.1, this.1.2, this.2⟩
      obtain ⟨rfl, hpn, hpp⟩ := hr1
      generalize (if decide ((alP t p N).ph = p.ph) = true then (1 : Int) else -1) = S at *
      generalize memI t p = M at *
      generalize loI t p = lo at *
      clear hs1 hrr hN
      generalize t.n = tn at *
      obtain ⟨pn, px, pz, pph⟩ := p
      unfold pV at HC2 HL HG ⊢
      simp only at *
      subst hpn
      have e1 : (Int.tmod pph 2 == 1) = false := beq_false_of_ne hpp
      clear hpp
      go_enter Tryz.func9, Tryz.ntmps9
      go_wp2_with fail
      refine (HC1.out _ HB0.out).mono ?_
      rintro e w1 ⟨rfl, hb1⟩
      have HB1 := hide (bkp HB0.out hb1)
      have HA1 := hide (HA0.out.below hb1)
      have HP1 := hide (HP0.out.below hb1)
      clear hb1 HB0 HA0 HP0 HC1
      obtain ⟨f0, f1, f2, f3, f4⟩ := HP1.out.cells
      go_wp2_with fail
      refine (HC2.out _).mono ?_
      rintro e w2 ⟨rfl, hb2⟩
      have HB2 := hide (bkp HB1.out hb2)
      have HA2 := hide (HA1.out.below hb2)
      have HP2 := hide (HP1.out.below hb2)
      clear hb2 HB1 HA1 HP1 HC2 f0 f1 f2 f3 f4
      obtain ⟨f0, f1, f2, f3, f4⟩ := HP2.out.cells
      obtain ⟨x0, x1, x2, x3⟩ := HA2.out.cells
      go_wp2_with fail
      refine (HL.out _ HB2.out).mono ?_
      rintro e w3 ⟨rfl, hb3⟩
      have HB3 := hide (bkp HB2.out hb3)
      have HA3 := hide (HA2.out.below hb3)
      have HP3 := hide (HP2.out.below hb3)
      clear hb3 HB2 HA2 HP2 HL f0 f1 f2 f3 f4 x0 x1 x2 x3
      rcases hcase with ⟨hlo, rfl⟩ | ⟨rfl, rfl⟩
      . have hd : decide (0 <= lo) = true := decide_eq_true hlo
        clear hlo
        go_wp2_with fail
        go_ret2
        exact ⟨rfl, HB3.out⟩
      . obtain ⟨f0, f1, f2, f3, f4⟩ := HP3.out.cells
        obtain ⟨x0, x1, x2, x3⟩ := HA3.out.cells
        go_wp2_with fail
        refine (HG.out _ HB3.out).mono ?_
        rintro e w4 ⟨rfl, hb4⟩
        have HB4 := hide (bkp HB3.out hb4)
        clear hb4 HB3 HA3 HP3 HG f0 f1 f2 f3 f4 x0 x1 x2 x3
        go_wp2_with fail
        go_ret2
        exact ⟨rfl, HB4.out⟩
    . have hs' : sg = false := eq_false_of_ne_true hs
      obtain ⟨rfl, rfl⟩ := HNO.out hs'
      clear HF HC4' HM' HYES HNO HS' hs
      subst hs'
      generalize t.n = tn at *
      obtain ⟨pn, px, pz, pph⟩ := p
      unfold pV at HC2 ⊢
      simp only at *
      have hcs : r = false ∨ (r = true /\ (pn != tn) = true) ∨ (r = true /\ pn = tn /\ (Int.tmod pph 2 == 1) = true) := by
        cases r
        . exact .inl rfl
        . right
          by_cases e : pn = tn
          . right
            refine ⟨rfl, e, ?_⟩
            rw [decide_eq_true e] at hs1
            by_cases f : Int.tmod pph 2 = 1
            . simpa using f
            . rw [decide_eq_false f] at hs1; cases hs1
          . exact .inl ⟨rfl, bne_iff_ne.2 e⟩
      clear hs1
      rcases hcs with rfl | ⟨rfl, e1⟩ | ⟨rfl, rfl, e1⟩
      all_goals (
        go_enter Tryz.func9, Tryz.ntmps9
        go_wp2_with fail
        refine (HC1.out _ HB0.out).mono ?_
        rintro e w1 ⟨rfl, hb1⟩
        have HB1 := hide (bkp HB0.out hb1)
        have HA1 := hide (HA0.out.below hb1)
        have HP1 := hide (HP0.out.below hb1)
        clear hb1 HB0 HA0 HP0 HC1
        obtain ⟨f0, f1, f2, f3, f4⟩ := HP1.out.cells
        go_wp2_with fail
        refine (HC2.out _).mono ?_
        rintro e w2 ⟨rfl, hb2⟩
        have HB2 := hide (bkp HB1.out hb2)
        have HA2 := hide (HA1.out.below hb2)
        have HP2 := hide (HP1.out.below hb2)
        clear hb2 HB1 HA1 HP1 HC2 f0 f1 f2 f3 f4
        obtain ⟨f0, f1, f2, f3, f4⟩ := HP2.out.cells
        obtain ⟨x0, x1, x2, x3⟩ := HA2.out.cells
        go_wp2_with fail
        go_ret2
        exact ⟨rfl, HB2.out⟩)
end Go.Proofs.YtoickolhekhgmaaGreatDoor.Tbl
