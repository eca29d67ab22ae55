import Derived.Test.YtaggifpnamjghaaDoorK737f4f12
import Derived.Test.YtaggifpnamjghaaDoorK1a3d1f92
set_option maxRecDepth 100000
set_option maxHeartbeats 4000000
namespace Go.Proofs.YtaggifpnamjghaaDoor.Tbl
open Go.RowKit Go.Shelf Go.Proofs.YtaggifpnamjghaaDoor.Pau Go.Proofs.YtaggifpnamjghaaDoor.Gt
theorem com_one {a b : P} : comB a b = false ↔ om (bp a) (bp b) = 1 := by
  rw [com_om]
  have := om_lt (bp a) (bp b)
  constructor
  . intro h; have := of_decide_eq_false h; omega
  . intro h; exact decide_eq_false (by omega)
theorem com_zero {a b : P} : comB a b = true ↔ om (bp a) (bp b) = 0 := by
  rw [com_om]
  exact decide_eq_true_iff
theorem rr_bp {N : Nat} {p : P} (h : Rr N p) : (bp p).1 < 2 ^ N /\ (bp p).2 < 2 ^ N := by
  obtain ⟨-, -, c, d, -⟩ := rt_iff.1 h.1
  rw [h.2, Int.toNat_natCast] at c d
  exact ⟨c, d⟩
theorem ch_sy {t : TT} {N : Nat} (hc : chB t = true) (hN : t.n = (N : Int)) : Sy N (fun i => bp (t.s.getD i oP)) (fun i => bp (t.d.getD i oP)) := by
  obtain ⟨hz, hs, hp⟩ := ch_iff.1 hc
  rw [hN, Int.toNat_natCast] at hs hp
  have hr := fun i (hi : i < N) => sg_rr hN (hs i hi)
  have hq : ∀ i j, i < N -> j < N -> comB (t.s.getD i oP) (t.s.getD j oP) = true /\ comB (t.d.getD i oP) (t.d.getD j oP) = true /\ comB (t.d.getD i oP) (t.s.getD j oP) = decide (i ≠ j) := fun i j hi hj => by
    have := hp i hi j hj
    rw [pr_same hN (hs i hi) (hs j hj)] at this
    unfold prB' at this
    rw [Bool.and_eq_true, Bool.and_eq_true, beq_iff_eq] at this
    exact ⟨this.1.1, this.1.2, this.2⟩
  refine ⟨fun i hi => rr_bp (hr i hi).1, fun i hi => rr_bp (hr i hi).2, fun i j hi hj => com_zero.1 (hq i j hi hj).1, fun i j hi hj => com_zero.1 (hq i j hi hj).2.1, fun i j hi hj => ?_⟩
  have h3 := (hq i j hi hj).2.2
  by_cases e : i = j
  . rw [if_pos e]
    refine com_one.1 ?_
    rw [h3]
    exact decide_eq_false (fun h => h e)
  . rw [if_neg e]
    refine com_zero.1 ?_
    rw [h3]
    exact decide_eq_true e
theorem rr_id {N : Nat} (h : N <= 64) : Rr N ⟨(N : Int), 0, 0, 0⟩ := by
  refine ⟨rt_iff.2 ⟨by show (0 : Int) <= (N : Int); omega, by show (N : Int) <= 64; omega, Nat.two_pow_pos _, Nat.two_pow_pos _, by show (0 : Int) <= 0; decide, by show (0 : Int) <= 3; decide⟩, rfl⟩
theorem al_rr {t : TT} {N : Nat} (hc : chB t = true) (hN : t.n = (N : Int)) (p : P) : ∀ k, k <= N -> Rr N (alP t p k)
  | 0, _ => by
    have := (sz_of (ch_size hc)).2.1
    rw [alP, hN]
    exact rr_id (by omega)
  | k + 1, hk => by
    have ih := al_rr hc hN p k (by omega)
    have hr := sg_rr hN ((ch_iff.1 hc).2.1 k (by rw [hN]; omega))
    rw [alP]
    split
    . exact ih
    . exact (ih.pd hr.1).2
theorem al_om {t : TT} {N : Nat} (hc : chB t = true) (hN : t.n = (N : Int)) {p : P} (hp : Rr N p) : ∀ k, k <= N -> (∀ j, j < N -> om (bp (alP t p k)) (bp (t.s.getD j oP)) = 0) /\ (∀ j, j < N -> om (bp (alP t p k)) (bp (t.d.getD j oP)) = if j < k then om (bp (t.d.getD j oP)) (bp p) else 0)
  | 0, _ => by
    have hz : bp (alP t p 0) = (0, 0) := rfl
    rw [hz]
    exact ⟨fun j _ => om_zero _, fun j _ => by rw [om_zero, if_neg (Nat.not_lt_zero _)]⟩
  | k + 1, hk => by
    obtain ⟨h1, h2⟩ := al_om hc hN hp k (by omega)
    have sy := ch_sy hc hN
    have ra := al_rr hc hN p k (by omega)
    have hr := sg_rr hN ((ch_iff.1 hc).2.1 k (by rw [hN]; omega))
    have hcm := cm_eq hr.2 hp
    rw [alP, hcm]
    cases hb : comB (t.d.getD k oP) p with
    | true =>
      rw [if_pos rfl]
      refine ⟨h1, fun j hj => ?_⟩
      rw [h2 j hj]
      by_cases e : j < k
      . rw [if_pos e, if_pos (by omega)]
      . rw [if_neg e]
        by_cases e2 : j = k
        . subst e2; rw [if_pos (by omega), com_zero.1 hb]
        . rw [if_neg (by omega)]
    | false =>
      rw [if_neg (by decide), (ra.pd hr.1).1]
      have e : bp (mulP (alP t p k) (t.s.getD k oP)) = xo (bp (alP t p k)) (bp (t.s.getD k oP)) := rfl
      rw [e]
      refine ⟨fun j hj => ?_, fun j hj => ?_⟩
      . have := sy.ss k j (by omega) hj
        rw [om_xo, h1 j hj, this]
      . have hds := sy.ds j k hj (by omega)
        rw [om_comm] at hds
        rw [om_xo, h2 j hj]
        have hd2 : om (bp (t.s.getD k oP)) (bp (t.d.getD j oP)) = if j = k then 1 else 0 := hds
        rw [hd2]
        have hl := om_lt (bp (t.d.getD j oP)) (bp p)
        by_cases e1 : j < k
        . rw [if_pos e1, if_neg (by omega), if_pos (by omega)]; omega
        . rw [if_neg e1]
          by_cases e2 : j = k
          . subst e2; rw [if_pos rfl, if_pos (by omega), com_one.1 hb]
          . rw [if_neg e2, if_neg (by omega)]
theorem xor_zero_eq {a b : Nat} (h : a ^^^ b = 0) : a = b := by
  apply bt_ext
  intro q
  have := bt_xor a b q
  rw [h, bt_zero] at this
  have h1 := bt_lt a q
  have h2 := bt_lt b q
  omega
theorem al_bits {t : TT} {N : Nat} (hc : chB t = true) (hN : t.n = (N : Int)) {p : P} (hp : Rr N p) (hcom : ∀ j, j < N -> comB (t.s.getD j oP) p = true) : (alP t p N).n = p.n /\ (alP t p N).x = p.x /\ (alP t p N).z = p.z := by
  obtain ⟨h1, h2⟩ := al_om hc hN hp N (Nat.le_refl _)
  have ra := al_rr hc hN p N (Nat.le_refl _)
  have ba := rr_bp ra
  have bb := rr_bp hp
  have hz := (ch_sy hc hN).zero (xo (bp (alP t p N)) (bp p)) ⟨Nat.xor_lt_two_pow ba.1 bb.1, Nat.xor_lt_two_pow ba.2 bb.2⟩
    (fun j hj => by
      have := com_zero.1 (hcom j hj)
      rw [om_comm] at this
      show om (xo _ _) _ = 0
      rw [om_xo, h1 j hj, this])
    (fun j hj => by
      show om (xo _ _) _ = 0
      rw [om_xo, h2 j hj, if_pos hj, om_comm (bp p)]
      omega)
  have hx : (alP t p N).x ^^^ p.x = 0 := congrArg Prod.fst hz
  have hzz : (alP t p N).z ^^^ p.z = 0 := congrArg Prod.snd hz
  exact ⟨ra.2.trans hp.2.symm, xor_zero_eq hx, xor_zero_eq hzz⟩
theorem ls_com {t : TT} {N : Nat} (hc : chB t = true) (hN : t.n = (N : Int)) {p : P} (hp : Rr N p) (hl : lsB t p = false) : ∀ j, j < N -> comB (t.s.getD j oP) p = true := fun j hj => by
  obtain ⟨-, -, hls, -⟩ := sz_of (ch_size hc)
  have hr := sg_rr hN ((ch_iff.1 hc).2.1 j (by rw [hN]; omega))
  have hm : t.s.getD j oP ∈ t.s := List.mem_of_getElem? (get_of (by omega))
  have := List.any_eq_false.1 hl _ hm
  rw [cm_eq hr.1 hp] at this
  simpa using this
theorem al_sign {t : TT} {N : Nat} (hc : chB t = true) (hN : t.n = (N : Int)) {p : P} (hp : Rr N p) (hl : lsB t p = false) : decide (alP t p N = p) = decide ((alP t p N).ph = p.ph) := by
  obtain ⟨e1, e2, e3⟩ := al_bits hc hN hp (ls_com hc hN hp hl)
  apply decide_eq_decide.2
  constructor
  . intro e; rw [e]
  . intro e; exact P.ext' e1 e2 e3 e
theorem dTimes (a b : P) (ha : Wd a) (hb : Wd b) (w : World) : Calls Tryd.prog 36 #[pV a, pV b] w fun e w' => e = .returned (pV (pdP a b)) /\ Below w.heap.size w w' := by
  have c1 := fun W => dMul a b ha hb W
  unfold pdP
  generalize mulR a b = r at *
  obtain ⟨⟨rn, rx, rz, rp⟩, re⟩ := r
  obtain ⟨n, x, z, ph⟩ := a
  obtain ⟨n', x', z', ph'⟩ := b
  unfold pV at *
  simp only at *
  obtain ⟨-, -, HA2⟩ := At4.three w (.int .i64 n) (.int .u64 (x : Int)) (.int .u64 (z : Int)) (.int .i64 ph) (.int .i64 n') (.int .u64 (x' : Int)) (.int .u64 (z' : Int)) (.int .i64 ph') (.int .i64 0) (.int .u64 0) (.int .u64 0) (.int .i64 0)
  have HAh2 := hide HA2
  have HB := hide (bkp (bkp (bnew w (.cells #[.int .i64 n, .int .u64 (x : Int), .int .u64 (z : Int), .int .i64 ph] 32)) (bnew _ (.cells #[.int .i64 n', .int .u64 (x' : Int), .int .u64 (z' : Int), .int .i64 ph'] 32))) (bnew _ (.cells #[.int .i64 0, .int .u64 0, .int .u64 0, .int .i64 0] 32)))
  clear HA2 ha hb
  go_enter Tryd.func36, Tryd.ntmps36
  go_wp2_with fail
  refine (c1 _).mono ?_
  rintro e w1 ⟨rfl, hb1⟩
  have hbn := bnew w1 (.cells #[.int .i64 rn, .int .u64 (rx : Int), .int .u64 (rz : Int), .int .i64 rp] 32)
  have HB1 := hide (bkp (bkp HB.out hb1) hbn)
  have hR := (HAh2.out.below hb1).below hbn
  clear hb1 HAh2 hbn
  unfold At4 at hR
  go_wp2_with (first
    | (refine wpList_store_row rfl _ _ _ rfl (w.heap.size + 1 + 1) _ rfl rfl _ _ hR (by exact infoP) (by rfl) (allP _ _ _ _) ?_))
  refine bodyPost_ret (results_c rfl _ _ (w.heap.size + 1 + 1) _ _ _ _ rfl (setRow_heap _ _ _ _ _ _ hR) Tryd.underlying32 rfl (by exact infoP)) rfl ?_
  exact ⟨rfl, below_setRow HB1.out (by omega) _⟩
def loI (t : TT) (p : P) : Int := if lsB t p = true then (lsI t p : Int) else -1
theorem lo_at {t : TT} {N : Nat} (hc : chB t = true) (hN : t.n = (N : Int)) {p : P} (hp : Rr N p) {i : Nat} (hi : i < N) (h0 : ∀ j, j < i -> comB (t.s.getD j oP) p = true) (h1 : comB (t.s.getD i oP) p = false) : loI t p = (i : Int) := by
  obtain ⟨-, -, hls, -⟩ := sz_of (ch_size hc)
  rw [hN, Int.toNat_natCast] at hls
  have hr := fun j (hj : j < N) => (sg_rr hN ((ch_iff.1 hc).2.1 j (by rw [hN]; omega))).1
  have hT : ∀ j, j < N -> tnB p (t.s.getD j oP) = !comB (t.s.getD j oP) p := fun j hj => by unfold tnB; rw [cm_eq (hr j hj) hp]
  have hany : lsB t p = true := List.any_eq_true.2 ⟨t.s.getD i oP, List.mem_of_getElem? (get_of (by omega)), by have := hT i hi; unfold tnB at this; rw [this, h1]; rfl⟩
  unfold loI lsI
  rw [if_pos hany]
  congr 1
  rw [List.findIdx_eq (by omega)]
  have hg : ∀ j (hj : j < t.s.length), t.s[j] = t.s.getD j oP := fun j hj => by
    have := get_of hj
    rw [List.getElem?_eq_getElem hj] at this
    exact Option.some.inj this
  refine ⟨by rw [hg, hT i hi, h1]; rfl, fun j hj => ?_⟩
  rw [hg j (by omega), hT j (by omega), h0 j hj]
  rfl
theorem lo_no {t : TT} {N : Nat} (hc : chB t = true) (hN : t.n = (N : Int)) {p : P} (hp : Rr N p) (h0 : ∀ j, j < N -> comB (t.s.getD j oP) p = true) : loI t p = -1 := by
  obtain ⟨-, -, hls, -⟩ := sz_of (ch_size hc)
  rw [hN, Int.toNat_natCast] at hls
  have hr := fun j (hj : j < N) => (sg_rr hN ((ch_iff.1 hc).2.1 j (by rw [hN]; omega))).1
  have hany : lsB t p = false := by
    unfold lsB
    rw [List.any_eq_false]
    intro x hx
    obtain ⟨j, hj⟩ := List.getElem?_of_mem hx
    have hl := (List.getElem?_eq_some_iff.1 hj).1
    have e := get_of hl
    rw [hj] at e
    cases e
    rw [cm_eq (hr j (by omega)) hp, h0 j (by omega)]
    decide
  unfold loI
  rw [hany]
  rfl
theorem dLoose (t : TT) (a b : Option Addr) (ca cb : Nat) (hc : chB t = true) (p : P) (N : Nat) (hN : t.n = (N : Int)) (hp : Rr N p) (w : World) (h : Th w t a b ca cb) :
    Calls Tryd.prog 34 #[tV t a b ca cb, pV p] w fun e w' => e = .returned (.int .i64 (loI t p)) /\ Below w.heap.size w w' := by
  obtain ⟨h0, h64, hls, hld⟩ := sz_of (ch_size hc)
  rw [hN, Int.toNat_natCast] at hls hld
  have hN64 : N <= 64 := by omega
  have HG : Hid (∀ k, k < N -> ∀ W, Below w.heap.size w W -> (∃ gs os, a = some ⟨gs, os, none⟩ /\ gs < W.heap.size /\ Pc W gs (os + k * 4) (t.s.getD k oP))) := hide (fun k hk W hb => (h.s.below hb).at (get_of (by omega)))
  have HCM : Hid (∀ k, k < N -> ∀ W, Calls Tryd.prog 35 #[pV (t.s.getD k oP), pV p] W fun e w' => e = .returned (.bool (comB (t.s.getD k oP) p)) /\ Below W.heap.size W w') := hide (fun k hk W => dCommute _ _ (h.ws.getD (by omega)) hp.wd W)
  have HAT : Hid (∀ i, i < N -> (∀ j, j < i -> comB (t.s.getD j oP) p = true) -> comB (t.s.getD i oP) p = false -> loI t p = (i : Int)) := hide (fun i hi h0 h1 => lo_at hc hN hp hi h0 h1)
  have HNO : Hid ((∀ j, j < N -> comB (t.s.getD j oP) p = true) -> loI t p = -1) := hide (fun h0 => lo_no hc hN hp h0)
  obtain ⟨hA, hP⟩ := two34 w (.int .i64 t.n) (.slice a t.s.length ca) (.slice b t.d.length cb) (.int .i64 p.n) (.int .u64 (p.x : Int)) (.int .u64 (p.z : Int)) (.int .i64 p.ph)
  have HB0 := hide (bkp (bnew w (.cells #[.int .i64 t.n, .slice a t.s.length ca, .slice b t.d.length cb] 24)) (bnew _ (.cells #[.int .i64 p.n, .int .u64 (p.x : Int), .int .u64 (p.z : Int), .int .i64 p.ph] 32)))
  have HI0 := hide (And.intro HB0.out (And.intro hA hP))
  unfold tV
  rw [hN, hls, hld] at HI0
  rw [hN, hls, hld]
  generalize loI t p = R at *
  clear h hc h0 h64 hls hld hN hA hP HB0 hp
  obtain ⟨pn, px, pz, pph⟩ := p
  unfold pV at HCM ⊢
  simp only at *
  go_enter Tryd.func34, Tryd.ntmps34
  go_wp2_with fail
  generalize (w.alloc (.cells #[.int .i64 (N : Int), .slice a N ca, .slice b N cb] 24)).alloc (.cells #[.int .i64 pn, .int .u64 (px : Int), .int .u64 (pz : Int), .int .i64 pph] 32) = W0 at *
  go_loopw [5] (fun vi wr => ∃ i : Nat, vi = .int .i64 (i : Int) /\ i <= N /\ Hid (∀ j, j < i -> comB (t.s.getD j oP) ⟨pn, px, pz, pph⟩ = true) /\ Hid (Below w.heap.size w wr /\ At3 wr w.heap.size (.int .i64 (N : Int)) (.slice a N ca) (.slice b N cb) /\ At4 wr (w.heap.size + 1) (.int .i64 pn) (.int .u64 (px : Int)) (.int .u64 (pz : Int)) (.int .i64 pph))) (fun vi _ => N - (Go.RowKit.intOf vi).toNat)
  case atStart => exact ⟨0, rfl, Nat.zero_le _, hide (fun k hk => absurd hk (Nat.not_lt_zero _)), HI0⟩
  case round =>
    obtain ⟨i, rfl, hi, HK, HW⟩ := hrel
    clear HI0
    obtain ⟨q0, q1, q2, q3⟩ := HW.out.2.1.cells
    by_cases hlt : i < N
    . have hd : decide ((i : Int) < (N : Int)) = true := decide_eq_true (by omega)
      obtain ⟨gs, os, rfl, -, -⟩ := HG.out i hlt _ HW.out.1
      have c1 := HCM.out i hlt
      have hat := HAT.out i hlt HK.out
      have HE : Hid (comB (t.s.getD i oP) ⟨pn, px, pz, pph⟩ = true -> ∀ k, k < i + 1 -> comB (t.s.getD k oP) ⟨pn, px, pz, pph⟩ = true) := hide (fun e k hk => by
        by_cases e' : k = i
        . subst e'; exact e
        . exact HK.out k (by omega))
      have HC : Hid (∀ W, Below wr.heap.size wr W -> (W.cell? ⟨w.heap.size, 0, none⟩ = some (.int .i64 (N : Int)) /\ W.cell? ⟨w.heap.size, 1, none⟩ = some (.slice (some ⟨gs, os, none⟩) N ca) /\ W.cell? ⟨w.heap.size, 2, none⟩ = some (.slice b N cb) /\ w.heap.size < W.heap.size) /\ (W.cell? ⟨w.heap.size + 1, 0, none⟩ = some (.int .i64 pn) /\ W.cell? ⟨w.heap.size + 1, 1, none⟩ = some (.int .u64 (px : Int)) /\ W.cell? ⟨w.heap.size + 1, 2, none⟩ = some (.int .u64 (pz : Int)) /\ W.cell? ⟨w.heap.size + 1, 3, none⟩ = some (.int .i64 pph) /\ w.heap.size + 1 < W.heap.size) /\ Pc W gs (os + i * 4) (t.s.getD i oP) /\ gs < W.heap.size) := hide (fun W hb => by
        obtain ⟨gs', os', e1, k1, p1⟩ := HG.out i hlt _ (bkp HW.out.1 hb)
        cases e1
        exact ⟨(HW.out.2.1.below hb).cells, (HW.out.2.2.below hb).cells, p1, k1⟩)
      generalize comB (t.s.getD i oP) ⟨pn, px, pz, pph⟩ = r at *
      generalize t.s.getD i oP = ps at *
      obtain ⟨m1, x1, z1, p1⟩ := ps
      simp only at c1
      clear HK
      cases r
      all_goals (
        go_wp2_with fail
        refine wp_region_quiet_C (C := fun W => Below wr.heap.size wr W) (by kernel_rfl) (by kernel_rfl) (bdrew (Below.refl _ _) 1) ?_
        refine unhideP ?_
        repeat
          refine wpQuiet_stepH (fun K hK => ?_)
          go_simp
          first
            | (refine hK _ ?_; clear hK K)
            | (apply Exists.intro
               refine ⟨fun W hW => ?_, hK _ ?_⟩
               first
                 | ((with_reducible refine Calls.mono (c1 _) ?_); rintro e x ⟨rfl, hb⟩; exact ⟨rfl, bkp hW hb⟩)
                 | (obtain ⟨⟨p0, p1, p2, p3⟩, ⟨a0, a1, a2, a3, a4⟩, ⟨b0, b1, b2, b3⟩, e1⟩ := HC.out W hW; go_simp; rfl)
               clear hK K)
        refine wpQuiet_nilH ?_
        intro W hW
        have HX := hide (And.intro (bkp HW.out.1 hW) (And.intro (HW.out.2.1.below hW) (HW.out.2.2.below hW)))
        clear hW HC HW c1 q0 q1 q2 q3
        go_wp2_with fail)
      . have hR := hat (by trivial)
        subst hR
        go_ret
        exact ⟨rfl, HX.out.1⟩
      . have HE' := hide (HE.out (by trivial))
        go_roundw
        case rel => exact ⟨i + 1, by go_num, by omega, HE', HX⟩
        case measure => simp [Go.RowKit.intOf]; omega
    . obtain rfl : N = i := by omega
      have hR := HNO.out HK.out
      subst hR
      go_wp2_with fail
      go_ret
      exact ⟨rfl, HW.out.1⟩
end Go.Proofs.YtaggifpnamjghaaDoor.Tbl
