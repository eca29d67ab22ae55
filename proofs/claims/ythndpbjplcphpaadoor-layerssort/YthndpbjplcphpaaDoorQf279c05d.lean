import Derived.Test.YthndpbjplcphpaaDoorQ0b2acd5b
set_option maxRecDepth 100000
set_option maxHeartbeats 8000000
namespace Go.Proofs.YthndpbjplcphpaaDoor.Lay
open Go.RowKit Go.Shelf Go.Proofs.YthndpbjplcphpaaDoor.Oct Go.Proofs.YthndpbjplcphpaaDoor.Tok Go.Proofs.YthndpbjplcphpaaDoor.Gt Go.Proofs.YthndpbjplcphpaaDoor.Cir
def mr (ops : List COp) (f : Nat -> Int) (d : Nat) : Nat -> List Int
  | 0 => []
  | i + 1 => if f i = (d : Int) + 1 /\ (oa ops i).kind ≠ 4 then mr ops f d i ++ [(i : Int)] else mr ops f d i
theorem mr_len (ops : List COp) (f : Nat -> Int) (d : Nat) : ∀ i, (mr ops f d i).length <= i
  | 0 => Nat.le_refl _
  | i + 1 => by
    rw [mr]
    have := mr_len ops f d i
    split
    . rw [List.length_append]; simp; omega
    . omega
structure MR (W : World) (gT D : Nat) (L : Nat -> List Int) (vs : Nat -> RV) : Prop where
  rs : RS W gT D 4096 vs
  rk : Rk W gT 25 D (fun d => (vs d).v)
  eq : ∀ d, d < D -> (vs d).2.2.2 = L d /\ (vs d).2.1 = (L d).length
theorem pMomentsA (c : Circ) (f : Nat -> Int) (hE : EV c.ops f) (hok : okC c = true) (ao : Option Addr) (k : Nat) (w : World) (hT : Tb w) (hC : Ci w c ao k) : Calls Tryd.prog 21 #[cV c ao k] w fun e w' => ∃ gT vs, e = .returned (.tuple #[.slice (some ⟨gT, 0, none⟩) (gr f c.ops.length).toNat (gr f c.ops.length).toNat, .int .i64 0]) /\ w.heap.size <= gT /\ MR w' gT (gr f c.ops.length).toNat (fun d => mr c.ops f d c.ops.length) vs /\ Below w.heap.size w w' := by
  have c1 := fun V (h : Below w.heap.size w V) => cCheck c ao k V (hT.below h) (hC.below h)
  have h0 : (chkC c).2 = 0 := by unfold okC at hok; simpa using hok
  rw [h0] at c1
  have hwk := (ok_wk hok).1
  have hn := (ok_wk hok).2
  have c2 := fun V (h : Below w.heap.size w V) => lEarly1 c.ops f hE (fun o ho => (hwk o ho).1) hn ao k V (hC.ops.below h)
  have c3 := fun (V : World) (g : Nat) (h : Rk V g 3 c.ops.length (fun j => .int .i64 (f j))) => lGreatest f c.ops.length g c.ops.length (by omega) (ev_rng hE) V h
  have hgr := gr_rng (f := f) c.ops.length (ev_rng hE)
  have HGE : Hid (∀ j, j < c.ops.length -> f j <= gr f c.ops.length /\ ((oa c.ops j).kind ≠ 4 -> 1 <= f j) /\ 0 <= f j) := hide (fun j hj => ⟨gr_ge _ j hj, fun hk => by
    rw [hE j _ (oa_some hj)]
    unfold ln
    rw [if_neg hk]
    have := mx_nn (ops := c.ops) (f := f) (o := oa c.ops j) j
    omega, (ev_rng hE j hj).1⟩)
  have HO := hide hC.ops
  obtain ⟨D, hD⟩ : ∃ D : Nat, gr f c.ops.length = (D : Int) := ⟨(gr f c.ops.length).toNat, by omega⟩
  rw [hD] at c3 hgr HGE ⊢
  obtain ⟨q, b, ops⟩ := c
  unfold cV at *
  simp only at *
  generalize (chkC ⟨q, b, ops⟩).1 = z1 at *
  clear hT hC hE hok h0 hwk hD
  obtain ⟨n, hnl⟩ : ∃ n, ops.length = n := ⟨_, rfl⟩
  have HN := hide hnl
  simp only [hnl] at c1 c2 c3 hn hgr HGE ⊢
  clear hnl
  rw [Int.toNat_natCast]
  have mq := fun W => makeR19 D (by omega) W
  have hb1 := bnew w (.cells #[.int .i64 q, .int .i64 b, .slice ao n k] 24)
  have hm1 := heap_alloc_new w (.cells #[.int .i64 q, .int .i64 b, .slice ao n k] 24)
  have hsz : w.heap.size < (w.alloc (.cells #[.int .i64 q, .int .i64 b, .slice ao n k] 24)).heap.size := by simp
  have c1' := c1 _ hb1
  clear c1
  go_enter Tryd.func21, Tryd.ntmps21
  go_upto_region 6 with (first
    | (go_at_call 29; refine c1'.mono ?_; rintro e w2 ⟨rfl, hb2⟩; have hB2 := hb1.trans (hb2.mono hb1.size); have hm2 := (hb2.block _ hsz).trans hm1; obtain ⟨y0, y1, y2, y3⟩ := def_cells hm2; have c2' := c2 w2 hB2; clear c1')
    | (go_at_call 30; refine c2'.mono ?_; rintro e w3 ⟨gR, rfl, hR3, hgR, hb3⟩; have hB3 := hB2.trans (hb3.mono hB2.size); have hm3 := (hb3.block _ (Array.getElem?_eq_some_iff.1 hm2).1).trans hm2; have c3' := c3 w3 gR hR3; clear c2')
    | (go_at_call 40; refine c3'.mono ?_; rintro e w3q ⟨rfl, hw3⟩; obtain rfl := hw3.symm; clear c3'))
  have hgRl := hR3.lt
  obtain ⟨gT, hgT⟩ : ∃ gT, gT = w3.heap.size := ⟨_, rfl⟩
  rw [← hgT]
  have hb4 := bnew w3 (.cells (madeCells #[.slice none 0 0] D) 25)
  have hT4 : Rk (w3.alloc (.cells (madeCells #[.slice none 0 0] D) 25)) gT 25 D (fun _ => .slice none 0 0) := madeR19 w3 D gT hgT.symm
  have hR4 := hR3.below hb4
  have hm4 := (hb4.block _ (Array.getElem?_eq_some_iff.1 hm3).1).trans hm3
  have hB4 : Below w.heap.size w (w3.alloc (.cells (madeCells #[.slice none 0 0] D) 25)) := hB3.trans (hb4.mono hB3.size)
  have hs4 : gT < (w3.alloc (.cells (madeCells #[.slice none 0 0] D) 25)).heap.size := by rw [hgT]; simp
  have hwS : w.heap.size < gT := by rw [hgT]; exact (Array.getElem?_eq_some_iff.1 hm3).1
  have hwT : w.heap.size <= gT /\ gR < gT := ⟨by omega, by omega⟩
  generalize w3.alloc (.cells (madeCells #[.slice none 0 0] D) 25) = W4 at *
  clear hgT hb4 hb1 hm1 hm2 hm3 hB2 hB3 hb2 hb3 hR3 y0 y1 y2 y3 mq c2 c3
  go_wp2_with fail
  go_loopw [8, 9, 26] (fun _ _ vi wr => ∃ (i : Nat) (vs : Nat -> RV), i <= n /\ vi = .int .i64 (i : Int) /\ Hid (RS wr gT D i vs) /\ Hid (∀ d, d < D -> (vs d).2.2.2 = mr ops f d i /\ (vs d).2.1 = (mr ops f d i).length) /\ Hid (Rk wr gT 25 D (fun d => (vs d).v)) /\ Hid (Rk wr gR 3 n (fun j => .int .i64 (f j))) /\ Hid (wr.heap[w.heap.size]? = some (.cells #[.int .i64 q, .int .i64 b, .slice ao n k] 24 (0, 0))) /\ Hid (Below w.heap.size w wr)) (fun _ _ vi _ => n - (intOf vi).toNat)
  case atStart => exact ⟨0, fun _ => (none, 0, 0, []), Nat.zero_le _, rfl, hide ⟨fun d _ => World.ownsRow_nil _ _ _ _, fun d e _ _ _ g hg => by simp [ob] at hg, fun d _ => Nat.le_refl _⟩, hide (fun d _ => ⟨rfl, rfl⟩), hide hT4, hide hR4, hide hm4, hide hB4⟩
  case round =>
    clear hT4 hR4 hm4 hB4 hs4
    obtain ⟨i, vs, hi, rfl, HRS, HEQ, HT, HR, HM, HB⟩ := hrel
    obtain ⟨x0, x1, x2, x3⟩ := def_cells HM.out
    by_cases h : i < n
    . have hd : decide ((i : Int) < (n : Int)) = true := decide_eq_true (by omega)
      have hkk : (i : Int) < (n : Int) := by omega
      have r0 := HR.out.cell i h
      have r2 := HR.out.lt
      have hge := HGE.out i h
      have hio : i < ops.length := by rw [HN.out]; exact h
      obtain ⟨g, off, aq, cq, rfl, hgl0, hoc0⟩ := HO.out.at (oa_some hio)
      have hgl : g < wr.heap.size := Nat.lt_of_lt_of_le hgl0 HB.out.size
      have hkd := (hoc0.below HB.out).kind
      by_cases e4 : (oa ops i).kind = 4
      . have HEQ2 : Hid (∀ d, d < D -> (vs d).2.2.2 = mr ops f d (i + 1) /\ (vs d).2.1 = (mr ops f d (i + 1)).length) := hide (fun d hd => by rw [mr, if_neg (fun h => h.2 e4)]; exact HEQ.out d hd)
        rw [e4] at hkd
        clear e4 hge hoc0
        generalize f i = fi at *
        go_wp2_with fail
        exact ⟨⟨i + 1, vs, by omega, by go_num, hide ⟨HRS.out.own, HRS.out.apart, fun d hd => Nat.le_succ_of_le (HRS.out.small d hd)⟩, HEQ2, HT, HR, HM, HB⟩, by simp [intOf]; omega⟩
      . have hf1 := hge.2.1 e4
        obtain ⟨p, hp⟩ : ∃ p : Nat, f i = (p : Int) + 1 := ⟨(f i - 1).toNat, by omega⟩
        have hpD : p < D := by omega
        have hkz : ((oa ops i).kind == 4) = false := by simpa using e4
        have hw1 : IntKind.i64.wrap ((p : Int) + 1 - 1) = (p : Int) := by rw [show (p : Int) + 1 - 1 = (p : Int) by omega]; exact wrapI _ (by omega) (by omega)
        have hpi : (p : Int) < (D : Int) := by omega
        rw [hp] at r0
        have t0 := HT.out.cell p hpD
        have t1 := HT.out.frozen p
        have t2 := HT.out.lt
        have HOp := hide (HRS.out.own p hpD)
        have HSm := hide (HRS.out.small p hpD)
        obtain ⟨⟨ap, np, cp, lp⟩, hvp⟩ : ∃ x : RV, x = vs p := ⟨_, rfl⟩
        rw [← hvp] at t0 HOp HSm
        simp only [RV.v] at t0
        have HOq : Hid (wr.ownsRow gT 3 1 (.slice ap np cp) np (lp.map (Value.int .i64))) := hide HOp.out
        have hnp : np <= i := HSm.out
        have hsT : gT <= wr.heap.size := Nat.le_of_lt t2
        have HVP := hide hvp
        have HMR : Hid (∀ d, mr ops f d (i + 1) = if d = p then mr ops f d i ++ [(i : Int)] else mr ops f d i) := hide (fun d => by
          rw [mr, hp]
          by_cases e : d = p
          . rw [if_pos e, if_pos ⟨by rw [e], e4⟩]
          . rw [if_neg e, if_neg (fun h => e (by omega))])
        clear hvp HOp HSm hge hf1 e4 hoc0
        generalize (oa ops i).kind = kd at *
        go_wp2_with (at_builtin; refine app1_list (w := wr) rfl (.tmp 45) (.tmp 47) rfl HOq.out hsT (i : Int) (by omega) (by rfl) (by rfl) ?_; intro g6 c6 w6 hown hgr hat; have HO6 := hide hown; have HG6 := hide hgr; have HA6 := hide hat; have hT6 : Rk w6 gT 25 D (fun d => (vs d).v) := HT.out.of_block (hgr.block _ HT.out.lt (fun e => own_rkr HOq.out HT.out e.symm)); have u0 := hT6.cell p hpD; have u1 := hT6.frozen p; have u2 := hT6.lt; have HT6 := hide hT6; clear hown hgr hat hT6)
        have hR6 : Rk w6 gR 3 n (fun j => .int .i64 (f j)) := HR.out.of_block (HG6.out.block _ HR.out.lt (fun e => by have := (own_lt HOq.out gR e.symm).1; omega))
        have hM6 := (HG6.out.block _ (Array.getElem?_eq_some_iff.1 HM.out).1 (fun e => own_ne HOq.out HM.out (by decide) e.symm)).trans HM.out
        have hB6 : Below w.heap.size w w6 := HB.out.grown HG6.out HB.out.size (fun x hx => Nat.le_trans hwT.1 (own_lt HOq.out x hx).1)
        have hvp := HVP.out
        have hobp : ob (vs p).1 = ob ap := by rw [← hvp]
        refine ⟨⟨i + 1, fun d => if d = p then (some ⟨g6, 0, none⟩, np + 1, c6, lp ++ [(i : Int)]) else vs d, by omega, by go_num, hide ⟨fun d hd => ?_, fun d e hd he hde g hg => ?_, fun d hd => ?_⟩, hide (fun d hd => ?_), hide ((HT6.out.set p _).congr fun d hd => ?_), hide (hR6.of_block (Below.heap_setCell _ _ _ _ (by simp; omega))), hide ((Below.heap_setCell _ _ _ _ (by simp; omega)).trans hM6), hide (hB6.setCell (p := ⟨gT, p, none⟩) hwT.1 _)⟩, by simp [intOf]; omega⟩
        . by_cases e : d = p
          . simp only [e, if_true]
            exact own_rkset HO6.out HT6.out p _
          . simp only [if_neg e]
            refine own_rkset (own_of_block (HRS.out.own d hd) fun kk hk => HG6.out.block kk (own_lt (HRS.out.own d hd) kk hk).2 (fun e2 => ?_)) HT6.out p _
            exact HRS.out.apart d p hd hpD e kk hk (by rw [hobp]; exact e2.symm)
        . by_cases e1 : d = p
          . by_cases e2 : e = p
            . exact absurd (e1.trans e2.symm) hde
            . simp only [if_neg e2]
              simp only [e1, if_true] at hg
              intro hg2
              have hgg : g = g6 := by have : some g6 = some g := hg; cases this; rfl
              rcases HA6.out with h6 | h6
              . exact HRS.out.apart p e hpD he (fun q => e2 q.symm) g (by rw [hobp, h6, hgg]) hg2
              . have := (own_lt (HRS.out.own e he) g hg2).2
                omega
          . simp only [if_neg e1] at hg
            by_cases e2 : e = p
            . simp only [e2, if_true]
              intro hg2
              have hgg : g = g6 := by have : some g6 = some g := hg2; cases this; rfl
              rcases HA6.out with h6 | h6
              . exact HRS.out.apart d p hd hpD e1 g hg (by rw [hobp, h6, hgg])
              . have := (own_lt (HRS.out.own d hd) g hg).2
                omega
            . simp only [if_neg e2]
              exact HRS.out.apart d e hd he hde g hg
        . by_cases e : d = p
          . simp only [e, if_true]
            omega
          . simp only [if_neg e]
            exact Nat.le_succ_of_le (HRS.out.small d hd)
        . rw [HMR.out d]
          have h9 := HEQ.out d hd
          by_cases e : d = p
          . subst e
            simp only [if_true]
            rw [← hvp] at h9
            simp only at h9
            exact ⟨by rw [h9.1], by rw [List.length_append, h9.2]; rfl⟩
          . simp only [if_neg e]
            exact h9
        . by_cases e : d = p
          . simp only [e, if_true]
            rfl
          . simp only [if_neg e]
    . obtain rfl : n = i := by omega
      have hd : decide ((n : Int) < (n : Int)) = false := decide_eq_false (by omega)
      go_wp2_with fail
      go_ret2
      exact ⟨gT, vs, rfl, hwT.1, ⟨⟨HRS.out.own, HRS.out.apart, fun d hd => Nat.le_trans (HRS.out.small d hd) (by omega)⟩, HT.out, HEQ.out⟩, HB.out⟩
theorem grown_below {w w' : World} {r : Option Nat} (h : Below w.heap.size w w') : w.grownBy w' r := ⟨h.os, h.tape, h.output, h.size, fun k hk _ => h.block k hk⟩
theorem grown_set {w w' : World} {g i : Nat} {v : Value} (h : w.grownBy w' (some g)) : w.grownBy (w'.setCell ⟨g, i, none⟩ v) (some g) :=
  ⟨h.os, h.tape, h.output, by rw [World.size_setCell]; exact h.size, fun k hk hne => (Below.heap_setCell _ _ _ _ (fun e => hne (by rw [show k = g from e]))).trans (h.block k hk hne)⟩
theorem wToldT (a b : Option Addr) (ca cb : Nat) (l : List Int) (x : Int) (B : Nat) (hl : l.length <= 1000000000000000) (w : World) (hA : NsW w B a l) (hB : Ns w b l) : Calls Tryd.prog 9 #[.slice a l.length ca, .int .i64 x, .slice b l.length cb, .int .i64 x] w fun e w' => e = .returned (.bool true) /\ w.grownBy w' (ob a) := by
  have c1 := fun V (h : Below w.heap.size w V) => wInts a b ca cb l l hl V (hA.ns.below h) (hB.below h)
  rw [decide_eq_true rfl] at c1
  have HN : Hid (∀ V, Below w.heap.size w V -> l.length = 0 ∨ ∃ g off, a = some ⟨g, off, none⟩ /\ ∀ j, j < l.length -> (∃ u, V.cell? ⟨g, off + j, none⟩ = some u) /\ V.frozen? ⟨g, off + j, none⟩ = false) := hide (fun V hV => by
    rcases hA with h | ⟨g, off, e, hg, h⟩
    . exact .inl (by rw [h]; rfl)
    . refine .inr ⟨g, off, e, fun j hj => ?_⟩
      obtain ⟨h1, h2⟩ := h j _ (List.getElem?_eq_getElem hj)
      exact ⟨⟨_, (hV.cell (World.block_lt_of_cell? _ _ h1)).trans h1⟩, (fz_below hV h1).trans h2⟩)
  clear hA hB
  generalize l.length = n at *
  go_enter Tryd.func9, Tryd.ntmps9
  go_wp2_with (first | (go_at_call 18; refine (c1 _ (Below.refl _ _)).mono ?_; rintro e w1 ⟨rfl, hb1⟩))
  go_loopw [10] (fun vi wr => ∃ i : Nat, vi = .int .i64 (i : Int) /\ i <= n /\ Hid (n = 0 ∨ ∃ g off, a = some ⟨g, off, none⟩ /\ ∀ j, j < n -> (∃ u, wr.cell? ⟨g, off + j, none⟩ = some u) /\ wr.frozen? ⟨g, off + j, none⟩ = false) /\ Hid (w.grownBy wr (ob a))) (fun vi _ => n - (Go.RowKit.intOf vi).toNat)
  case atStart => exact ⟨0, rfl, Nat.zero_le _, hide (HN.out _ hb1), hide (grown_below hb1)⟩
  case round =>
    obtain ⟨i, rfl, hi, HS, HB⟩ := hrel
    by_cases h : i < n
    . have hd2 : decide ((i : Int) < (n : Int)) = true := decide_eq_true (by omega)
      obtain ⟨g, off, rfl, hc⟩ := HS.out.resolve_left (by omega)
      obtain ⟨⟨u, k1⟩, k2⟩ := hc i h
      have HC := hide hc
      clear hc HS HN
      go_wp2_with fail
      go_roundw
      case rel => exact ⟨i + 1, by go_num, by omega, hide (.inr ⟨g, off, rfl, fun j hj => ⟨cell?_setCell_some (HC.out j hj).1.choose_spec, by rw [World.frozen?_setCell]; exact (HC.out j hj).2⟩⟩), hide (grown_set HB.out)⟩
      case measure => simp [Go.RowKit.intOf]; omega
    . have hd2 : decide ((i : Int) < (n : Int)) = false := decide_eq_false (by omega)
      clear HS HN
      go_wp2_with fail
      go_ret
      exact ⟨rfl, HB.out⟩
theorem pMomentsNo (c : Circ) (hok : okC c = false) (ao : Option Addr) (k : Nat) (w : World) (hT : Tb w) (hC : Ci w c ao k) : Calls Tryd.prog 21 #[cV c ao k] w fun e w' => e = .returned (.tuple #[.slice none 0 0, .int .i64 80]) /\ Below w.heap.size w w' := by
  have c1 := fun V (h : Below w.heap.size w V) => cCheck c ao k V (hT.below h) (hC.below h)
  have h0 : (chkC c).2 = 80 := by
    have h2 := chk_two c
    unfold okC at hok
    rcases h2 with h2 | h2
    . rw [h2] at hok; cases hok
    . exact h2
  rw [h0] at c1
  obtain ⟨q, b, ops⟩ := c
  unfold cV at *
  simp only at *
  generalize (chkC ⟨q, b, ops⟩).1 = z1 at *
  generalize ops.length = n at *
  have hb1 := bnew w (.cells #[.int .i64 q, .int .i64 b, .slice ao n k] 24)
  have hm1 := heap_alloc_new w (.cells #[.int .i64 q, .int .i64 b, .slice ao n k] 24)
  obtain ⟨x0, x1, x2, x3⟩ := def_cells hm1
  have c1' := c1 _ hb1
  clear c1 hC hT
  go_enter Tryd.func21, Tryd.ntmps21
  go_wp2_with (go_at_call 29; refine c1'.mono ?_; rintro e w2 ⟨rfl, hb2⟩)
  go_ret2
  exact ⟨rfl, hb1.trans (hb2.mono hb1.size)⟩
end Go.Proofs.YthndpbjplcphpaaDoor.Lay
