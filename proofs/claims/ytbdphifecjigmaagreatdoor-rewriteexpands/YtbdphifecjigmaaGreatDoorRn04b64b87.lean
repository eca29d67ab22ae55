import Derived.Test.YtbdphifecjigmaaGreatDoorRn695d56d7
namespace Go.Proofs.YtbdphifecjigmaaGreatDoor.Cir
end Go.Proofs.YtbdphifecjigmaaGreatDoor.Cir
namespace Go.Proofs.YtbdphifecjigmaaGreatDoor.Gt
end Go.Proofs.YtbdphifecjigmaaGreatDoor.Gt
namespace Go.Proofs.YtbdphifecjigmaaGreatDoor.Oct
end Go.Proofs.YtbdphifecjigmaaGreatDoor.Oct
namespace Go.Proofs.YtbdphifecjigmaaGreatDoor.Tok
end Go.Proofs.YtbdphifecjigmaaGreatDoor.Tok
set_option maxRecDepth 100000
set_option maxHeartbeats 4000000
namespace Go.Proofs.YtbdphifecjigmaaGreatDoor.Rwt
open Go.RowKit Go.Shelf Go.Proofs.YtbdphifecjigmaaGreatDoor.Oct Go.Proofs.YtbdphifecjigmaaGreatDoor.Tok Go.Proofs.YtbdphifecjigmaaGreatDoor.Gt Go.Proofs.YtbdphifecjigmaaGreatDoor.Cir
theorem rw_q : ∀ k : Fin 21, (12 <= k.1 /\ k.1 <= 17 -> (rw' (k.1 : Int)).q = 2) /\ (k.1 = 19 ∨ k.1 = 20 -> (rw' (k.1 : Int)).q = 3) := by decide +kernel
theorem ar_may {q b : Int} {o : COp} (h : mayP q b o = true) : (12 <= o.gate /\ o.gate <= 17 -> 2 <= o.qs.length) /\ (o.gate = 19 ∨ o.gate = 20 -> 3 <= o.qs.length) := by
  obtain ⟨kind, gate, qs, bit, cond, whn⟩ := o
  simp only
  unfold mayP at h
  simp only at h
  have ng : noGP ⟨kind, gate, qs, bit, cond, whn⟩ = true -> gate = 0 := fun h => by
    unfold noGP at h
    rw [Bool.and_eq_true, decide_eq_true_eq] at h
    exact h.1
  split at h
  . rw [Bool.and_eq_true, Bool.and_eq_true, decide_eq_true_eq] at h
    have hc := h.1.1
    unfold chkP at hc
    split at hc
    . cases hc
    . split at hc
      . cases hc
      . rename_i ha
        have ha' : apP (rw' gate).q qs = true := by simpa using ha
        unfold apP at ha'
        rw [Bool.and_eq_true, decide_eq_true_eq] at ha'
        have hl := ha'.1
        refine ⟨fun hk => ?_, fun hk => ?_⟩
        . have := (rw_q ⟨gate.toNat, by omega⟩).1 (by simp only; omega)
          simp only [show ((gate.toNat : Nat) : Int) = gate by omega] at this
          omega
        . have := (rw_q ⟨gate.toNat, by omega⟩).2 (by simp only; omega)
          simp only [show ((gate.toNat : Nat) : Int) = gate by omega] at this
          omega
  . split at h
    . rw [Bool.and_eq_true, Bool.and_eq_true, Bool.and_eq_true] at h
      have := ng h.1.1.1
      omega
    . split at h
      . rw [Bool.and_eq_true, Bool.and_eq_true, Bool.and_eq_true] at h
        have := ng h.1.1.1
        omega
      . split at h
        . rw [Bool.and_eq_true, Bool.and_eq_true, Bool.and_eq_true] at h
          have := ng h.1.1.1
          omega
        . cases h
theorem ex_len (k : Int) (qs : List Int) : (exP k qs).length <= 8 /\ 1 <= (exP k qs).length := by
  unfold exP
  repeat' split
  all_goals simp [ex12, ex13, ex14, ex15, ex16, ex17, ex19, ex20]
def xpO (o : COp) : List COp := (exP o.gate o.qs).map (lkO o)
theorem xp_take (ops : List COp) (i : Nat) (o : COp) (h : ops[i]? = some o) : (ops.take (i + 1)).flatMap xpO = (ops.take i).flatMap xpO ++ xpO o := by
  obtain ⟨hi, e⟩ := List.getElem?_eq_some_iff.1 h
  rw [List.take_succ_eq_append_getElem hi, List.flatMap_append, e]
  simp
theorem xp_len : ∀ l : List COp, (l.flatMap xpO).length <= 8 * l.length
  | [] => by simp
  | o :: r => by
    have := xp_len r
    have h1 := (ex_len o.gate o.qs).1
    rw [List.flatMap_cons, List.length_append, List.length_cons]
    unfold xpO at *
    rw [List.length_map]
    omega
theorem opsown_nil (w : World) (B : Nat) : OpsOwn w B none 0 0 [] := ⟨[], rfl, rfl, ⟨rfl, .inl ⟨rfl, rfl⟩⟩, (fun _ h => nomatch h), List.Pairwise.nil⟩
theorem infoCi18 : (Tryz.prog.info? 24).map (·.size) = some 3 := by kernel_rfl
structure PJ (w w1 V : World) (q b : Int) (ao : Option Addr) (n k : Nat) (l : List COp) : Prop where
  bel : Below w1.heap.size w1 V
  pen : ∃ lk al nl cl bo m c, Pen V w1.heap.size w1.heap.size lk (.slice al nl cl) bo m c l
theorem rExpandC_no (c : Circ) (ao : Option Addr) (k : Nat) (hk : (chkC c).2 ≠ 0) (w : World) (hT : Tb w) (hC : Ci w c ao k) : Calls Tryz.prog 5 #[cV c ao k] w fun e w' => e = .returned (.tuple #[.agg #[.int .i64 0, .int .i64 0, .slice none 0 0], .int .i64 (chkC c).2]) /\ Below w.heap.size w w' := by
  have c1 := fun V (h : Below w.heap.size w V) => cCheck c ao k V (hT.below h) (hC.below h)
  obtain ⟨q, b, ops⟩ := c
  unfold cV at *
  simp only at *
  generalize ops.length = n at *
  obtain ⟨z2, hz2⟩ : ∃ z, (chkC ⟨q, b, ops⟩).2 = z := ⟨_, rfl⟩
  rw [hz2] at hk c1 ⊢
  have hd : (z2 == 0) = false := beq_eq_false_iff_ne.2 hk
  have hd' : (z2 != 0) = true := by unfold bne; rw [hd]; rfl
  generalize (chkC ⟨q, b, ops⟩).1 = z1 at *
  clear hz2 hk hC hT
  have HB0 : Hid (Below w.heap.size w ((w.alloc (.cells #[.int .i64 q, .int .i64 b, .slice ao n k] 24)).alloc (.cells #[.int .i64 0, .int .i64 0, .slice none 0 0] 24))) := hide (((Below.refl _ _).alloc (Nat.le_refl _) _).alloc (by simp) _)
  have HK : Hid (∀ V, Below ((w.alloc (.cells #[.int .i64 q, .int .i64 b, .slice ao n k] 24)).alloc (.cells #[.int .i64 0, .int .i64 0, .slice none 0 0] 24)).heap.size ((w.alloc (.cells #[.int .i64 q, .int .i64 b, .slice ao n k] 24)).alloc (.cells #[.int .i64 0, .int .i64 0, .slice none 0 0] 24)) V -> V.heap[w.heap.size + 1]? = some (.cells #[.int .i64 0, .int .i64 0, .slice none 0 0] 24 (0, 0))) := hide (fun V hV => (may_keep hV).2)
  go_enter Tryz.func5, Tryz.ntmps5
  go_wp2_with fail
  refine (c1 _ HB0.out).mono ?_
  rintro e w1 ⟨rfl, hb1⟩
  have m1 := HK.out w1 hb1
  obtain ⟨x0, x1, x2, x3⟩ := def_cells m1
  have xf : ∀ i, w1.frozen? ⟨w.heap.size + 1, i, none⟩ = false := fun i => by simp [World.frozen?, m1]
  have HM := hide m1
  have HW := hide (bkp HB0.out hb1)
  clear m1 hb1 c1
  go_wp2_with fail
  rw [c3_set18 _ _ _ _ _ _ _ _ _ HM.out]
  refine bodyPost_ret (results_ct rfl _ _ (w.heap.size + 1) _ _ _ _ rfl (setRow_heap _ _ _ _ _ _ HM.out) Tryz.underlying24 rfl (by exact infoCi18)) rfl ?_
  exact ⟨rfl, Below.row HW.out _ _ (by omega)⟩
theorem pen_set6 (w : World) (g : Nat) (x0 x1 x2 x3 x4 x5 x6 a b c d e f : Value) (t : TypeId) (h : w.heap[g]? = some (.cells #[x0, x1, x2, x3, x4, x5, x6] t (0, 0))) : (((((w.setCell ⟨g, 0, none⟩ a).setCell ⟨g, 1, none⟩ b).setCell ⟨g, 2, none⟩ c).setCell ⟨g, 3, none⟩ d).setCell ⟨g, 4, none⟩ e).setCell ⟨g, 5, none⟩ f = w.setRow g #[a, b, c, d, e, f, x6] := by
  rw [setCell_eq_setRow w g 0 _ t _ _ h, setCell_eq_setRow _ g 1 _ t _ _ (setRow_heap w g _ _ t _ h), setRow_setRow, setCell_eq_setRow _ g 2 _ t _ _ (setRow_heap w g _ _ t _ h), setRow_setRow, setCell_eq_setRow _ g 3 _ t _ _ (setRow_heap w g _ _ t _ h), setRow_setRow, setCell_eq_setRow _ g 4 _ t _ _ (setRow_heap w g _ _ t _ h), setRow_setRow, setCell_eq_setRow _ g 5 _ t _ _ (setRow_heap w g _ _ t _ h), setRow_setRow]
  rfl
theorem Pen.like {V : World} {B g : Nat} {lk : COp} {lv : Value} {ao : Option Addr} {n c : Nat} {l : List COp} (h : Pen V B g lk lv ao n c l) (o : COp) (v : Value) : Pen (V.setRow g #[.int .i64 o.kind, .int .i64 o.gate, v, .int .i64 o.bit, .int .i64 o.cond, .int .i64 o.whn, .slice ao n c]) B g o v ao n c l :=
  ⟨setRow_heap _ _ _ _ _ _ h.hd, h.bg, h.ops.row h.hd (by decide) (by decide) _, by rw [setRow_size]; exact h.vs⟩
theorem rExpandC_ok (c : Circ) (ao : Option Addr) (k : Nat) (hk : (chkC c).2 = 0) (w : World) (hT : Tb w) (hC : Ci w c ao k) : Calls Tryz.prog 5 #[cV c ao k] w fun e w' => (4096 < (c.ops.flatMap xpO).length -> e = .returned (.tuple #[.agg #[.int .i64 0, .int .i64 0, .slice none 0 0], .int .i64 180]) /\ Below w.heap.size w w') /\ (¬ 4096 < (c.ops.flatMap xpO).length -> ∃ bo j, e = .returned (.tuple #[cV ⟨c.q, c.b, c.ops.flatMap xpO⟩ bo j, .int .i64 0]) /\ OpsOwn w' w.heap.size bo (c.ops.flatMap xpO).length j (c.ops.flatMap xpO) /\ Below w.heap.size w w') := by
  obtain ⟨-, -, -, -, hn, hm⟩ := chkC_ok hk
  have c1 := fun V (h : Below w.heap.size w V) => cCheck c ao k V (hT.below h) (hC.below h)
  rw [hk] at c1
  have HCO : Hid (∀ i o, c.ops[i]? = some o -> ∃ g off aq cq, ao = some ⟨g, off, none⟩ /\ g < w.heap.size /\ Oc w g (off + i * 6) o aq cq) := hide (fun i o h => hC.ops.at h)
  have HMY : Hid (∀ o ∈ c.ops, (12 <= o.gate /\ o.gate <= 17 -> 2 <= o.qs.length) /\ (o.gate = 19 ∨ o.gate = 20 -> 3 <= o.qs.length) /\ o.qs.length <= 1000) := hide (fun o ho => by
    obtain ⟨q0, q1, b0, b1, -, -⟩ := chkC_ok hk
    have h1 := ar_may (hm o ho)
    have h2 := (may_in q0 q1 b1 (hm o ho)).1
    exact ⟨h1.1, h1.2, by omega⟩)
  obtain ⟨q, b, ops⟩ := c
  unfold cV at *
  simp only at *
  obtain ⟨n, hnl⟩ : ∃ n, ops.length = n := ⟨_, rfl⟩
  have HNL := hide hnl
  have hroom := hC.room
  simp only at hroom
  rw [hnl] at hn c1 hroom ⊢
  generalize (chkC ⟨q, b, ops⟩).1 = z1 at *
  clear hnl hk hC hT hm
  have HB0 : Hid (Below w.heap.size w ((w.alloc (.cells #[.int .i64 q, .int .i64 b, .slice ao n k] 24)).alloc (.cells #[.int .i64 0, .int .i64 0, .slice none 0 0] 24))) := hide (((Below.refl _ _).alloc (Nat.le_refl _) _).alloc (by simp) _)
  have HK : Hid (∀ V, Below ((w.alloc (.cells #[.int .i64 q, .int .i64 b, .slice ao n k] 24)).alloc (.cells #[.int .i64 0, .int .i64 0, .slice none 0 0] 24)).heap.size ((w.alloc (.cells #[.int .i64 q, .int .i64 b, .slice ao n k] 24)).alloc (.cells #[.int .i64 0, .int .i64 0, .slice none 0 0] 24)) V -> V.heap[w.heap.size]? = some (.cells #[.int .i64 q, .int .i64 b, .slice ao n k] 24 (0, 0)) /\ V.heap[w.heap.size + 1]? = some (.cells #[.int .i64 0, .int .i64 0, .slice none 0 0] 24 (0, 0))) := hide (fun V hV => may_keep hV)
  go_enter Tryz.func5, Tryz.ntmps5
  go_wp2_with fail
  refine (c1 _ HB0.out).mono ?_
  rintro e w1 ⟨rfl, hb1⟩
  obtain ⟨m0, m1⟩ := HK.out w1 hb1
  obtain ⟨x0, x1, x2, x3⟩ := def_cells m0
  have HM0 := hide m0
  have HM1 := hide m1
  have HW := hide (bkp HB0.out hb1)
  have hw1s : w.heap.size + 1 < w1.heap.size := (Array.getElem?_eq_some_iff.1 m1).1
  have HJ0 : Hid (PJ w w1 (w1.alloc (.cells #[.int .i64 0, .int .i64 0, .slice none 0 0, .int .i64 0, .int .i64 0, .int .i64 0, .slice none 0 0] 44)) q b ao n k []) := hide ⟨bnew _ _, ⟨⟨0, 0, [], 0, 0, 0⟩, none, 0, 0, none, 0, 0, ⟨heap_alloc_new _ _, Nat.le_refl _, opsown_nil _ _, by simp⟩⟩⟩
  clear m0 m1 hb1 c1
  go_wp2_with fail
  go_loopw [21] (fun vi wr => ∃ (i : Nat), vi = .int .i64 (i : Int) /\ i <= n /\ PJ w w1 wr q b ao n k ((ops.take i).flatMap xpO)) (fun vi _ => n - (Go.RowKit.intOf vi).toNat)
  case atStart => exact ⟨0, rfl, Nat.zero_le _, by simpa using HJ0.out⟩
  case round =>
    obtain ⟨i, rfl, hi, hJ⟩ := hrel
    by_cases h : i < n
    . have hd : decide ((i : Int) < (n : Int)) = true := decide_eq_true (by omega)
      obtain ⟨o, ho⟩ : ∃ o, ops[i]? = some o := ⟨_, List.getElem?_eq_getElem (by rw [HNL.out]; exact h)⟩
      obtain ⟨g, off, aq, cq, hao, hg, hOc⟩ := HCO.out i o ho
      subst hao
      have hbw : Below w.heap.size w wr := bkp HW.out hJ.bel
      have hO := hOc.below hbw
      have k0 := hO.kind
      have k1 := hO.gate
      have k2 := hO.qs
      have k3 := hO.bit
      have k4 := hO.cond
      have k5 := hO.whn
      have hgl := World.block_lt_of_cell? _ _ k0
      obtain ⟨lk, al, nl, cl, bo, m, c', hP⟩ := hJ.pen
      have pc : ∀ ob, Pen (wr.alloc ob) w1.heap.size w1.heap.size lk (.slice al nl cl) bo m c' ((ops.take i).flatMap xpO) := fun ob => hP.below (bnew _ _)
      have p0 := fun ob => (pen_cells (pc ob).hd).1
      have p1 := fun ob => (pen_cells (pc ob).hd).2.1
      have p2 := fun ob => (pen_cells (pc ob).hd).2.2.1
      have p3 := fun ob => (pen_cells (pc ob).hd).2.2.2.1
      have p4 := fun ob => (pen_cells (pc ob).hd).2.2.2.2.1
      have p5 := fun ob => (pen_cells (pc ob).hd).2.2.2.2.2.1
      obtain ⟨r0, r1, r2, r3, r4, r5, r6, hpl⟩ := pen_cells hP.hd
      have pf : ∀ x, wr.frozen? ⟨w1.heap.size, x, none⟩ = false := fun x => by simp [World.frozen?, hP.hd]
      have HP := hide hP
      have HJ := hide hJ
      clear hJ hP pc hO hbw
      have HTK := hide (xp_take ops i o ho)
      obtain ⟨my1, my2, my3⟩ := HMY.out o (List.mem_of_getElem? ho)
      have hmb : m <= 80000 := by
        have h1 := own_len18 HP.out.ops
        have h2 := xp_len (ops.take i)
        rw [List.length_take] at h2
        omega
      obtain ⟨kind, gate, qs, bit, cond, whn⟩ := o
      simp only at *
      have HY := hide (HP.out.like ⟨kind, gate, qs, bit, cond, whn⟩ (.slice aq qs.length cq))
      have hYb : Below w1.heap.size w1 (wr.setRow w1.heap.size #[.int .i64 kind, .int .i64 gate, .slice aq qs.length cq, .int .i64 bit, .int .i64 cond, .int .i64 whn, .slice bo m c']) := Below.row HJ.out.bel _ _ (Nat.le_refl _)
      have hYa := hYb.alloc (Nat.le_trans hYb.size (Nat.le_refl _)) (.cells #[.int .i64 kind, .int .i64 gate, .slice aq qs.length cq, .int .i64 bit, .int .i64 cond, .int .i64 whn] 40)
      have HC2 := hide (rExpand (HY.out.below (bnew _ (.cells #[.int .i64 kind, .int .i64 gate, .slice aq qs.length cq, .int .i64 bit, .int .i64 cond, .int .i64 whn] 40))) ⟨_, _, _, rfl⟩ gate aq cq qs my3 (hOc.ns.below (bkp HW.out hYa)) (fun g' off' e hne => by
        rcases hOc.ns with e1 | ⟨g2, off2, e2, hcl⟩
        . exact absurd e1 hne
        . rw [e] at e2
          cases e2
          obtain ⟨z, hz⟩ : ∃ z, qs[0]? = some z := ⟨_, List.getElem?_eq_getElem (by cases qs with | nil => exact absurd rfl hne | cons a r => simp)⟩
          have hlt' : g' < w.heap.size := World.block_lt_of_cell? _ _ (hcl 0 z hz)
          omega) hmb my1 my2)
      have HYA := hide hYa
      have HSET := hide (pen_set6 wr w1.heap.size _ _ _ _ _ _ _ (.int .i64 kind) (.int .i64 gate) (.slice aq qs.length cq) (.int .i64 bit) (.int .i64 cond) (.int .i64 whn) _ HP.out.hd)
      clear hYb hYa my1 my2 my3 hOc ho
      go_wp2_with fail
      rw [HSET.out]
      refine (HC2.out).mono ?_
      rintro e w5 ⟨rfl, ⟨bo5, c5, hp5⟩, hb5⟩
      have HJ5 : Hid (PJ w w1 w5 q b (some ⟨g, off, none⟩) n k ((ops.take (i + 1)).flatMap xpO)) := hide ⟨HYA.out.trans hb5, ⟨_, _, _, _, bo5, _, c5, by rw [HTK.out]; exact hp5⟩⟩
      clear hp5 hb5 HSET HC2 HYA HY HP HJ k0 k1 k2 k3 k4 k5 p0 p1 p2 p3 p4 p5 r0 r1 r2 r3 r4 r5 r6 pf
      go_wp2_with fail
      go_roundw
      case rel => exact ⟨i + 1, by go_num, by omega, HJ5.out⟩
      case measure => simp [Go.RowKit.intOf]; omega
    . obtain rfl : n = i := by omega
      have hd : decide ((n : Int) < (n : Int)) = false := decide_eq_false (by omega)
      have hfin : (ops.take n).flatMap xpO = ops.flatMap xpO := by rw [← HNL.out, List.take_length]
      rw [hfin] at hJ
      obtain ⟨lk, al, nl, cl, bo, m, c', hP⟩ := hJ.pen
      obtain ⟨-, -, -, -, -, -, r6, hpl⟩ := pen_cells hP.hd
      have hml := own_len18 hP.ops
      have n0 := (hJ.bel.block w.heap.size (by omega)).trans HM0.out
      have n1 := (hJ.bel.block (w.heap.size + 1) (by omega)).trans HM1.out
      obtain ⟨y0, y1, y2, y3⟩ := def_cells n0
      obtain ⟨z0, z1', z2, z3⟩ := def_cells n1
      have zf : ∀ x, wr.frozen? ⟨w.heap.size + 1, x, none⟩ = false := fun x => by simp [World.frozen?, n1]
      have HN1 := hide n1
      have HP := hide hP
      have HBW := hide (bkp HW.out hJ.bel)
      have HML := hide hml
      clear hml
      clear n0 n1 hP hJ hfin HCO HMY HJ0 HK HB0
      by_cases hx : 4096 < m
      . have hd2 : decide ((4096 : Int) < (m : Int)) = true := decide_eq_true (by omega)
        go_wp2_with fail
        rw [c3_set18 _ _ _ _ _ _ _ _ _ HN1.out]
        refine bodyPost_ret (results_ct rfl _ _ (w.heap.size + 1) _ _ _ _ rfl (setRow_heap _ _ _ _ _ _ HN1.out) Tryz.underlying24 rfl (by exact infoCi18)) rfl ?_
        rw [← HML.out]
        exact ⟨fun _ => ⟨rfl, Below.row HBW.out _ _ (by omega)⟩, fun h => absurd hx h⟩
      . have hd2 : decide ((4096 : Int) < (m : Int)) = false := decide_eq_false (by omega)
        go_wp2_with fail
        rw [c3_set18 _ _ _ _ _ _ _ _ _ HN1.out]
        refine bodyPost_ret (results_ct rfl _ _ (w.heap.size + 1) _ _ _ _ rfl (setRow_heap _ _ _ _ _ _ HN1.out) Tryz.underlying24 rfl (by exact infoCi18)) rfl ?_
        rw [← HML.out]
        exact ⟨fun h => absurd h hx, fun _ => ⟨bo, c', rfl, ((HP.out.ops.base (show w.heap.size <= w1.heap.size by omega)).row HN1.out (by decide) (by decide) _), Below.row HBW.out _ _ (by omega)⟩⟩
end Go.Proofs.YtbdphifecjigmaaGreatDoor.Rwt
