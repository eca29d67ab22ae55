import Derived.Test.YtmkalhaegbnknaaDoorQ8e3b1666
import Derived.Test.YtmkalhaegbnknaaDoorQ903c3dc9
set_option maxRecDepth 100000
set_option maxHeartbeats 4000000
namespace Go.Proofs.YtmkalhaegbnknaaDoor.Cir
open Go.RowKit Go.Shelf Go.Proofs.YtmkalhaegbnknaaDoor.Oct Go.Proofs.YtmkalhaegbnknaaDoor.Tok Go.Proofs.YtmkalhaegbnknaaDoor.Gt Go.Proofs.YtmkalhaegbnknaaDoor.Rf
theorem dMirror_e (c : Circ) (ao : Option Addr) (k : Nat) (hi : (ivP c).2 ≠ 0) (hS : Szs c.ops) (w : World) (hC : Ci w c ao k) : Calls Tryd.prog 11 #[cV c ao k] w fun e w' => e = .returned (.tuple #[cV nulC none 0, .int .i64 (ivP c).2]) /\ Below w.heap.size w w' := by
  have c1 := fun V (h : Below w.heap.size w V) => dInverse c ao k hS V (hC.below h)
  have hln := hC.len
  generalize ivP c = R at *
  obtain ⟨q, b, l⟩ := c
  obtain ⟨⟨iq, ib, il⟩, ie⟩ := R
  unfold cV nulC at *
  simp only [List.length_nil] at *
  generalize il.length = iN at *
  generalize l.length = n at *
  have f1 : (ie == 0) = false := by simpa using hi
  have f2 : (ie != 0) = true := by simpa using hi
  clear hi
  clear hC hS hln
  have HB0 := hide (show Below w.heap.size w ((w.alloc (.cells #[.int .i64 q, .int .i64 b, .slice ao n k] 24)).alloc (.cells #[.int .i64 0, .int .i64 0, .slice none 0 0] 24)) from (bnew _ _).trans ((bnew _ _).mono (by simp)))
  go_enter Tryd.func11, Tryd.ntmps11
  go_wp2_with (first
    | (go_at_call 6; refine (c1 _ HB0.out).mono ?_; rintro e w1 ⟨do1, dj, rfl, hO1, hb1⟩; obtain ⟨m1, m2⟩ := may_keep hb1; obtain ⟨x0, x1, x2, x3⟩ := def_cells m1; have HB1 := hide (HB0.out.trans (hb1.mono HB0.out.size)); have HM2 := hide m2; clear hb1 m1 m2 hO1)
    | refine wpList_store_row rfl _ _ _ rfl (w.heap.size + 1) _ rfl rfl _ _ ((Below.heap_alloc _ _ _ (Array.getElem?_eq_some_iff.1 HM2.out).1).trans HM2.out) (by exact infoCi) (by rfl) (by simp [Value.oneCell']) ?_)
  have hm := (Below.heap_alloc w1 (.cells #[.int .i64 iq, .int .i64 ib, .slice do1 iN dj] 24) _ (Array.getElem?_eq_some_iff.1 HM2.out).1).trans HM2.out
  refine bodyPost_ret (results_ct rfl _ _ (w.heap.size + 1) _ _ _ _ rfl (setRow_heap _ _ _ _ _ _ hm) Tryd.underlying24 rfl (by exact infoCi)) rfl ?_
  exact ⟨rfl, Below.row (HB1.out.trans ((bnew _ _).mono HB1.out.size)) _ _ (by omega)⟩
theorem dMirror_long (c : Circ) (ao : Option Addr) (k : Nat) (hi : (ivP c).2 = 0) (hl : 4096 < c.ops.length + c.ops.length) (hS : Szs c.ops) (w : World) (hC : Ci w c ao k) : Calls Tryd.prog 11 #[cV c ao k] w fun e w' => e = .returned (.tuple #[cV nulC none 0, .int .i64 170]) /\ Below w.heap.size w w' := by
  have c1 := fun V (h : Below w.heap.size w V) => dInverse c ao k hS V (hC.below h)
  have hln := hC.len
  generalize ivP c = R at *
  obtain ⟨q, b, l⟩ := c
  obtain ⟨⟨iq, ib, il⟩, ie⟩ := R
  unfold cV nulC at *
  simp only [List.length_nil] at *
  generalize il.length = iN at *
  generalize l.length = n at *
  subst hi
  have g0 : wrap64 (2 * (n : Int)) = 2 * (n : Int) := by unfold wrap64; omega
  have d0 : decide (2 * (n : Int) > 4096) = true := decide_eq_true (by omega)
  have d1 : decide ((4096 : Int) < 2 * (n : Int)) = true := decide_eq_true (by omega)
  clear hl
  clear hC hS hln
  have HB0 := hide (show Below w.heap.size w ((w.alloc (.cells #[.int .i64 q, .int .i64 b, .slice ao n k] 24)).alloc (.cells #[.int .i64 0, .int .i64 0, .slice none 0 0] 24)) from (bnew _ _).trans ((bnew _ _).mono (by simp)))
  go_enter Tryd.func11, Tryd.ntmps11
  go_wp2_with (first
    | (go_at_call 6; refine (c1 _ HB0.out).mono ?_; rintro e w1 ⟨do1, dj, rfl, hO1, hb1⟩; obtain ⟨m1, m2⟩ := may_keep hb1; obtain ⟨x0, x1, x2, x3⟩ := def_cells m1; have HB1 := hide (HB0.out.trans (hb1.mono HB0.out.size)); have HM2 := hide m2; clear hb1 m1 m2 hO1)
    | refine wpList_store_row rfl _ _ _ rfl (w.heap.size + 1) _ rfl rfl _ _ ((Below.heap_alloc _ _ _ (Array.getElem?_eq_some_iff.1 HM2.out).1).trans HM2.out) (by exact infoCi) (by rfl) (by simp [Value.oneCell']) ?_)
  have hm := (Below.heap_alloc w1 (.cells #[.int .i64 iq, .int .i64 ib, .slice do1 iN dj] 24) _ (Array.getElem?_eq_some_iff.1 HM2.out).1).trans HM2.out
  refine bodyPost_ret (results_ct rfl _ _ (w.heap.size + 1) _ _ _ _ rfl (setRow_heap _ _ _ _ _ _ hm) Tryd.underlying24 rfl (by exact infoCi)) rfl ?_
  exact ⟨rfl, Below.row (HB1.out.trans ((bnew _ _).mono HB1.out.size)) _ _ (by omega)⟩
theorem iv_ok {c : Circ} (h : (ivP c).2 = 0) : (chkC c).2 = 0 /\ c.ops.any unO = false /\ ivP c = (⟨c.q, c.b, c.ops.reverse.map ivO⟩, 0) := by
  have hc : (chkC c).2 = 0 /\ c.ops.any unO = false := by
    unfold ivP at h
    split at h
    . simp at h
    . rename_i h1
      split at h
      . simp at h
      . rename_i h2
        exact ⟨by simpa using h1, by simpa using h2⟩
  refine ⟨hc.1, hc.2, ?_⟩
  unfold ivP
  rw [if_neg (by simp [hc.1]), if_neg (by simp [hc.2])]
theorem dMirror (c : Circ) (ao : Option Addr) (k : Nat) (hS : Szs c.ops) (w : World) (hC : Ci w c ao k) : Calls Tryd.prog 11 #[cV c ao k] w fun e w' => ∃ bo j, e = .returned (.tuple #[cV (miP c).1 bo j, .int .i64 (miP c).2]) /\ OpsAt w' w.heap.size bo (miP c).1.ops.length j (miP c).1.ops /\ Below w.heap.size w w' := by
  by_cases h : (ivP c).2 = 0
  . by_cases hl : 4096 < c.ops.length + c.ops.length
    . have e : miP c = (nulC, 170) := by unfold miP; rw [if_neg (by simp [h]), if_pos hl]
      rw [e]
      refine (dMirror_long c ao k h hl hS w hC).mono ?_
      rintro e w' ⟨rfl, hb⟩
      exact ⟨none, 0, rfl, OpsAt.nil17 _ _, hb⟩
    . have e : miP c = (⟨c.q, c.b, c.ops ++ c.ops.reverse.map ivO⟩, 0) := by
        unfold miP
        rw [if_neg (by simp [h]), if_neg hl, (iv_ok h).2.2]
      rw [e]
      refine (dMirror_ok c ao k (iv_ok h).2.2 (by omega) hS w hC).mono ?_
      rintro e w' ⟨bo, j, rfl, h1, h2⟩
      exact ⟨bo, j, rfl, by simpa using h1, h2⟩
  . have e : miP c = (nulC, (ivP c).2) := by unfold miP; rw [if_pos h]
    rw [e]
    refine (dMirror_e c ao k h hS w hC).mono ?_
    rintro e w' ⟨rfl, hb⟩
    exact ⟨none, 0, rfl, OpsAt.nil17 _ _, hb⟩
theorem dPower_80 (c : Circ) (ao : Option Addr) (k : Nat) (p : Int) (hk : ((chkC c).2 == 0) = false) (w : World) (hC : Ci w c ao k) : Calls Tryd.prog 13 #[cV c ao k, .int .i64 p] w fun e w' => e = .returned (.tuple #[cV nulC none 0, .int .i64 80]) /\ Below w.heap.size w w' := by
  have c1 := fun V (h : Below w.heap.size w V) => eMay c ao k V (hC.below h)
  rw [hk] at c1
  obtain ⟨q, b, l⟩ := c
  unfold cV nulC at *
  simp only [List.length_nil] at *
  generalize l.length = n at *
  clear hC hk
  have HB0 := hide (show Below w.heap.size w ((w.alloc (.cells #[.int .i64 q, .int .i64 b, .slice ao n k] 24)).alloc (.cells #[.int .i64 0, .int .i64 0, .slice none 0 0] 24)) from (bnew _ _).trans ((bnew _ _).mono (by simp)))
  go_enter Tryd.func13, Tryd.ntmps13
  go_wp2_with (first
    | (go_at_call 23; refine (c1 _ HB0.out).mono ?_; rintro e w1 ⟨rfl, hb1⟩; obtain ⟨m1, m2⟩ := may_keep hb1; obtain ⟨x0, x1, x2, x3⟩ := def_cells m1; have HB1 := hide (HB0.out.trans (hb1.mono HB0.out.size)); have HM1 := hide m1; have HM2 := hide m2; clear hb1 m1 m2)
    | refine wpList_store_row rfl _ _ _ rfl (w.heap.size + 1) _ rfl rfl _ _ HM2.out (by exact infoCi) (by rfl) (by simp [Value.oneCell']) ?_)
  refine bodyPost_ret (results_ct rfl _ _ (w.heap.size + 1) _ _ _ _ rfl (setRow_heap _ _ _ _ _ _ HM2.out) Tryd.underlying24 rfl (by exact infoCi)) rfl ?_
  exact ⟨rfl, Below.row HB1.out _ _ (by omega)⟩
theorem dPower_lo (c : Circ) (ao : Option Addr) (k : Nat) (p : Int) (hk : ((chkC c).2 == 0) = true) (hp : p < -4096) (w : World) (hC : Ci w c ao k) : Calls Tryd.prog 13 #[cV c ao k, .int .i64 p] w fun e w' => e = .returned (.tuple #[cV nulC none 0, .int .i64 170]) /\ Below w.heap.size w w' := by
  have c1 := fun V (h : Below w.heap.size w V) => eMay c ao k V (hC.below h)
  rw [hk] at c1
  obtain ⟨q, b, l⟩ := c
  unfold cV nulC at *
  simp only [List.length_nil] at *
  generalize l.length = n at *
  have d1 : decide (p < -4096) = true := decide_eq_true (by omega)
  clear hp
  clear hC hk
  have HB0 := hide (show Below w.heap.size w ((w.alloc (.cells #[.int .i64 q, .int .i64 b, .slice ao n k] 24)).alloc (.cells #[.int .i64 0, .int .i64 0, .slice none 0 0] 24)) from (bnew _ _).trans ((bnew _ _).mono (by simp)))
  go_enter Tryd.func13, Tryd.ntmps13
  go_wp2_with (first
    | (go_at_call 23; refine (c1 _ HB0.out).mono ?_; rintro e w1 ⟨rfl, hb1⟩; obtain ⟨m1, m2⟩ := may_keep hb1; obtain ⟨x0, x1, x2, x3⟩ := def_cells m1; have HB1 := hide (HB0.out.trans (hb1.mono HB0.out.size)); have HM1 := hide m1; have HM2 := hide m2; clear hb1 m1 m2)
    | refine wpList_store_row rfl _ _ _ rfl (w.heap.size + 1) _ rfl rfl _ _ HM2.out (by exact infoCi) (by rfl) (by simp [Value.oneCell']) ?_)
  refine bodyPost_ret (results_ct rfl _ _ (w.heap.size + 1) _ _ _ _ rfl (setRow_heap _ _ _ _ _ _ HM2.out) Tryd.underlying24 rfl (by exact infoCi)) rfl ?_
  exact ⟨rfl, Below.row HB1.out _ _ (by omega)⟩
theorem dPower_hi (c : Circ) (ao : Option Addr) (k : Nat) (p : Int) (hk : ((chkC c).2 == 0) = true) (hp : 4096 < p) (w : World) (hC : Ci w c ao k) : Calls Tryd.prog 13 #[cV c ao k, .int .i64 p] w fun e w' => e = .returned (.tuple #[cV nulC none 0, .int .i64 170]) /\ Below w.heap.size w w' := by
  have c1 := fun V (h : Below w.heap.size w V) => eMay c ao k V (hC.below h)
  rw [hk] at c1
  obtain ⟨q, b, l⟩ := c
  unfold cV nulC at *
  simp only [List.length_nil] at *
  generalize l.length = n at *
  have d1 : decide (p < -4096) = false := decide_eq_false (by omega)
  have d2 : decide (p > 4096) = true := decide_eq_true (by omega)
  have d3 : decide (4096 < p) = true := decide_eq_true (by omega)
  clear hp
  clear hC hk
  have HB0 := hide (show Below w.heap.size w ((w.alloc (.cells #[.int .i64 q, .int .i64 b, .slice ao n k] 24)).alloc (.cells #[.int .i64 0, .int .i64 0, .slice none 0 0] 24)) from (bnew _ _).trans ((bnew _ _).mono (by simp)))
  go_enter Tryd.func13, Tryd.ntmps13
  go_wp2_with (first
    | (go_at_call 23; refine (c1 _ HB0.out).mono ?_; rintro e w1 ⟨rfl, hb1⟩; obtain ⟨m1, m2⟩ := may_keep hb1; obtain ⟨x0, x1, x2, x3⟩ := def_cells m1; have HB1 := hide (HB0.out.trans (hb1.mono HB0.out.size)); have HM1 := hide m1; have HM2 := hide m2; clear hb1 m1 m2)
    | refine wpList_store_row rfl _ _ _ rfl (w.heap.size + 1) _ rfl rfl _ _ HM2.out (by exact infoCi) (by rfl) (by simp [Value.oneCell']) ?_)
  refine bodyPost_ret (results_ct rfl _ _ (w.heap.size + 1) _ _ _ _ rfl (setRow_heap _ _ _ _ _ _ HM2.out) Tryd.underlying24 rfl (by exact infoCi)) rfl ?_
  exact ⟨rfl, Below.row HB1.out _ _ (by omega)⟩
theorem dPower_non (c : Circ) (ao : Option Addr) (k : Nat) (p : Int) (hk : ((chkC c).2 == 0) = true) (hp1 : -4096 <= p) (hp : p < 0) (hu : c.ops.any unO = true) (w : World) (hC : Ci w c ao k) : Calls Tryd.prog 13 #[cV c ao k, .int .i64 p] w fun e w' => e = .returned (.tuple #[cV nulC none 0, .int .i64 170]) /\ Below w.heap.size w w' := by
  have c1 := fun V (h : Below w.heap.size w V) => eMay c ao k V (hC.below h)
  have c2 := fun V (h : Below w.heap.size w V) => eUnitary c ao k V (hC.below h)
  rw [hk] at c1
  rw [hu] at c2
  obtain ⟨q, b, l⟩ := c
  unfold cV nulC at *
  simp only [List.length_nil, Bool.not_true] at *
  generalize l.length = n at *
  have d1 : decide (p < -4096) = false := decide_eq_false (by omega)
  have d2 : decide (p > 4096) = false := decide_eq_false (by omega)
  have d3 : decide (4096 < p) = false := decide_eq_false (by omega)
  have d0 : decide (p < 0) = true := decide_eq_true (by omega)
  clear hp hp1 hu
  clear hC hk
  have HB0 := hide (show Below w.heap.size w ((w.alloc (.cells #[.int .i64 q, .int .i64 b, .slice ao n k] 24)).alloc (.cells #[.int .i64 0, .int .i64 0, .slice none 0 0] 24)) from (bnew _ _).trans ((bnew _ _).mono (by simp)))
  go_enter Tryd.func13, Tryd.ntmps13
  go_wp2_with (first
    | (go_at_call 23; refine (c1 _ HB0.out).mono ?_; rintro e w1 ⟨rfl, hb1⟩; obtain ⟨m1, m2⟩ := may_keep hb1; obtain ⟨x0, x1, x2, x3⟩ := def_cells m1; have HB1 := hide (HB0.out.trans (hb1.mono HB0.out.size)); have HM1 := hide m1; have HM2 := hide m2; clear hb1 m1 m2)
    | (go_at_call 24; refine (c2 _ HB1.out).mono ?_; rintro e w2 ⟨rfl, hb2⟩; have m1 := (hb2.block _ (Array.getElem?_eq_some_iff.1 HM1.out).1).trans HM1.out; have m2 := (hb2.block _ (Array.getElem?_eq_some_iff.1 HM2.out).1).trans HM2.out; obtain ⟨y0, y1, y2, y3⟩ := def_cells m1; have HB2 := hide (HB1.out.trans (hb2.mono HB1.out.size)); have HM3 := hide m1; have HM4 := hide m2; clear hb2 m1 m2)
    | refine wpList_store_row rfl _ _ _ rfl (w.heap.size + 1) _ rfl rfl _ _ HM4.out (by exact infoCi) (by rfl) (by simp [Value.oneCell']) ?_)
  refine bodyPost_ret (results_ct rfl _ _ (w.heap.size + 1) _ _ _ _ rfl (setRow_heap _ _ _ _ _ _ HM4.out) Tryd.underlying24 rfl (by exact infoCi)) rfl ?_
  exact ⟨rfl, Below.row HB2.out _ _ (by omega)⟩
theorem dPower_pos_big (c : Circ) (ao : Option Addr) (k : Nat) (a : Nat) (hk : (chkC c).2 = 0) (hp2 : a <= 4096) (hb : 4096 < a * c.ops.length) (hS : Szs c.ops) (w : World) (hC : Ci w c ao k) : Calls Tryd.prog 13 #[cV c ao k, .int .i64 (a : Int)] w fun e w' => e = .returned (.tuple #[cV nulC none 0, .int .i64 170]) /\ Below w.heap.size w w' := by
  have c1 := fun V (h : Below w.heap.size w V) => eMay c ao k V (hC.below h)
  rw [hk] at c1
  have hln := hC.len
  obtain ⟨q, b, l⟩ := c
  unfold cV nulC at *
  simp only [beq_self_eq_true, List.length_nil] at *
  generalize l.length = n at *
  have d1 : decide ((a : Int) < -4096) = false := decide_eq_false (by omega)
  have d2 : decide ((a : Int) > 4096) = false := decide_eq_false (by omega)
  have d3 : decide (4096 < (a : Int)) = false := decide_eq_false (by omega)
  have d0 : decide ((a : Int) < 0) = false := decide_eq_false (by omega)
  have ga : a <= 4096 := by omega
  have gm : a * n <= 4096 * 1000000000000000 := Nat.mul_le_mul ga hln
  have g3 : ∀ x : Nat, a * n = x -> (a : Int) * (n : Int) = (x : Int) := fun x hx => by rw [← hx]; simp
  generalize hanE : a * n = an at *
  have g4 : wrap64 ((a : Int) * (n : Int)) = (an : Int) := by
    rw [g3 an rfl]
    unfold wrap64
    omega
  clear g3
  have d4 : decide ((an : Int) > 4096) = true := decide_eq_true (by omega)
  have d5 : decide ((4096 : Int) < (an : Int)) = true := decide_eq_true (by omega)
  clear hC hk hln gm hb hS hp2 hanE
  have HB0 := hide (show Below w.heap.size w ((w.alloc (.cells #[.int .i64 q, .int .i64 b, .slice ao n k] 24)).alloc (.cells #[.int .i64 0, .int .i64 0, .slice none 0 0] 24)) from (bnew _ _).trans ((bnew _ _).mono (by simp)))
  go_enter Tryd.func13, Tryd.ntmps13
  go_wp2_with (first
    | (go_at_call 23; refine (c1 _ HB0.out).mono ?_; rintro e w1 ⟨rfl, hb1⟩; obtain ⟨m1, m2⟩ := may_keep hb1; obtain ⟨x0, x1, x2, x3⟩ := def_cells m1; have HB1 := hide (HB0.out.trans (hb1.mono HB0.out.size)); have HM1 := hide m1; have HM2 := hide m2; clear hb1 m1 m2)
    | refine wpList_store_row rfl _ _ _ rfl (w.heap.size + 1) _ rfl rfl _ _ ((Below.heap_alloc _ _ _ (Array.getElem?_eq_some_iff.1 HM2.out).1).trans HM2.out) (by exact infoCi) (by rfl) (by simp [Value.oneCell']) ?_)
  have hz : (w1.alloc (.cells #[.int .i64 q, .int .i64 b, .slice ao n k] 24)).heap[w.heap.size + 1]? = some (.cells #[.int .i64 0, .int .i64 0, .slice none 0 0] 24) := ((Below.heap_alloc _ _ _ (Array.getElem?_eq_some_iff.1 HM2.out).1).trans HM2.out)
  refine bodyPost_ret (results_ct rfl _ _ (w.heap.size + 1) _ _ _ _ rfl (setRow_heap _ _ _ _ _ _ hz) Tryd.underlying24 rfl (by exact infoCi)) rfl ?_
  exact ⟨rfl, Below.row (HB1.out.trans ((bnew _ _).mono HB1.out.size)) _ _ (by omega)⟩
theorem dPower_pos (c : Circ) (ao : Option Addr) (k : Nat) (a : Nat) (hk : (chkC c).2 = 0) (hp2 : a <= 4096) (hb : a * c.ops.length <= 4096) (hS : Szs c.ops) (w : World) (hC : Ci w c ao k) : Calls Tryd.prog 13 #[cV c ao k, .int .i64 (a : Int)] w fun e w' => ∃ bo j, e = .returned (.tuple #[cV ⟨c.q, c.b, repL c.ops a⟩ bo j, .int .i64 0]) /\ OpsAt w' w.heap.size bo (repL c.ops a).length j (repL c.ops a) /\ Below w.heap.size w w' := by
  have c1 := fun V (h : Below w.heap.size w V) => eMay c ao k V (hC.below h)
  rw [hk] at c1
  have hln := hC.len
  have HRE := hide (fun i => repL_len c.ops i)
  have HRS : Hid (∀ i : Nat, repL c.ops (i + 1) = repL c.ops i ++ c.ops) := hide (fun i => rfl)
  have HR0 : Hid (repL c.ops 0 = []) := hide rfl
  have HCE := hide (fun V => dEmpty c ao k V)
  have HCM := hide (fun V (i : Nat) (hi : i < a) co cc dx dj (B1 : Nat) (h1 : OpsAt V B1 co (repL c.ops i).length cc (repL c.ops i)) (h2 : Ci V ⟨c.q, c.b, c.ops⟩ dx dj) => dMore ⟨c.q, c.b, repL c.ops i⟩ ⟨c.q, c.b, c.ops⟩ co dx cc dj hS (by
    have h1 := repL_len c.ops i
    have h2 : (i + 1) * c.ops.length <= a * c.ops.length := Nat.mul_le_mul_right _ hi
    rw [Nat.add_mul, Nat.one_mul] at h2
    simp only [h1]
    omega) V h1 h2)
  have HCI := hide (fun (V : World) (h : Below w.heap.size w V) => hC.below h)
  obtain ⟨q, b, l⟩ := c
  unfold cV at *
  simp only [beq_self_eq_true, List.length_append] at *
  generalize hRL : repL l = RL at *
  clear hRL
  generalize l.length = n at *
  have d1 : decide ((a : Int) < -4096) = false := decide_eq_false (by omega)
  have d2 : decide ((a : Int) > 4096) = false := decide_eq_false (by omega)
  have d3 : decide (4096 < (a : Int)) = false := decide_eq_false (by omega)
  have d0 : decide ((a : Int) < 0) = false := decide_eq_false (by omega)
  have ga : a <= 4096 := by omega
  have gm : a * n <= 4096 * 1000000000000000 := Nat.mul_le_mul ga hln
  have g3 : ∀ x : Nat, a * n = x -> (a : Int) * (n : Int) = (x : Int) := fun x hx => by rw [← hx]; simp
  generalize hanE : a * n = an at *
  have g4 : wrap64 ((a : Int) * (n : Int)) = (an : Int) := by
    rw [g3 an rfl]
    unfold wrap64
    omega
  clear g3
  have d4 : decide ((an : Int) > 4096) = false := decide_eq_false (by omega)
  have d5 : decide ((4096 : Int) < (an : Int)) = false := decide_eq_false (by omega)
  clear hC hk hln gm hb hS hp2 hanE
  have HB0 := hide (show Below w.heap.size w ((w.alloc (.cells #[.int .i64 q, .int .i64 b, .slice ao n k] 24)).alloc (.cells #[.int .i64 0, .int .i64 0, .slice none 0 0] 24)) from (bnew _ _).trans ((bnew _ _).mono (by simp)))
  go_enter Tryd.func13, Tryd.ntmps13
  go_wp2_with (first
    | (go_at_call 23; refine (c1 _ HB0.out).mono ?_; rintro e w1 ⟨rfl, hb1⟩; obtain ⟨m1, m2⟩ := may_keep hb1; obtain ⟨x0, x1, x2, x3⟩ := def_cells m1; have HB1 := hide (HB0.out.trans (hb1.mono HB0.out.size)); have HM1 := hide m1; have HM2 := hide m2; clear hb1 m1 m2)
    | (go_at_call 25; refine (HCE.out _).mono ?_; rintro e w4 ⟨rfl, hb4⟩; have HB4 := hide hb4; clear hb4))
  have hz : (w1.alloc (.cells #[.int .i64 q, .int .i64 b, .slice ao n k] 24)).heap[w.heap.size + 1]? = some (.cells #[.int .i64 0, .int .i64 0, .slice none 0 0] 24) := ((Below.heap_alloc _ _ _ (Array.getElem?_eq_some_iff.1 HM2.out).1).trans HM2.out)
  have hbX : Below w.heap.size w (w1.alloc (.cells #[.int .i64 q, .int .i64 b, .slice ao n k] 24)) := HB1.out.trans ((bnew _ _).mono HB1.out.size)
  have hd6 : (w1.alloc (.cells #[.int .i64 q, .int .i64 b, .slice ao n k] 24)).heap[w1.heap.size]? = some (.cells #[.int .i64 q, .int .i64 b, .slice ao n k] 24) := heap_alloc_new _ _
  have hb4 : Below (w1.alloc (.cells #[.int .i64 q, .int .i64 b, .slice ao n k] 24)).heap.size (w1.alloc (.cells #[.int .i64 q, .int .i64 b, .slice ao n k] 24)) w4 := HB4.out
  have HZ4 : Hid (w4.heap[w.heap.size + 1]? = some (.cells #[.int .i64 0, .int .i64 0, .slice none 0 0] 24)) := hide ((hb4.block _ (Array.getElem?_eq_some_iff.1 hz).1).trans hz)
  have HD4 : Hid (w4.heap[w1.heap.size]? = some (.cells #[.int .i64 q, .int .i64 b, .slice ao n k] 24)) := hide ((hb4.block _ (Array.getElem?_eq_some_iff.1 hd6).1).trans hd6)
  have HBW : Hid (Below w.heap.size w w4) := hide (hbX.trans (hb4.mono hbX.size))
  have HCD : Hid (∀ V, Below w4.heap.size w4 V -> Ci V ⟨q, b, l⟩ ao k) := hide (fun V hV => HCI.out V (HBW.out.trans (hV.mono HBW.out.size)))
  have hDW : w.heap.size + 1 < w4.heap.size := (Array.getElem?_eq_some_iff.1 HZ4.out).1
  have hD6 : w1.heap.size < w4.heap.size := (Array.getElem?_eq_some_iff.1 HD4.out).1
  clear hz hbX hd6 hb4 HB4 HCI x0 x1 x2 x3 HM1 HM2 HB0 HB1 c1
  generalize w1.heap.size = D6 at *
  have hal : Below w4.heap.size w4 (w4.alloc (.cells #[.int .i64 q, .int .i64 b, .slice none 0 0] 24)) := bnew _ _
  have HS5 : Hid (Below w4.heap.size w4 (w4.alloc (.cells #[.int .i64 q, .int .i64 b, .slice none 0 0] 24)) /\ (w4.alloc (.cells #[.int .i64 q, .int .i64 b, .slice none 0 0] 24)).heap[w4.heap.size]? = some (.cells #[.int .i64 q, .int .i64 b, .slice none 0 0] 24)) := hide ⟨hal, heap_alloc_new _ _⟩
  clear hal
  generalize (w4.alloc (.cells #[.int .i64 q, .int .i64 b, .slice none 0 0] 24)) = w5 at *
  go_loopw [9] (fun vi wr => ∃ i : Nat, vi = .int .i64 (i : Int) /\ i <= a /\ Below w4.heap.size w4 wr /\ ∃ (bo : Option Addr) (m2 j : Nat), wr.heap[w4.heap.size]? = some (.cells #[.int .i64 q, .int .i64 b, .slice bo m2 j] 24 (0, 0)) /\ m2 = (RL i).length /\ OpsAt wr w.heap.size bo m2 j (RL i)) (fun vi _ => a - (Go.RowKit.intOf vi).toNat)
  case atStart => exact ⟨0, rfl, Nat.zero_le _, HS5.out.1, none, 0, 0, HS5.out.2, by rw [HR0.out]; rfl, by rw [HR0.out]; exact OpsAt.nil17 _ _⟩
  case round =>
    obtain ⟨i, rfl, hi, hb, bo, m2, j, hm8, hml, hO⟩ := hrel
    obtain ⟨r0, r1, r2, r3⟩ := def_cells hm8
    have h6 := (hb.block _ hD6).trans HD4.out
    obtain ⟨p0, p1, p2, p3⟩ := def_cells h6
    have HBr := hide hb
    have HM8 := hide hm8
    have HML := hide hml
    have HO := hide hO
    clear hb hm8 hml hO h6
    by_cases h : i < a
    . have hd : decide ((i : Int) < (a : Int)) = true := decide_eq_true (by omega)
      have HC := hide (HCM.out wr i h bo j ao k _ (by rw [← HML.out]; exact HO.out) (HCD.out wr HBr.out))
      rw [← HML.out] at HC
      go_wp2_with (first
        | (go_at_call 31; refine HC.out.mono ?_; rintro e w6 ⟨co6, c6, rfl, hO6, hb6⟩; have m6 := (hb6.block _ r3).trans HM8.out; have HO6 := hide hO6; have HB6 := hide hb6; have HM6 := hide m6; clear hO6 hb6 m6)
        | refine wpList_store_row rfl _ _ _ rfl w4.heap.size _ rfl rfl _ _ HM6.out (by exact infoCi) (by rfl) (by simp [Value.oneCell']) ?_)
      go_roundw
      case rel =>
        refine ⟨i + 1, by go_num, by omega, Below.row (HBr.out.trans (HB6.out.mono HBr.out.size)) _ _ (Nat.le_refl _), co6, m2 + n, c6, setRow_heap _ _ _ _ _ _ HM6.out, by rw [HRE.out, Nat.add_mul, Nat.one_mul, ← HRE.out i, ← HML.out], ?_⟩
        rw [HRS.out]
        exact (HO6.out.at_base17 (Nat.le_trans HBW.out.size HBr.out.size)).row17 HM6.out (by decide) (by decide) _
      case measure => simp [Go.RowKit.intOf]; omega
    . obtain rfl : a = i := by omega
      have hd : decide ((a : Int) < (a : Int)) = false := decide_eq_false (by omega)
      have hz := (HBr.out.block _ hDW).trans HZ4.out
      have HZ := hide hz
      clear hz
      go_wp2_with (refine wpList_store_row rfl _ _ _ rfl (w.heap.size + 1) _ rfl rfl _ _ HZ.out (by exact infoCi) (by rfl) (by simp [Value.oneCell']) ?_)
      refine bodyPost_ret (results_ct rfl _ _ (w.heap.size + 1) _ _ _ _ rfl (setRow_heap _ _ _ _ _ _ HZ.out) Tryd.underlying24 rfl (by exact infoCi)) rfl ?_
      rw [← HML.out]
      exact ⟨bo, j, rfl, HO.out.row17 HZ.out (by decide) (by decide) _, Below.row (HBW.out.trans (HBr.out.mono HBW.out.size)) _ _ (by omega)⟩
theorem dPower_neg_big (c : Circ) (ao : Option Addr) (k : Nat) (p : Int) (a : Nat) (hk : (chkC c).2 = 0) (hp1 : -4096 <= p) (hp2 : p < 0) (ha : p.natAbs = a) (hu : c.ops.any unO = false) (hb : 4096 < a * c.ops.length) (hS : Szs c.ops) (w : World) (hC : Ci w c ao k) : Calls Tryd.prog 13 #[cV c ao k, .int .i64 p] w fun e w' => e = .returned (.tuple #[cV nulC none 0, .int .i64 170]) /\ Below w.heap.size w w' := by
  have c1 := fun V (h : Below w.heap.size w V) => eMay c ao k V (hC.below h)
  rw [hk] at c1
  have hln := hC.len
  have c2 := fun V (h : Below w.heap.size w V) => eUnitary c ao k V (hC.below h)
  rw [hu] at c2
  have c3 := fun V (h : Below w.heap.size w V) => dInverse c ao k hS V (hC.below h)
  have hiv : ivP c = (⟨c.q, c.b, c.ops.reverse.map ivO⟩, 0) := by unfold ivP; rw [if_neg (by simp [hk]), if_neg (by simp [hu])]
  have hSr := szs_iv c hS
  rw [hiv] at c3 hSr
  obtain ⟨q, b, l⟩ := c
  unfold cV nulC at *
  simp only [beq_self_eq_true, Bool.not_false, List.length_map, List.length_reverse, List.length_nil] at *
  generalize l.reverse.map ivO = rl at *
  generalize l.length = n at *
  have d1 : decide (p < -4096) = false := decide_eq_false (by omega)
  have d2 : decide (p > 4096) = false := decide_eq_false (by omega)
  have d3 : decide (4096 < p) = false := decide_eq_false (by omega)
  have d0 : decide (p < 0) = true := decide_eq_true (by omega)
  have g1 : wrap64 (-p) = (a : Int) := by unfold wrap64; omega
  have ga : a <= 4096 := by omega
  have gm : a * n <= 4096 * 1000000000000000 := Nat.mul_le_mul ga hln
  have g3 : ∀ x : Nat, a * n = x -> (a : Int) * (n : Int) = (x : Int) := fun x hx => by rw [← hx]; simp
  generalize hanE : a * n = an at *
  have g4 : wrap64 ((a : Int) * (n : Int)) = (an : Int) := by
    rw [g3 an rfl]
    unfold wrap64
    omega
  clear g3
  have d4 : decide ((an : Int) > 4096) = true := decide_eq_true (by omega)
  have d5 : decide ((4096 : Int) < (an : Int)) = true := decide_eq_true (by omega)
  clear hC hk hln gm hb hS hp2 hp1 ha hu hiv hSr hanE
  have HB0 := hide (show Below w.heap.size w ((w.alloc (.cells #[.int .i64 q, .int .i64 b, .slice ao n k] 24)).alloc (.cells #[.int .i64 0, .int .i64 0, .slice none 0 0] 24)) from (bnew _ _).trans ((bnew _ _).mono (by simp)))
  go_enter Tryd.func13, Tryd.ntmps13
  go_wp2_with (first
    | (go_at_call 23; refine (c1 _ HB0.out).mono ?_; rintro e w1 ⟨rfl, hb1⟩; obtain ⟨m1, m2⟩ := may_keep hb1; obtain ⟨x0, x1, x2, x3⟩ := def_cells m1; have HB1 := hide (HB0.out.trans (hb1.mono HB0.out.size)); have HM1 := hide m1; have HM2 := hide m2; clear hb1 m1 m2)
    | (go_at_call 24; refine (c2 _ HB1.out).mono ?_; rintro e w2 ⟨rfl, hb2⟩; have m1 := (hb2.block _ (Array.getElem?_eq_some_iff.1 HM1.out).1).trans HM1.out; have m2 := (hb2.block _ (Array.getElem?_eq_some_iff.1 HM2.out).1).trans HM2.out; obtain ⟨y0, y1, y2, y3⟩ := def_cells m1; have HB2 := hide (HB1.out.trans (hb2.mono HB1.out.size)); have HM3 := hide m1; have HM4 := hide m2; clear hb2 m1 m2)
    | (go_at_call 6; refine (c3 _ (HB2.out.trans ((bnew _ _).mono HB2.out.size))).mono ?_; rintro e w3 ⟨do1, dj, rfl, hO3, hb3⟩; have hb2a := HB2.out.trans ((bnew w2 (.cells #[.int .i64 q, .int .i64 b, .slice ao n k] 24)).mono HB2.out.size); have HB3 := hide (hb2a.trans (hb3.mono hb2a.size)); have md := (hb3.block w2.heap.size (by simp)).trans (heap_alloc_new w2 _); have mz := (hb3.block _ (Nat.lt_of_lt_of_le (Array.getElem?_eq_some_iff.1 HM4.out).1 (by simp))).trans ((Below.heap_alloc _ _ _ (Array.getElem?_eq_some_iff.1 HM4.out).1).trans HM4.out); have ma := (hb3.block _ (Nat.lt_of_lt_of_le (Array.getElem?_eq_some_iff.1 HM3.out).1 (by simp))).trans ((Below.heap_alloc _ _ _ (Array.getElem?_eq_some_iff.1 HM3.out).1).trans HM3.out); have HMD := hide md; have HMZ := hide mz; have HMA := hide ma; have HO3 := hide hO3; have hl1 := (Array.getElem?_eq_some_iff.1 HM4.out).1; have ma' := (setRow_other w3 w2.heap.size w.heap.size #[.int .i64 q, .int .i64 b, .slice do1 n dj] (by omega)).trans ma; obtain ⟨k0, k1, k2, k3⟩ := def_cells ma'; clear hb3 hO3 md mz ma hb2a)
    | refine wpList_store_row rfl _ _ _ rfl w2.heap.size _ rfl rfl _ _ HMD.out (by exact infoCi) (by rfl) (by simp [Value.oneCell']) ?_
    | refine wpList_store_row rfl _ _ _ rfl (w.heap.size + 1) _ rfl rfl _ _ ((setRow_other _ _ _ _ (by omega)).trans HMZ.out) (by exact infoCi) (by rfl) (by simp [Value.oneCell']) ?_)
  have hz : (w3.setRow w2.heap.size #[.int .i64 q, .int .i64 b, .slice do1 n dj]).heap[w.heap.size + 1]? = some (.cells #[.int .i64 0, .int .i64 0, .slice none 0 0] 24) := ((setRow_other _ _ _ _ (by omega)).trans HMZ.out)
  refine bodyPost_ret (results_ct rfl _ _ (w.heap.size + 1) _ _ _ _ rfl (setRow_heap _ _ _ _ _ _ hz) Tryd.underlying24 rfl (by exact infoCi)) rfl ?_
  exact ⟨rfl, Below.row (Below.row HB3.out _ _ (by omega)) _ _ (by omega)⟩
theorem dPower_neg (c : Circ) (ao : Option Addr) (k : Nat) (p : Int) (a : Nat) (hk : (chkC c).2 = 0) (hp1 : -4096 <= p) (hp2 : p < 0) (ha : p.natAbs = a) (hu : c.ops.any unO = false) (hb : a * c.ops.length <= 4096) (hS : Szs c.ops) (w : World) (hC : Ci w c ao k) : Calls Tryd.prog 13 #[cV c ao k, .int .i64 p] w fun e w' => ∃ bo j, e = .returned (.tuple #[cV ⟨c.q, c.b, repL (c.ops.reverse.map ivO) a⟩ bo j, .int .i64 0]) /\ OpsAt w' w.heap.size bo (repL (c.ops.reverse.map ivO) a).length j (repL (c.ops.reverse.map ivO) a) /\ Below w.heap.size w w' := by
  have c1 := fun V (h : Below w.heap.size w V) => eMay c ao k V (hC.below h)
  rw [hk] at c1
  have hln := hC.len
  have c2 := fun V (h : Below w.heap.size w V) => eUnitary c ao k V (hC.below h)
  rw [hu] at c2
  have c3 := fun V (h : Below w.heap.size w V) => dInverse c ao k hS V (hC.below h)
  have hiv : ivP c = (⟨c.q, c.b, c.ops.reverse.map ivO⟩, 0) := by unfold ivP; rw [if_neg (by simp [hk]), if_neg (by simp [hu])]
  have hSr := szs_iv c hS
  rw [hiv] at c3 hSr
  have HRE := hide (fun i => repL_len (c.ops.reverse.map ivO) i)
  have HRS : Hid (∀ i : Nat, repL (c.ops.reverse.map ivO) (i + 1) = repL (c.ops.reverse.map ivO) i ++ (c.ops.reverse.map ivO)) := hide (fun i => rfl)
  have HR0 : Hid (repL (c.ops.reverse.map ivO) 0 = []) := hide rfl
  have HCE := hide (fun V => dEmpty c ao k V)
  have HCM := hide (fun V (i : Nat) (hi : i < a) co cc dx dj (B1 : Nat) (h1 : OpsAt V B1 co (repL (c.ops.reverse.map ivO) i).length cc (repL (c.ops.reverse.map ivO) i)) (h2 : Ci V ⟨c.q, c.b, (c.ops.reverse.map ivO)⟩ dx dj) => dMore ⟨c.q, c.b, repL (c.ops.reverse.map ivO) i⟩ ⟨c.q, c.b, (c.ops.reverse.map ivO)⟩ co dx cc dj hSr (by
    have h1 := repL_len (c.ops.reverse.map ivO) i
    have h2 : (i + 1) * c.ops.length <= a * c.ops.length := Nat.mul_le_mul_right _ hi
    rw [Nat.add_mul, Nat.one_mul] at h2
    simp only [h1, List.length_map, List.length_reverse]
    omega) V h1 h2)
  have HCI := hide (fun (V : World) (B : Nat) dx dj (h : OpsAt V B dx (c.ops.reverse.map ivO).length dj (c.ops.reverse.map ivO)) => ci_at17 (c := ⟨c.q, c.b, (c.ops.reverse.map ivO)⟩) hSr h)
  obtain ⟨q, b, l⟩ := c
  unfold cV at *
  simp only [beq_self_eq_true, Bool.not_false, List.length_map, List.length_reverse, List.length_append] at *
  generalize l.reverse.map ivO = rl at *
  generalize hRL : repL rl = RL at *
  clear hRL
  generalize l.length = n at *
  have d1 : decide (p < -4096) = false := decide_eq_false (by omega)
  have d2 : decide (p > 4096) = false := decide_eq_false (by omega)
  have d3 : decide (4096 < p) = false := decide_eq_false (by omega)
  have d0 : decide (p < 0) = true := decide_eq_true (by omega)
  have g1 : wrap64 (-p) = (a : Int) := by unfold wrap64; omega
  have ga : a <= 4096 := by omega
  have gm : a * n <= 4096 * 1000000000000000 := Nat.mul_le_mul ga hln
  have g3 : ∀ x : Nat, a * n = x -> (a : Int) * (n : Int) = (x : Int) := fun x hx => by rw [← hx]; simp
  generalize hanE : a * n = an at *
  have g4 : wrap64 ((a : Int) * (n : Int)) = (an : Int) := by
    rw [g3 an rfl]
    unfold wrap64
    omega
  clear g3
  have d4 : decide ((an : Int) > 4096) = false := decide_eq_false (by omega)
  have d5 : decide ((4096 : Int) < (an : Int)) = false := decide_eq_false (by omega)
  clear hC hk hln gm hb hS hp2 hp1 ha hu hiv hSr hanE
  have HB0 := hide (show Below w.heap.size w ((w.alloc (.cells #[.int .i64 q, .int .i64 b, .slice ao n k] 24)).alloc (.cells #[.int .i64 0, .int .i64 0, .slice none 0 0] 24)) from (bnew _ _).trans ((bnew _ _).mono (by simp)))
  go_enter Tryd.func13, Tryd.ntmps13
  go_wp2_with (first
    | (go_at_call 23; refine (c1 _ HB0.out).mono ?_; rintro e w1 ⟨rfl, hb1⟩; obtain ⟨m1, m2⟩ := may_keep hb1; obtain ⟨x0, x1, x2, x3⟩ := def_cells m1; have HB1 := hide (HB0.out.trans (hb1.mono HB0.out.size)); have HM1 := hide m1; have HM2 := hide m2; clear hb1 m1 m2)
    | (go_at_call 24; refine (c2 _ HB1.out).mono ?_; rintro e w2 ⟨rfl, hb2⟩; have m1 := (hb2.block _ (Array.getElem?_eq_some_iff.1 HM1.out).1).trans HM1.out; have m2 := (hb2.block _ (Array.getElem?_eq_some_iff.1 HM2.out).1).trans HM2.out; obtain ⟨y0, y1, y2, y3⟩ := def_cells m1; have HB2 := hide (HB1.out.trans (hb2.mono HB1.out.size)); have HM3 := hide m1; have HM4 := hide m2; clear hb2 m1 m2)
    | (go_at_call 6; refine (c3 _ (HB2.out.trans ((bnew _ _).mono HB2.out.size))).mono ?_; rintro e w3 ⟨do1, dj, rfl, hO3, hb3⟩; have hb2a := HB2.out.trans ((bnew w2 (.cells #[.int .i64 q, .int .i64 b, .slice ao n k] 24)).mono HB2.out.size); have HB3 := hide (hb2a.trans (hb3.mono hb2a.size)); have md := (hb3.block w2.heap.size (by simp)).trans (heap_alloc_new w2 _); have mz := (hb3.block _ (Nat.lt_of_lt_of_le (Array.getElem?_eq_some_iff.1 HM4.out).1 (by simp))).trans ((Below.heap_alloc _ _ _ (Array.getElem?_eq_some_iff.1 HM4.out).1).trans HM4.out); have ma := (hb3.block _ (Nat.lt_of_lt_of_le (Array.getElem?_eq_some_iff.1 HM3.out).1 (by simp))).trans ((Below.heap_alloc _ _ _ (Array.getElem?_eq_some_iff.1 HM3.out).1).trans HM3.out); have HMD := hide md; have HMZ := hide mz; have HMA := hide ma; have HO3 := hide hO3; have hl1 := (Array.getElem?_eq_some_iff.1 HM4.out).1; have ma' := (setRow_other w3 w2.heap.size w.heap.size #[.int .i64 q, .int .i64 b, .slice do1 n dj] (by omega)).trans ma; obtain ⟨k0, k1, k2, k3⟩ := def_cells ma'; clear hb3 hO3 md mz ma hb2a)
    | refine wpList_store_row rfl _ _ _ rfl w2.heap.size _ rfl rfl _ _ HMD.out (by exact infoCi) (by rfl) (by simp [Value.oneCell']) ?_
    | (go_at_call 25; refine (HCE.out _).mono ?_; rintro e w4 ⟨rfl, hb4⟩; have HB4 := hide hb4; clear hb4))
  have hz : (w3.setRow w2.heap.size #[.int .i64 q, .int .i64 b, .slice do1 n dj]).heap[w.heap.size + 1]? = some (.cells #[.int .i64 0, .int .i64 0, .slice none 0 0] 24) := ((setRow_other _ _ _ _ (by omega)).trans HMZ.out)
  have hbX : Below w.heap.size w (w3.setRow w2.heap.size #[.int .i64 q, .int .i64 b, .slice do1 n dj]) := Below.row HB3.out _ _ (by omega)
  have hd6 : (w3.setRow w2.heap.size #[.int .i64 q, .int .i64 b, .slice do1 n dj]).heap[w2.heap.size]? = some (.cells #[.int .i64 q, .int .i64 b, .slice do1 n dj] 24) := setRow_heap _ _ _ _ _ _ HMD.out
  have hb4 : Below (w3.setRow w2.heap.size #[.int .i64 q, .int .i64 b, .slice do1 n dj]).heap.size (w3.setRow w2.heap.size #[.int .i64 q, .int .i64 b, .slice do1 n dj]) w4 := HB4.out
  have HZ4 : Hid (w4.heap[w.heap.size + 1]? = some (.cells #[.int .i64 0, .int .i64 0, .slice none 0 0] 24)) := hide ((hb4.block _ (Array.getElem?_eq_some_iff.1 hz).1).trans hz)
  have HD4 : Hid (w4.heap[w2.heap.size]? = some (.cells #[.int .i64 q, .int .i64 b, .slice do1 n dj] 24)) := hide ((hb4.block _ (Array.getElem?_eq_some_iff.1 hd6).1).trans hd6)
  have HBW : Hid (Below w.heap.size w w4) := hide (hbX.trans (hb4.mono hbX.size))
  have HCD : Hid (∀ V, Below w4.heap.size w4 V -> Ci V ⟨q, b, rl⟩ do1 dj) := hide (fun V hV => ((HCI.out _ _ do1 dj (HO3.out.row17 HMD.out (by decide) (by decide) _)).below hb4).below hV)
  have hDW : w.heap.size + 1 < w4.heap.size := (Array.getElem?_eq_some_iff.1 HZ4.out).1
  have hD6 : w2.heap.size < w4.heap.size := (Array.getElem?_eq_some_iff.1 HD4.out).1
  clear hz hbX hd6 hb4 HB4 HCI x0 x1 x2 x3 HM1 HM2 HB0 HB1 c1 c2 c3 y0 y1 y2 y3 HM3 HM4 HB2 HB3 HMD HMZ HMA HO3 k0 k1 k2 k3 hl1
  generalize w2.heap.size = D6 at *
  have hal : Below w4.heap.size w4 (w4.alloc (.cells #[.int .i64 q, .int .i64 b, .slice none 0 0] 24)) := bnew _ _
  have HS5 : Hid (Below w4.heap.size w4 (w4.alloc (.cells #[.int .i64 q, .int .i64 b, .slice none 0 0] 24)) /\ (w4.alloc (.cells #[.int .i64 q, .int .i64 b, .slice none 0 0] 24)).heap[w4.heap.size]? = some (.cells #[.int .i64 q, .int .i64 b, .slice none 0 0] 24)) := hide ⟨hal, heap_alloc_new _ _⟩
  clear hal
  generalize (w4.alloc (.cells #[.int .i64 q, .int .i64 b, .slice none 0 0] 24)) = w5 at *
  go_loopw [9] (fun vi wr => ∃ i : Nat, vi = .int .i64 (i : Int) /\ i <= a /\ Below w4.heap.size w4 wr /\ ∃ (bo : Option Addr) (m2 j : Nat), wr.heap[w4.heap.size]? = some (.cells #[.int .i64 q, .int .i64 b, .slice bo m2 j] 24 (0, 0)) /\ m2 = (RL i).length /\ OpsAt wr w.heap.size bo m2 j (RL i)) (fun vi _ => a - (Go.RowKit.intOf vi).toNat)
  case atStart => exact ⟨0, rfl, Nat.zero_le _, HS5.out.1, none, 0, 0, HS5.out.2, by rw [HR0.out]; rfl, by rw [HR0.out]; exact OpsAt.nil17 _ _⟩
  case round =>
    obtain ⟨i, rfl, hi, hb, bo, m2, j, hm8, hml, hO⟩ := hrel
    obtain ⟨r0, r1, r2, r3⟩ := def_cells hm8
    have h6 := (hb.block _ hD6).trans HD4.out
    obtain ⟨p0, p1, p2, p3⟩ := def_cells h6
    have HBr := hide hb
    have HM8 := hide hm8
    have HML := hide hml
    have HO := hide hO
    clear hb hm8 hml hO h6
    by_cases h : i < a
    . have hd : decide ((i : Int) < (a : Int)) = true := decide_eq_true (by omega)
      have HC := hide (HCM.out wr i h bo j do1 dj _ (by rw [← HML.out]; exact HO.out) (HCD.out wr HBr.out))
      rw [← HML.out] at HC
      go_wp2_with (first
        | (go_at_call 31; refine HC.out.mono ?_; rintro e w6 ⟨co6, c6, rfl, hO6, hb6⟩; have m6 := (hb6.block _ r3).trans HM8.out; have HO6 := hide hO6; have HB6 := hide hb6; have HM6 := hide m6; clear hO6 hb6 m6)
        | refine wpList_store_row rfl _ _ _ rfl w4.heap.size _ rfl rfl _ _ HM6.out (by exact infoCi) (by rfl) (by simp [Value.oneCell']) ?_)
      go_roundw
      case rel =>
        refine ⟨i + 1, by go_num, by omega, Below.row (HBr.out.trans (HB6.out.mono HBr.out.size)) _ _ (Nat.le_refl _), co6, m2 + n, c6, setRow_heap _ _ _ _ _ _ HM6.out, by rw [HRE.out, Nat.add_mul, Nat.one_mul, ← HRE.out i, ← HML.out], ?_⟩
        rw [HRS.out]
        exact (HO6.out.at_base17 (Nat.le_trans HBW.out.size HBr.out.size)).row17 HM6.out (by decide) (by decide) _
      case measure => simp [Go.RowKit.intOf]; omega
    . obtain rfl : a = i := by omega
      have hd : decide ((a : Int) < (a : Int)) = false := decide_eq_false (by omega)
      have hz := (HBr.out.block _ hDW).trans HZ4.out
      have HZ := hide hz
      clear hz
      go_wp2_with (refine wpList_store_row rfl _ _ _ rfl (w.heap.size + 1) _ rfl rfl _ _ HZ.out (by exact infoCi) (by rfl) (by simp [Value.oneCell']) ?_)
      refine bodyPost_ret (results_ct rfl _ _ (w.heap.size + 1) _ _ _ _ rfl (setRow_heap _ _ _ _ _ _ HZ.out) Tryd.underlying24 rfl (by exact infoCi)) rfl ?_
      rw [← HML.out]
      exact ⟨bo, j, rfl, HO.out.row17 HZ.out (by decide) (by decide) _, Below.row (HBW.out.trans (HBr.out.mono HBW.out.size)) _ _ (by omega)⟩
theorem dPower (c : Circ) (ao : Option Addr) (k : Nat) (p : Int) (hS : Szs c.ops) (w : World) (hC : Ci w c ao k) : Calls Tryd.prog 13 #[cV c ao k, .int .i64 p] w fun e w' => ∃ bo j, e = .returned (.tuple #[cV (poP c p).1 bo j, .int .i64 (poP c p).2]) /\ OpsAt w' w.heap.size bo (poP c p).1.ops.length j (poP c p).1.ops /\ Below w.heap.size w w' := by
  have no : ∀ er : Int, (Calls Tryd.prog 13 #[cV c ao k, .int .i64 p] w fun e w' => e = .returned (.tuple #[cV nulC none 0, .int .i64 er]) /\ Below w.heap.size w w') -> poP c p = (nulC, er) -> Calls Tryd.prog 13 #[cV c ao k, .int .i64 p] w fun e w' => ∃ bo j, e = .returned (.tuple #[cV (poP c p).1 bo j, .int .i64 (poP c p).2]) /\ OpsAt w' w.heap.size bo (poP c p).1.ops.length j (poP c p).1.ops /\ Below w.heap.size w w' := fun er h1 h2 => by
    rw [h2]
    refine h1.mono ?_
    rintro e w' ⟨rfl, hb⟩
    exact ⟨none, 0, rfl, OpsAt.nil17 _ _, hb⟩
  rcases chk_two c with hk | hk
  . have hk' : ((chkC c).2 == 0) = true := by rw [hk]; rfl
    by_cases h1 : p < -4096
    . exact no 170 (dPower_lo c ao k p hk' h1 w hC) (by unfold poP; rw [if_neg (by simp [hk]), if_pos (.inl h1)])
    by_cases h2 : 4096 < p
    . exact no 170 (dPower_hi c ao k p hk' h2 w hC) (by unfold poP; rw [if_neg (by simp [hk]), if_pos (.inr (.inl h2))])
    by_cases h4 : p < 0
    . cases hu : c.ops.any unO with
      | true => exact no 170 (dPower_non c ao k p hk' (by omega) h4 hu w hC) (by unfold poP; rw [if_neg (by simp [hk]), if_pos (.inr (.inr (.inr ⟨h4, hu⟩)))])
      | false =>
        by_cases h3 : 4096 < p.natAbs * c.ops.length
        . exact no 170 (dPower_neg_big c ao k p _ hk (by omega) h4 rfl hu h3 hS w hC) (by unfold poP; rw [if_neg (by simp [hk]), if_pos (.inr (.inr (.inl h3)))])
        have e : poP c p = (⟨c.q, c.b, repL (c.ops.reverse.map ivO) p.natAbs⟩, 0) := by
          unfold poP
          rw [if_neg (by simp [hk]), if_neg (by rintro (h | h | h | ⟨-, h⟩) <;> first | omega | (rw [hu] at h; cases h)), if_pos h4]
          unfold ivP
          rw [if_neg (by simp [hk]), if_neg (by simp [hu])]
        rw [e]
        exact dPower_neg c ao k p _ hk (by omega) h4 rfl hu (by omega) hS w hC
    . by_cases h3 : 4096 < p.natAbs * c.ops.length
      . obtain ⟨a, rfl⟩ : ∃ a : Nat, p = (a : Int) := ⟨p.natAbs, by omega⟩
        exact no 170 (dPower_pos_big c ao k a hk (by omega) (by simpa using h3) hS w hC) (by unfold poP; rw [if_neg (by simp [hk]), if_pos (.inr (.inr (.inl h3)))])
      have e : poP c p = (⟨c.q, c.b, repL c.ops p.natAbs⟩, 0) := by
        unfold poP
        rw [if_neg (by simp [hk]), if_neg (by rintro (h | h | h | ⟨h, -⟩) <;> omega), if_neg h4]
      rw [e]
      obtain ⟨a, rfl⟩ : ∃ a : Nat, p = (a : Int) := ⟨p.natAbs, by omega⟩
      exact dPower_pos c ao k a hk (by omega) (by simpa using h3) hS w hC
  . exact no 80 (dPower_80 c ao k p (by rw [hk]; rfl) w hC) (by unfold poP; rw [if_pos (by rw [hk]; decide)])
end Go.Proofs.YtmkalhaegbnknaaDoor.Cir
