import Derived.Test.YtmkalhaegbnknaaDoorQb5801e0d
set_option maxRecDepth 100000
set_option maxHeartbeats 4000000
namespace Go.Proofs.YtmkalhaegbnknaaDoor.Cir
open Go.RowKit Go.Shelf Go.Proofs.YtmkalhaegbnknaaDoor.Oct Go.Proofs.YtmkalhaegbnknaaDoor.Tok Go.Proofs.YtmkalhaegbnknaaDoor.Gt Go.Proofs.YtmkalhaegbnknaaDoor.Rf
theorem may_pos {q b : Int} {o : COp} (h : mayP q b o = true) : 0 < o.qs.length := by
  rcases may_gt h with ⟨hk, h1, h2, h3⟩ | ⟨hk, -⟩
  . by_cases h0 : 0 < o.qs.length
    . exact h0
    . exfalso
      have e : o.qs = [] := List.length_eq_zero_iff.1 (by omega)
      rw [e] at h3
      have key : ∀ x : Int, 1 <= x /\ x <= 20 -> knB (rw' x) = true /\ apP (rw' x).q [] = false := fun x hx => by
        rcases k_twenty hx with rfl | rfl | rfl | rfl | rfl | rfl | rfl | rfl | rfl | rfl | rfl | rfl | rfl | rfl | rfl | rfl | rfl | rfl | rfl | rfl <;> decide +kernel
      have := key o.gate ⟨h1, h2⟩
      unfold chkP at h3
      rw [this.1, this.2] at h3
      simp at h3
  . unfold mayP at h
    rw [if_neg hk] at h
    split at h
    . simp only [Bool.and_eq_true, decide_eq_true_eq] at h
      omega
    . split at h
      . simp only [Bool.and_eq_true, decide_eq_true_eq] at h
        omega
      . split at h
        . simp only [Bool.and_eq_true, decide_eq_true_eq] at h
          exact h.1.1.2
        . cases h
theorem iControl_80 (c : Circ) (ao : Option Addr) (k : Nat) (hk : (chkC c).2 = 80) (w : World) (hT : Ti w) (hC : Ci w c ao k) : Calls Tryd.prog 14 #[cV c ao k] w fun e w' => e = .returned (.tuple #[cV nulC none 0, .int .i64 80]) /\ Below w.heap.size w w' := by
  have c1 := fun V (h : Below w.heap.size w V) => cCheck c ao k V (hT.below h).tb (hC.below h)
  rw [hk] at c1
  obtain ⟨q, b, l⟩ := c
  unfold cV nulC at *
  simp only [List.length_nil] at *
  generalize (chkC ⟨q, b, l⟩).1 = z at *
  generalize l.length = n at *
  clear hT hC hk
  have HB0 := hide (show Below w.heap.size w ((w.alloc (.cells #[.int .i64 q, .int .i64 b, .slice ao n k] 24)).alloc (.cells #[.int .i64 0, .int .i64 0, .slice none 0 0] 24)) from (bnew _ _).trans ((bnew _ _).mono (by simp)))
  go_enter Tryd.func14, Tryd.ntmps14
  go_wp2_with (first
    | (go_at_call 18; refine (c1 _ HB0.out).mono ?_; rintro e w1 ⟨rfl, hb1⟩; obtain ⟨m1, m2⟩ := may_keep hb1; obtain ⟨x0, x1, x2, x3⟩ := def_cells m1; have HB1 := hide (HB0.out.trans (hb1.mono HB0.out.size)); have HM1 := hide m1; have HM2 := hide m2; clear hb1 m1 m2)
    | refine wpList_store_row rfl _ _ _ rfl (w.heap.size + 1) _ rfl rfl _ _ HM2.out (by exact infoCi) (by rfl) (by simp [Value.oneCell']) ?_)
  refine bodyPost_ret (results_ct rfl _ _ (w.heap.size + 1) _ _ _ _ rfl (setRow_heap _ _ _ _ _ _ HM2.out) Tryd.underlying24 rfl (by exact infoCi)) rfl ?_
  exact ⟨rfl, Below.row HB1.out _ _ (by omega)⟩
theorem iControl_64 (c : Circ) (ao : Option Addr) (k : Nat) (hk : (chkC c).2 = 0) (h64 : c.q = 64) (w : World) (hT : Ti w) (hC : Ci w c ao k) : Calls Tryd.prog 14 #[cV c ao k] w fun e w' => e = .returned (.tuple #[cV nulC none 0, .int .i64 170]) /\ Below w.heap.size w w' := by
  have c1 := fun V (h : Below w.heap.size w V) => cCheck c ao k V (hT.below h).tb (hC.below h)
  rw [hk] at c1
  obtain ⟨q, b, l⟩ := c
  unfold cV nulC at *
  simp only [List.length_nil] at *
  generalize (chkC ⟨q, b, l⟩).1 = z at *
  generalize l.length = n at *
  have f0 : (q == 64) = true := by simpa using h64
  clear h64
  clear hT hC hk
  have HB0 := hide (show Below w.heap.size w ((w.alloc (.cells #[.int .i64 q, .int .i64 b, .slice ao n k] 24)).alloc (.cells #[.int .i64 0, .int .i64 0, .slice none 0 0] 24)) from (bnew _ _).trans ((bnew _ _).mono (by simp)))
  go_enter Tryd.func14, Tryd.ntmps14
  go_wp2_with (first
    | (go_at_call 18; refine (c1 _ HB0.out).mono ?_; rintro e w1 ⟨rfl, hb1⟩; obtain ⟨m1, m2⟩ := may_keep hb1; obtain ⟨x0, x1, x2, x3⟩ := def_cells m1; have HB1 := hide (HB0.out.trans (hb1.mono HB0.out.size)); have HM1 := hide m1; have HM2 := hide m2; clear hb1 m1 m2)
    | refine wpList_store_row rfl _ _ _ rfl (w.heap.size + 1) _ rfl rfl _ _ HM2.out (by exact infoCi) (by rfl) (by simp [Value.oneCell']) ?_)
  refine bodyPost_ret (results_ct rfl _ _ (w.heap.size + 1) _ _ _ _ rfl (setRow_heap _ _ _ _ _ _ HM2.out) Tryd.underlying24 rfl (by exact infoCi)) rfl ?_
  exact ⟨rfl, Below.row HB1.out _ _ (by omega)⟩
theorem iControl_un (c : Circ) (ao : Option Addr) (k : Nat) (hk : (chkC c).2 = 0) (h64 : ¬ c.q = 64) (hu : c.ops.any unO = true) (w : World) (hT : Ti w) (hC : Ci w c ao k) : Calls Tryd.prog 14 #[cV c ao k] w fun e w' => e = .returned (.tuple #[cV nulC none 0, .int .i64 170]) /\ Below w.heap.size w w' := by
  have c1 := fun V (h : Below w.heap.size w V) => cCheck c ao k V (hT.below h).tb (hC.below h)
  have c2 := fun V (h : Below w.heap.size w V) => cUnitary c ao k V (hC.below h)
  rw [hk] at c1
  rw [hu] at c2
  obtain ⟨q, b, l⟩ := c
  unfold cV nulC at *
  simp only [List.length_nil, Bool.not_true] at *
  generalize (chkC ⟨q, b, l⟩).1 = z at *
  generalize l.length = n at *
  have f0 : (q == 64) = false := by simpa using h64
  clear h64
  clear hu
  clear hT hC hk
  have HB0 := hide (show Below w.heap.size w ((w.alloc (.cells #[.int .i64 q, .int .i64 b, .slice ao n k] 24)).alloc (.cells #[.int .i64 0, .int .i64 0, .slice none 0 0] 24)) from (bnew _ _).trans ((bnew _ _).mono (by simp)))
  go_enter Tryd.func14, Tryd.ntmps14
  go_wp2_with (first
    | (go_at_call 18; refine (c1 _ HB0.out).mono ?_; rintro e w1 ⟨rfl, hb1⟩; obtain ⟨m1, m2⟩ := may_keep hb1; obtain ⟨x0, x1, x2, x3⟩ := def_cells m1; have HB1 := hide (HB0.out.trans (hb1.mono HB0.out.size)); have HM1 := hide m1; have HM2 := hide m2; clear hb1 m1 m2)
    | (go_at_call 19; refine (c2 _ HB1.out).mono ?_; rintro e w2 ⟨rfl, hb2⟩; have m1 := (hb2.block _ (Array.getElem?_eq_some_iff.1 HM1.out).1).trans HM1.out; have m2 := (hb2.block _ (Array.getElem?_eq_some_iff.1 HM2.out).1).trans HM2.out; obtain ⟨y0, y1, y2, y3⟩ := def_cells m1; have HB2 := hide (HB1.out.trans (hb2.mono HB1.out.size)); have HM3 := hide m1; have HM4 := hide m2; clear hb2 m1 m2)
    | refine wpList_store_row rfl _ _ _ rfl (w.heap.size + 1) _ rfl rfl _ _ HM4.out (by exact infoCi) (by rfl) (by simp [Value.oneCell']) ?_)
  refine bodyPost_ret (results_ct rfl _ _ (w.heap.size + 1) _ _ _ _ rfl (setRow_heap _ _ _ _ _ _ HM4.out) Tryd.underlying24 rfl (by exact infoCi)) rfl ?_
  exact ⟨rfl, Below.row HB2.out _ _ (by omega)⟩
theorem iControl_nc (c : Circ) (ao : Option Addr) (k : Nat) (hk : (chkC c).2 = 0) (h64 : ¬ c.q = 64) (hu : c.ops.any unO = false) (hn : c.ops.any ncO = true) (w : World) (hT : Ti w) (hC : Ci w c ao k) : Calls Tryd.prog 14 #[cV c ao k] w fun e w' => e = .returned (.tuple #[cV nulC none 0, .int .i64 170]) /\ Below w.heap.size w w' := by
  have c1 := fun V (h : Below w.heap.size w V) => cCheck c ao k V (hT.below h).tb (hC.below h)
  have c2 := fun V (h : Below w.heap.size w V) => cUnitary c ao k V (hC.below h)
  have hok := (chkC_ok hk).2.2.2.2.2
  have c3 := fun V (h : Below w.heap.size w V) => cContainsM 34 eUnc ncO c.ops ao k hC.len V (hC.ops.below h) (fun V' h' o ho aq cq => iUncontrolled o aq cq (by rcases may_gt (hok o ho) with e | e <;> omega) (by rcases may_gt (hok o ho) with e | e <;> omega) V' ((hT.below h).below h'))
  rw [hk] at c1
  rw [hu] at c2
  rw [hn] at c3
  obtain ⟨q, b, l⟩ := c
  unfold cV nulC at *
  simp only [List.length_nil, Bool.not_false] at *
  generalize (chkC ⟨q, b, l⟩).1 = z at *
  generalize l.length = n at *
  have f0 : (q == 64) = false := by simpa using h64
  clear h64
  clear hu hn hok
  clear hT hC hk
  have HB0 := hide (show Below w.heap.size w ((w.alloc (.cells #[.int .i64 q, .int .i64 b, .slice ao n k] 24)).alloc (.cells #[.int .i64 0, .int .i64 0, .slice none 0 0] 24)) from (bnew _ _).trans ((bnew _ _).mono (by simp)))
  go_enter Tryd.func14, Tryd.ntmps14
  go_wp2_with (first
    | (go_at_call 18; refine (c1 _ HB0.out).mono ?_; rintro e w1 ⟨rfl, hb1⟩; obtain ⟨m1, m2⟩ := may_keep hb1; obtain ⟨x0, x1, x2, x3⟩ := def_cells m1; have HB1 := hide (HB0.out.trans (hb1.mono HB0.out.size)); have HM1 := hide m1; have HM2 := hide m2; clear hb1 m1 m2)
    | (go_at_call 19; refine (c2 _ HB1.out).mono ?_; rintro e w2 ⟨rfl, hb2⟩; have m1 := (hb2.block _ (Array.getElem?_eq_some_iff.1 HM1.out).1).trans HM1.out; have m2 := (hb2.block _ (Array.getElem?_eq_some_iff.1 HM2.out).1).trans HM2.out; obtain ⟨y0, y1, y2, y3⟩ := def_cells m1; have HB2 := hide (HB1.out.trans (hb2.mono HB1.out.size)); have HM3 := hide m1; have HM4 := hide m2; clear hb2 m1 m2)
    | (go_at_call 33; refine (c3 _ HB2.out).mono ?_; rintro e w3 ⟨rfl, hb3⟩; have m1 := (hb3.block _ (Array.getElem?_eq_some_iff.1 HM3.out).1).trans HM3.out; have m2 := (hb3.block _ (Array.getElem?_eq_some_iff.1 HM4.out).1).trans HM4.out; obtain ⟨v0, v1, v2, v3⟩ := def_cells m1; have HB3 := hide (HB2.out.trans (hb3.mono HB2.out.size)); have HM5 := hide m1; have HM6 := hide m2; clear hb3 m1 m2)
    | refine wpList_store_row rfl _ _ _ rfl (w.heap.size + 1) _ rfl rfl _ _ HM6.out (by exact infoCi) (by rfl) (by simp [Value.oneCell']) ?_)
  refine bodyPost_ret (results_ct rfl _ _ (w.heap.size + 1) _ _ _ _ rfl (setRow_heap _ _ _ _ _ _ HM6.out) Tryd.underlying24 rfl (by exact infoCi)) rfl ?_
  exact ⟨rfl, Below.row HB3.out _ _ (by omega)⟩
theorem iControl_ok (c : Circ) (ao : Option Addr) (k : Nat) (hk : (chkC c).2 = 0) (h64 : ¬ c.q = 64) (hu : c.ops.any unO = false) (hn : c.ops.any ncO = false) (w : World) (hT : Ti w) (hC : Ci w c ao k) : Calls Tryd.prog 14 #[cV c ao k] w fun e w' => ∃ bo j, e = .returned (.tuple #[cV ⟨c.q + 1, c.b, c.ops.map (ctO c.q)⟩ bo j, .int .i64 0]) /\ OpsOwn w' w.heap.size bo c.ops.length j (c.ops.map (ctO c.q)) /\ Below w.heap.size w w' := by
  have c1 := fun V (h : Below w.heap.size w V) => cCheck c ao k V (hT.below h).tb (hC.below h)
  have c2 := fun V (h : Below w.heap.size w V) => cUnitary c ao k V (hC.below h)
  have hok := (chkC_ok hk).2.2.2.2.2
  have c3 := fun V (h : Below w.heap.size w V) => cContainsM 34 eUnc ncO c.ops ao k hC.len V (hC.ops.below h) (fun V' h' o ho aq cq => iUncontrolled o aq cq (by rcases may_gt (hok o ho) with e | e <;> omega) (by rcases may_gt (hok o ho) with e | e <;> omega) V' ((hT.below h).below h'))
  have hck := chkC_ok hk
  have HC4 := hide (fun V (h : Below w.heap.size w V) o (ho : o ∈ c.ops) aq cq (hN : Ns V aq o.qs) => iUnder c.q o aq cq (by rcases may_gt (hok o ho) with e | e <;> omega) (by rcases may_gt (hok o ho) with e | e <;> omega) (by have := (may_in hck.1 hck.2.1 hck.2.2.2.1 (hok o ho)).1; omega) (may_pos (hok o ho)) V (hT.below h) hN)
  have hlen := hck.2.2.2.2.1
  have hq0 := hck.1
  have hq1 := hck.2.1
  have HOI := hide hC.ops
  rw [hk] at c1
  rw [hu] at c2
  rw [hn] at c3
  obtain ⟨q, b, l⟩ := c
  unfold cV at *
  simp only [Bool.not_false, List.length_map] at *
  generalize (chkC ⟨q, b, l⟩).1 = z at *
  obtain ⟨n, hnn⟩ : ∃ n, l.length = n := ⟨_, rfl⟩
  have HL := hide hnn
  rw [hnn] at c1 c2 c3 hlen ⊢
  have f0 : (q == 64) = false := by simpa using h64
  have g0 : wrap64 (q + 1) = q + 1 := by unfold wrap64; omega
  clear hT hC hk h64 hu hn hok hck hnn hq0 hq1
  have HB0 := hide (show Below w.heap.size w ((w.alloc (.cells #[.int .i64 q, .int .i64 b, .slice ao n k] 24)).alloc (.cells #[.int .i64 0, .int .i64 0, .slice none 0 0] 24)) from (bnew _ _).trans ((bnew _ _).mono (by simp)))
  go_enter Tryd.func14, Tryd.ntmps14
  go_wp2_with (first
    | (go_at_call 18; refine (c1 _ HB0.out).mono ?_; rintro e w1 ⟨rfl, hb1⟩; obtain ⟨m1, m2⟩ := may_keep hb1; obtain ⟨x0, x1, x2, x3⟩ := def_cells m1; have HB1 := hide (HB0.out.trans (hb1.mono HB0.out.size)); have HM1 := hide m1; have HM2 := hide m2; clear hb1 m1 m2)
    | (go_at_call 19; refine (c2 _ HB1.out).mono ?_; rintro e w2 ⟨rfl, hb2⟩; have m1 := (hb2.block _ (Array.getElem?_eq_some_iff.1 HM1.out).1).trans HM1.out; have m2 := (hb2.block _ (Array.getElem?_eq_some_iff.1 HM2.out).1).trans HM2.out; obtain ⟨y0, y1, y2, y3⟩ := def_cells m1; have HB2 := hide (HB1.out.trans (hb2.mono HB1.out.size)); have HM3 := hide m1; have HM4 := hide m2; clear hb2 m1 m2)
    | (go_at_call 33; refine (c3 _ HB2.out).mono ?_; rintro e w3 ⟨rfl, hb3⟩; have m1 := (hb3.block _ (Array.getElem?_eq_some_iff.1 HM3.out).1).trans HM3.out; have m2 := (hb3.block _ (Array.getElem?_eq_some_iff.1 HM4.out).1).trans HM4.out; obtain ⟨v0, v1, v2, v3⟩ := def_cells m1; have HB3 := hide (HB2.out.trans (hb3.mono HB2.out.size)); have HM5 := hide m1; have HM6 := hide m2; clear hb3 m1 m2))
  try simp only [g0]
  clear g0
  have HD0 : Hid (Below w.heap.size w (w3.alloc (.cells #[.int .i64 (q + 1), .int .i64 b, .slice none 0 0] 24)) /\ (w3.alloc (.cells #[.int .i64 (q + 1), .int .i64 b, .slice none 0 0] 24)).heap[w.heap.size]? = some (.cells #[.int .i64 q, .int .i64 b, .slice ao n k] 24 (0, 0)) /\ (w3.alloc (.cells #[.int .i64 (q + 1), .int .i64 b, .slice none 0 0] 24)).heap[w.heap.size + 1]? = some (.cells #[.int .i64 0, .int .i64 0, .slice none 0 0] 24 (0, 0)) /\ (w3.alloc (.cells #[.int .i64 (q + 1), .int .i64 b, .slice none 0 0] 24)).heap[w3.heap.size]? = some (.cells #[.int .i64 (q + 1), .int .i64 b, .slice none 0 0] 24 (0, 0)) /\ w.heap.size + 1 < w3.heap.size) := hide ⟨HB3.out.trans ((bnew _ _).mono HB3.out.size), (Below.heap_alloc _ _ _ (Array.getElem?_eq_some_iff.1 HM5.out).1).trans HM5.out, (Below.heap_alloc _ _ _ (Array.getElem?_eq_some_iff.1 HM6.out).1).trans HM6.out, heap_alloc_new _ _, (Array.getElem?_eq_some_iff.1 HM6.out).1⟩
  clear x0 x1 x2 x3 y0 y1 y2 y3 v0 v1 v2 v3 HB1 HB2 HB3 HM1 HM2 HM3 HM4 HM5 HM6 HB0 c1 c2 c3
  generalize (w3.alloc (.cells #[.int .i64 (q + 1), .int .i64 b, .slice none 0 0] 24)) = w4 at *
  generalize w3.heap.size = D at *
  have hDw := HD0.out.2.2.2.2
  go_loopw [8, 41] (fun _ vi wr => ∃ i : Nat, vi = .int .i64 (i : Int) /\ i <= n /\ Below w.heap.size w wr /\ wr.heap[w.heap.size]? = some (.cells #[.int .i64 q, .int .i64 b, .slice ao n k] 24 (0, 0)) /\ wr.heap[w.heap.size + 1]? = some (.cells #[.int .i64 0, .int .i64 0, .slice none 0 0] 24 (0, 0)) /\ ∃ (bo : Option Addr) (j : Nat), wr.heap[D]? = some (.cells #[.int .i64 (q + 1), .int .i64 b, .slice bo i j] 24 (0, 0)) /\ OpsOwn wr w.heap.size bo i j ((l.take i).map (ctO q))) (fun _ vi _ => n - (Go.RowKit.intOf vi).toNat)
  case atStart => exact ⟨0, rfl, Nat.zero_le _, HD0.out.1, HD0.out.2.1, HD0.out.2.2.1, none, 0, HD0.out.2.2.2.1, OpsOwn.nil _ _⟩
  case round =>
    obtain ⟨i, rfl, hi, hb, hm0, hm1, bo, j, hm2, hO⟩ := hrel
    by_cases h : i < n
    . have hd : decide ((i : Int) < (n : Int)) = true := decide_eq_true (by omega)
      have hkk : (i : Int) < (n : Int) := by omega
      obtain ⟨o, ho⟩ : ∃ o, l[i]? = some o := ⟨_, List.getElem?_eq_getElem (by rw [HL.out]; exact h)⟩
      obtain ⟨g, off, aq, cq, rfl, hgl0, hoc0⟩ := (HOI.out.below hb).at ho
      have hgl := hgl0
      have k0 := hoc0.kind
      have k1 := hoc0.gate
      have k2 := hoc0.qs
      have k3 := hoc0.bit
      have k4 := hoc0.cond
      have k5 := hoc0.whn
      have HC4' := hide (fun V (h : Below w.heap.size w V) (hN : Ns V aq o.qs) => HC4.out V h o (List.mem_of_getElem? ho) aq cq hN)
      have HTK0 : Hid ((l.take (i + 1)).map (ctO q) = (l.take i).map (ctO q) ++ [ctO q o]) := hide (by rw [List.take_add_one, ho, List.map_append]; rfl)
      have HNS := hide hoc0.ns
      have HNO := hide hO
      have HBr := hide hb
      have HM0 := hide hm0
      have HM1 := hide hm1
      have HM2 := hide hm2
      obtain ⟨kind, gate, qs, bit, cond, whn⟩ := o
      unfold opV at HC4'
      simp only at k0 k1 k2 k3 k4 k5 HC4' HNS
      generalize ctO q ⟨kind, gate, qs, bit, cond, whn⟩ = op2 at *
      generalize qs.length = m at *
      clear hoc0 ho hb hm0 hm1 hm2 hO hgl0 HC4 HOI HD0
      go_wp2_with fail
      have HB1 : Hid (Below w.heap.size w (wr.alloc (.cells #[.int .i64 kind, .int .i64 gate, .slice aq m cq, .int .i64 bit, .int .i64 cond, .int .i64 whn] 41))) := hide (HBr.out.trans ((bnew _ _).mono HBr.out.size))
      have hal : Below wr.heap.size wr (wr.alloc (.cells #[.int .i64 kind, .int .i64 gate, .slice aq m cq, .int .i64 bit, .int .i64 cond, .int .i64 whn] 41)) := bnew _ _
      have HS1 : Hid ((wr.alloc (.cells #[.int .i64 kind, .int .i64 gate, .slice aq m cq, .int .i64 bit, .int .i64 cond, .int .i64 whn] 41)).heap[w.heap.size]? = some (.cells #[.int .i64 q, .int .i64 b, .slice (some ⟨g, off, none⟩) n k] 24 (0, 0)) /\ (wr.alloc (.cells #[.int .i64 kind, .int .i64 gate, .slice aq m cq, .int .i64 bit, .int .i64 cond, .int .i64 whn] 41)).heap[D]? = some (.cells #[.int .i64 (q + 1), .int .i64 b, .slice bo i j] 24 (0, 0)) /\ (wr.alloc (.cells #[.int .i64 kind, .int .i64 gate, .slice aq m cq, .int .i64 bit, .int .i64 cond, .int .i64 whn] 41)).heap[wr.heap.size]? = some (.cells #[.int .i64 kind, .int .i64 gate, .slice aq m cq, .int .i64 bit, .int .i64 cond, .int .i64 whn] 41)) := hide ⟨(hal.block _ (Array.getElem?_eq_some_iff.1 HM0.out).1).trans HM0.out, (hal.block _ (Array.getElem?_eq_some_iff.1 HM2.out).1).trans HM2.out, heap_alloc_new _ _⟩
      have HZ1 : Hid ((wr.alloc (.cells #[.int .i64 kind, .int .i64 gate, .slice aq m cq, .int .i64 bit, .int .i64 cond, .int .i64 whn] 41)).heap[w.heap.size + 1]? = some (.cells #[.int .i64 0, .int .i64 0, .slice none 0 0] 24 (0, 0))) := hide ((hal.block _ (Array.getElem?_eq_some_iff.1 HM1.out).1).trans HM1.out)
      have HO1 := hide (HNO.out.below hal)
      have HNP : Hid (ob bo ≠ some wr.heap.size) := hide (fun e => by
        obtain ⟨xs, _, _, h3, _⟩ := HNO.out
        have := (own_lt h3 _ e).2
        omega)
      have HC4 := hide (fun (V : World) (h : Below w.heap.size w V) (hb : Below (wr.alloc (.cells #[.int .i64 kind, .int .i64 gate, .slice aq m cq, .int .i64 bit, .int .i64 cond, .int .i64 whn] 41)).heap.size (wr.alloc (.cells #[.int .i64 kind, .int .i64 gate, .slice aq m cq, .int .i64 bit, .int .i64 cond, .int .i64 whn] 41)) V) => HC4'.out V h ((HNS.out.below hal).below hb))
      have HTK := HTK0
      clear hal k0 k1 k2 k3 k4 k5 HC4' HTK0
      generalize (wr.alloc (.cells #[.int .i64 kind, .int .i64 gate, .slice aq m cq, .int .i64 bit, .int .i64 cond, .int .i64 whn] 41)) = W1 at *
      generalize wr.heap.size = P at *
      refine region_front (S := (fun V : World => V.heap[w.heap.size]? = some (.cells #[.int .i64 q, .int .i64 b, .slice (some ⟨g, off, none⟩) n k] 24 (0, 0)) /\ V.heap[D]? = some (.cells #[.int .i64 (q + 1), .int .i64 b, .slice bo i j] 24 (0, 0)) /\ V.heap[P]? = some (.cells #[.int .i64 kind, .int .i64 gate, .slice aq m cq, .int .i64 bit, .int .i64 cond, .int .i64 whn] 41))) (by kernel_rfl) 9 (by kernel_rfl) HS1.out (fun hHeld => ?_)
      simp only [List.take_succ_cons, List.take_zero]
      refine take_to (i := 0) (d := 45) (v := ?_) rfl rfl (by kernel_rfl) (by kernel_rfl) (by kernel_rfl) (fun _ _ _ h => h) (Or.inl ⟨by rfl, ?_⟩) (by assumption) ?_
      rotate_left 1
      . intro W hSw
        obtain ⟨hc1, hc2, hc3⟩ := hSw
        obtain ⟨s0, s1, s2, s3⟩ := def_cells hc1
        obtain ⟨t0, t1, t2, t3⟩ := def_cells hc2
        obtain ⟨u0, u1, u2, u3, u4, u5, u6, u7⟩ := six_cells hc3
        go_simp
        with_reducible rfl
      simp only [Act.put, List.setIfInBounds_toArray, List.set_cons_zero, List.set_cons_succ]
      refine take_to (i := 1) (d := 46) (v := ?_) rfl rfl (by kernel_rfl) (by kernel_rfl) (by kernel_rfl) (fun _ _ _ h => h) (Or.inl ⟨by rfl, ?_⟩) (by assumption) ?_
      rotate_left 1
      . intro W hSw
        obtain ⟨hc1, hc2, hc3⟩ := hSw
        obtain ⟨s0, s1, s2, s3⟩ := def_cells hc1
        obtain ⟨t0, t1, t2, t3⟩ := def_cells hc2
        obtain ⟨u0, u1, u2, u3, u4, u5, u6, u7⟩ := six_cells hc3
        go_simp
        with_reducible rfl
      simp only [Act.put, List.setIfInBounds_toArray, List.set_cons_zero, List.set_cons_succ]
      refine take_to (i := 2) (d := 47) (v := ?_) rfl rfl (by kernel_rfl) (by kernel_rfl) (by kernel_rfl) (fun _ _ _ h => h) (Or.inl ⟨by rfl, ?_⟩) (by assumption) ?_
      rotate_left 1
      . intro W hSw
        obtain ⟨hc1, hc2, hc3⟩ := hSw
        obtain ⟨s0, s1, s2, s3⟩ := def_cells hc1
        obtain ⟨t0, t1, t2, t3⟩ := def_cells hc2
        obtain ⟨u0, u1, u2, u3, u4, u5, u6, u7⟩ := six_cells hc3
        go_simp
        with_reducible rfl
      simp only [Act.put, List.setIfInBounds_toArray, List.set_cons_zero, List.set_cons_succ]
      refine take_to (i := 3) (d := 48) (v := ?_) rfl rfl (by kernel_rfl) (by kernel_rfl) (by kernel_rfl) (fun _ _ _ h => h) (Or.inl ⟨by rfl, ?_⟩) (by assumption) ?_
      rotate_left 1
      . intro W hSw
        obtain ⟨hc1, hc2, hc3⟩ := hSw
        obtain ⟨s0, s1, s2, s3⟩ := def_cells hc1
        obtain ⟨t0, t1, t2, t3⟩ := def_cells hc2
        obtain ⟨u0, u1, u2, u3, u4, u5, u6, u7⟩ := six_cells hc3
        go_simp
        with_reducible rfl
      simp only [Act.put, List.setIfInBounds_toArray, List.set_cons_zero, List.set_cons_succ]
      refine take_to (i := 4) (d := 49) (v := ?_) rfl rfl (by kernel_rfl) (by kernel_rfl) (by kernel_rfl) (fun _ _ _ h => h) (Or.inl ⟨by rfl, ?_⟩) (by assumption) ?_
      rotate_left 1
      . intro W hSw
        obtain ⟨hc1, hc2, hc3⟩ := hSw
        obtain ⟨s0, s1, s2, s3⟩ := def_cells hc1
        obtain ⟨t0, t1, t2, t3⟩ := def_cells hc2
        obtain ⟨u0, u1, u2, u3, u4, u5, u6, u7⟩ := six_cells hc3
        go_simp
        with_reducible rfl
      simp only [Act.put, List.setIfInBounds_toArray, List.set_cons_zero, List.set_cons_succ]
      refine wpAnyH_ready (rs := [5]) (by kernel_rfl) (by simp) ?_
      refine AllReadyH.cons (o := { dst := some 50, op := Op.call { callee := Callee.value (Operand.func 35), args := #[Operand.tmp 48, Operand.tmp 49], argTypes := #[3, 41] }, type := 41, pos := "invert.go:96", after := #[{ on := 3, ground := Ground.data }, { on := 4, ground := Ground.data }], guard := none }) rfl (fun K hK => ?_) AllReadyH.nil
      go_simp
      go_at_call 35
      refine Calls.mono (HC4.out W1.drew HB1.out.drew (Below.refl _ _).drew) ?_
      rintro e w5 ⟨a5, k5, rfl, hR5, hb5⟩
      have hS5 : (fun V : World => V.heap[w.heap.size]? = some (.cells #[.int .i64 q, .int .i64 b, .slice (some ⟨g, off, none⟩) n k] 24 (0, 0)) /\ V.heap[D]? = some (.cells #[.int .i64 (q + 1), .int .i64 b, .slice bo i j] 24 (0, 0)) /\ V.heap[P]? = some (.cells #[.int .i64 kind, .int .i64 gate, .slice aq m cq, .int .i64 bit, .int .i64 cond, .int .i64 whn] 41)) w5 := ⟨(hb5.block _ (Array.getElem?_eq_some_iff.1 HS1.out.1).1).trans HS1.out.1, (hb5.block _ (Array.getElem?_eq_some_iff.1 HS1.out.2.1).1).trans HS1.out.2.1, (hb5.block _ (Array.getElem?_eq_some_iff.1 HS1.out.2.2).1).trans HS1.out.2.2⟩
      have n1 : w5.heap[w.heap.size + 1]? = some (.cells #[.int .i64 0, .int .i64 0, .slice none 0 0] 24 (0, 0)) := (hb5.block _ (Array.getElem?_eq_some_iff.1 HZ1.out).1).trans HZ1.out
      have hbw5 : Below w.heap.size w w5 := HB1.out.drew.trans (hb5.mono HB1.out.size)
      have hO5 : OpsE w5 w.heap.size W1.heap.size bo i j ((l.take i).map (ctO q)) := (show OpsOwn W1.drew w.heap.size bo i j ((l.take i).map (ctO q)) from HO1.out).upto.below hb5
      go_wp2_with fail
      refine hK.out _ _ hS5 (fun hHeld => ?_)
      clear hK K
      refine wpAnyH_ready (rs := [6]) (by kernel_rfl) (by simp) ?_
      refine AllReadyH.cons (o := { dst := some 51, op := Op.buildSlice 22 1 #[(0, Operand.tmp 50)], type := 22, pos := "invert.go:96", after := #[{ on := 5, ground := Ground.data }], guard := none }) rfl (fun K hK => ?_) AllReadyH.nil
      go_simp
      have hba : Below w5.heap.size w5 (w5.alloc (.cells (opC (op2, .slice a5 op2.qs.length k5)).toArray 41)) := bnew _ _
      have hH : (w5.alloc (.cells (opC (op2, .slice a5 op2.qs.length k5)).toArray 41)).heap[w5.heap.size]? = some (.cells (opC (op2, .slice a5 op2.qs.length k5)).toArray 41 (0, 0)) := heap_alloc_new _ _
      have hS6 : (fun V : World => V.heap[w.heap.size]? = some (.cells #[.int .i64 q, .int .i64 b, .slice (some ⟨g, off, none⟩) n k] 24 (0, 0)) /\ V.heap[D]? = some (.cells #[.int .i64 (q + 1), .int .i64 b, .slice bo i j] 24 (0, 0)) /\ V.heap[P]? = some (.cells #[.int .i64 kind, .int .i64 gate, .slice aq m cq, .int .i64 bit, .int .i64 cond, .int .i64 whn] 41)) (w5.alloc (.cells (opC (op2, .slice a5 op2.qs.length k5)).toArray 41)) := ⟨(hba.block _ (Array.getElem?_eq_some_iff.1 hS5.1).1).trans hS5.1, (hba.block _ (Array.getElem?_eq_some_iff.1 hS5.2.1).1).trans hS5.2.1, (hba.block _ (Array.getElem?_eq_some_iff.1 hS5.2.2).1).trans hS5.2.2⟩
      refine hK.out _ _ hS6 (fun hHeld => ?_)
      clear hK K
      try simp only [Act.put, List.setIfInBounds_toArray, List.set_cons_zero, List.set_cons_succ]
      refine wpAnyH_ready (rs := [7]) (by kernel_rfl) (by simp) ?_
      refine AllReadyH.cons (o := { dst := some 52, op := Op.call { callee := Callee.builtin Builtin.append, args := #[Operand.tmp 46, Operand.tmp 51], argTypes := #[22, 22] }, type := 22, pos := "invert.go:96", after := #[{ on := 1, ground := Ground.data }, { on := 6, ground := Ground.data }, { on := 5, ground := Ground.chain }], guard := none }) rfl (fun K hK => ?_) AllReadyH.nil
      refine step_push17 rfl (.tmp 46) (.tmp 51) rfl (hO5.below hba) HB1.out.size (by have := hb5.size; have h2 : W1.drew.heap.size = W1.heap.size := rfl; simp only [World.size_alloc]; omega) op2 (.slice a5 op2.qs.length k5) ((show RowO w5 W1.heap.size (.slice a5 op2.qs.length k5) op2.qs from hR5).below hba) w5.heap.size hH (by omega) (by rfl) (by rfl) ?_
      intro g6 c6 w6 hO6 hg6
      have hO6b := (hO5.below hba).own
      have hkp : ∀ (x : Nat) (cs : Array Value), (w5.alloc (.cells (opC (op2, .slice a5 op2.qs.length k5)).toArray 41)).heap[x]? = some (.cells cs 24 (0, 0)) -> w6.heap[x]? = some (.cells cs 24 (0, 0)) := fun x cs hx => (hg6.block x (Array.getElem?_eq_some_iff.1 hx).1 (hO6b.ne hx (by decide)).symm).trans hx
      have hb6 : Below w.heap.size w w6 := (hbw5.trans (hba.mono hbw5.size)).grown hg6 (hbw5.trans (hba.mono hbw5.size)).size hO6b.blt
      have m6 := hkp _ _ hS6.1
      have d6 := hkp _ _ hS6.2.1
      have z6 := hkp _ _ ((hba.block _ (Array.getElem?_eq_some_iff.1 n1).1).trans n1)
      have hS7 : (fun V : World => V.heap[w.heap.size]? = some (.cells #[.int .i64 q, .int .i64 b, .slice (some ⟨g, off, none⟩) n k] 24 (0, 0)) /\ V.heap[D]? = some (.cells #[.int .i64 (q + 1), .int .i64 b, .slice bo i j] 24 (0, 0)) /\ V.heap[P]? = some (.cells #[.int .i64 kind, .int .i64 gate, .slice aq m cq, .int .i64 bit, .int .i64 cond, .int .i64 whn] 41)) w6 := ⟨m6, d6, (hg6.block _ (Array.getElem?_eq_some_iff.1 hS6.2.2).1 HNP.out.symm).trans hS6.2.2⟩
      refine hK.out _ _ hS7 (fun hHeld => ?_)
      clear hK K
      try simp only [Act.put, List.setIfInBounds_toArray, List.set_cons_zero, List.set_cons_succ]
      refine take_to (i := 8) (d := 53) (v := ?_) rfl rfl (by kernel_rfl) (by kernel_rfl) (by kernel_rfl) (fun _ _ _ h => h) (Or.inl ⟨by rfl, ?_⟩) (by assumption) ?_
      rotate_left 1
      . intro W hSw
        obtain ⟨hc1, hc2, hc3⟩ := hSw
        obtain ⟨s0, s1, s2, s3⟩ := def_cells hc1
        obtain ⟨t0, t1, t2, t3⟩ := def_cells hc2
        obtain ⟨u0, u1, u2, u3, u4, u5, u6, u7⟩ := six_cells hc3
        go_simp
        with_reducible rfl
      simp only [Act.put, List.setIfInBounds_toArray, List.set_cons_zero, List.set_cons_succ]
      refine wpAnyH_done (by kernel_rfl) ?_ _
      refine ql_last17 (o := { dst := none, op := Op.store 22 (Operand.tmp 53) (Operand.tmp 52), type := 0, pos := "invert.go:96", after := #[{ on := 8, ground := Ground.data }, { on := 7, ground := Ground.data }, { on := 7, ground := Ground.chain }, { on := 0, ground := Ground.phase }, { on := 1, ground := Ground.phase }, { on := 2, ground := Ground.phase }, { on := 3, ground := Ground.phase }, { on := 4, ground := Ground.phase }, { on := 5, ground := Ground.phase }, { on := 6, ground := Ground.phase }, { on := 7, ground := Ground.phase }], guard := none }) rfl (fun K hK => ?_)
      obtain ⟨v0, v1, v2, v3⟩ := def_cells d6
      have vf : ∀ x, w6.frozen? ⟨D, x, none⟩ = false := fun x => by simp [World.frozen?, d6]
      have e6 : w6.setCell ⟨D, 2, none⟩ (.slice (some ⟨g6, 0, none⟩) (i + 1) c6) = w6.setRow D #[.int .i64 (q + 1), .int .i64 b, .slice (some ⟨g6, 0, none⟩) (i + 1) c6] := by
        rw [setCell_eq_setRow _ _ 2 _ _ _ _ d6]
        rfl
      have HE6 := hide e6
      have HF : Hid (Below w.heap.size w (w6.setRow D #[.int .i64 (q + 1), .int .i64 b, .slice (some ⟨g6, 0, none⟩) (i + 1) c6]) /\ (w6.setRow D #[.int .i64 (q + 1), .int .i64 b, .slice (some ⟨g6, 0, none⟩) (i + 1) c6]).heap[w.heap.size]? = some (.cells #[.int .i64 q, .int .i64 b, .slice (some ⟨g, off, none⟩) n k] 24 (0, 0)) /\ (w6.setRow D #[.int .i64 (q + 1), .int .i64 b, .slice (some ⟨g6, 0, none⟩) (i + 1) c6]).heap[w.heap.size + 1]? = some (.cells #[.int .i64 0, .int .i64 0, .slice none 0 0] 24 (0, 0)) /\ ∃ (bo : Option Addr) (j : Nat), (w6.setRow D #[.int .i64 (q + 1), .int .i64 b, .slice (some ⟨g6, 0, none⟩) (i + 1) c6]).heap[D]? = some (.cells #[.int .i64 (q + 1), .int .i64 b, .slice bo (i + 1) j] 24 (0, 0)) /\ OpsOwn (w6.setRow D #[.int .i64 (q + 1), .int .i64 b, .slice (some ⟨g6, 0, none⟩) (i + 1) c6]) w.heap.size bo (i + 1) j ((l.take (i + 1)).map (ctO q))) := hide (by
        have hrow := hO6.row d6 (by decide) (by decide) #[.int .i64 (q + 1), .int .i64 b, .slice (some ⟨g6, 0, none⟩) (i + 1) c6]
        refine ⟨Below.row hb6 _ _ (by omega), (setRow_other _ _ _ _ (by omega)).trans m6, (setRow_other _ _ _ _ (by omega)).trans z6, some ⟨g6, 0, none⟩, c6, setRow_heap _ _ _ _ _ _ d6, ?_⟩
        rw [HTK.out]
        exact hrow)
      clear hS5 hS6 hS7 hO5 hO6 hO6b hb5 hba hH hg6 hb6 hkp n1 m6 d6 z6 e6 hHeld hR5 hbw5
      go_simp
      refine hK.out _ _ ?_
      clear hK K
      rw [HE6.out]
      go_wp2_with fail
      go_roundw
      case rel => exact ⟨i + 1, by go_num, by omega, HF.out⟩
      case measure => simp [Go.RowKit.intOf]; omega
    . obtain rfl : n = i := by omega
      have hd : decide ((n : Int) < (n : Int)) = false := decide_eq_false (by omega)
      obtain ⟨r0, r1, r2, r3⟩ := def_cells hm2
      have HM1 := hide hm1
      have HBr := hide hb
      have HO : Hid (OpsOwn wr w.heap.size bo n j (l.map (ctO q))) := hide (by rwa [List.take_of_length_le (by rw [HL.out]; exact Nat.le_refl _)] at hO)
      clear hb hm0 hm1 hm2 hO
      go_wp2_with (refine wpList_store_row rfl _ _ _ rfl (w.heap.size + 1) _ rfl rfl _ _ HM1.out (by exact infoCi) (by rfl) (by simp [Value.oneCell']) ?_)
      refine bodyPost_ret (results_ct rfl _ _ (w.heap.size + 1) _ _ _ _ rfl (setRow_heap _ _ _ _ _ _ HM1.out) Tryd.underlying24 rfl (by exact infoCi)) rfl ?_
      exact ⟨bo, j, rfl, HO.out.row HM1.out (by decide) (by decide) _, Below.row HBr.out _ _ (by omega)⟩
theorem iControl (c : Circ) (ao : Option Addr) (k : Nat) (w : World) (hT : Ti w) (hC : Ci w c ao k) : Calls Tryd.prog 14 #[cV c ao k] w fun e w' => ∃ bo j, e = .returned (.tuple #[cV (ctP c).1 bo j, .int .i64 (ctP c).2]) /\ OpsOwn w' w.heap.size bo (ctP c).1.ops.length j (ctP c).1.ops /\ Below w.heap.size w w' := by
  have no : ∀ er : Int, (Calls Tryd.prog 14 #[cV c ao k] w fun e w' => e = .returned (.tuple #[cV nulC none 0, .int .i64 er]) /\ Below w.heap.size w w') -> ctP c = (nulC, er) -> Calls Tryd.prog 14 #[cV c ao k] w fun e w' => ∃ bo j, e = .returned (.tuple #[cV (ctP c).1 bo j, .int .i64 (ctP c).2]) /\ OpsOwn w' w.heap.size bo (ctP c).1.ops.length j (ctP c).1.ops /\ Below w.heap.size w w' := fun er h1 h2 => by
    rw [h2]
    refine h1.mono ?_
    rintro e w' ⟨rfl, hb⟩
    exact ⟨none, 0, rfl, OpsOwn.nil _ _, hb⟩
  rcases chk_two c with hk | hk
  . by_cases h1 : c.q = 64
    . exact no 170 (iControl_64 c ao k hk h1 w hT hC) (by unfold ctP; rw [if_neg (by simp [hk]), if_pos (.inl h1)])
    cases hu : c.ops.any unO with
    | true => exact no 170 (iControl_un c ao k hk h1 hu w hT hC) (by unfold ctP; rw [if_neg (by simp [hk]), if_pos (.inr (.inl hu))])
    | false =>
      cases hn : c.ops.any ncO with
      | true => exact no 170 (iControl_nc c ao k hk h1 hu hn w hT hC) (by unfold ctP; rw [if_neg (by simp [hk]), if_pos (.inr (.inr hn))])
      | false =>
        have e : ctP c = (⟨c.q + 1, c.b, c.ops.map (ctO c.q)⟩, 0) := by
          unfold ctP
          rw [if_neg (by simp [hk]), if_neg (by rintro (h | h | h) <;> first | exact h1 h | (rw [hu] at h; cases h) | (rw [hn] at h; cases h))]
        rw [e]
        refine (iControl_ok c ao k hk h1 hu hn w hT hC).mono ?_
        rintro e w' ⟨bo, j, rfl, h2, h3⟩
        exact ⟨bo, j, rfl, by simpa using h2, h3⟩
  . exact no 80 (iControl_80 c ao k hk w hT hC) (by unfold ctP; rw [if_pos (by rw [hk]; decide)])
end Go.Proofs.YtmkalhaegbnknaaDoor.Cir
