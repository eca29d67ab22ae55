import Derived.Test.YtmkalhaegbnknaaDoorQ423a3897
import Derived.Test.YtmkalhaegbnknaaDoorQ8e3b1666
import Derived.Test.YtmkalhaegbnknaaDoorQ9dde1cc2
set_option maxRecDepth 100000
set_option maxHeartbeats 8000000
namespace Go.Proofs.YtmkalhaegbnknaaDoor.Cir
open Go.RowKit Go.Shelf Go.Proofs.YtmkalhaegbnknaaDoor.Oct Go.Proofs.YtmkalhaegbnknaaDoor.Tok Go.Proofs.YtmkalhaegbnknaaDoor.Gt Go.Proofs.YtmkalhaegbnknaaDoor.Rf
theorem ct_one : ∀ x : Fin 21, ctK (x.1 : Int) = 1 -> x.1 = 1 := by decide +kernel
theorem ct_zero : ctK 0 = 0 := by decide +kernel
theorem ct_self : ∀ x : Fin 21, ctK (x.1 : Int) = (x.1 : Int) -> x.1 = 0 ∨ x.1 = 1 := by decide +kernel
theorem dControl_80 (c : Circ) (ao : Option Addr) (k : Nat) (hk : ((chkC c).2 == 0) = false) (w : World) (hC : Ci w c ao k) : Calls Tryd.prog 15 #[cV c ao k] w fun e w' => e = .returned (.tuple #[cV nulC none 0, .int .i64 80]) /\ Below w.heap.size w w' := by
  have c1 := fun V (h : Below w.heap.size w V) => eMay c ao k V (hC.below h)
  rw [hk] at c1
  obtain ⟨q, b, l⟩ := c
  unfold cV nulC at *
  simp only [List.length_nil] at *
  generalize l.length = n at *
  clear hC hk
  have HB0 := hide (show Below w.heap.size w ((w.alloc (.cells #[.int .i64 q, .int .i64 b, .slice ao n k] 24)).alloc (.cells #[.int .i64 0, .int .i64 0, .slice none 0 0] 24)) from (bnew _ _).trans ((bnew _ _).mono (by simp)))
  go_enter Tryd.func15, Tryd.ntmps15
  go_wp2_with (first
    | (go_at_call 23; refine (c1 _ HB0.out).mono ?_; rintro e w1 ⟨rfl, hb1⟩; obtain ⟨m1, m2⟩ := may_keep hb1; obtain ⟨x0, x1, x2, x3⟩ := def_cells m1; have HB1 := hide (HB0.out.trans (hb1.mono HB0.out.size)); have HM1 := hide m1; have HM2 := hide m2; clear hb1 m1 m2)
    | refine wpList_store_row rfl _ _ _ rfl (w.heap.size + 1) _ rfl rfl _ _ HM2.out (by exact infoCi) (by rfl) (by simp [Value.oneCell']) ?_)
  refine bodyPost_ret (results_ct rfl _ _ (w.heap.size + 1) _ _ _ _ rfl (setRow_heap _ _ _ _ _ _ HM2.out) Tryd.underlying24 rfl (by exact infoCi)) rfl ?_
  exact ⟨rfl, Below.row HB1.out _ _ (by omega)⟩
theorem dControl_64 (c : Circ) (ao : Option Addr) (k : Nat) (hk : ((chkC c).2 == 0) = true) (h64 : 64 <= c.q) (w : World) (hC : Ci w c ao k) : Calls Tryd.prog 15 #[cV c ao k] w fun e w' => e = .returned (.tuple #[cV nulC none 0, .int .i64 170]) /\ Below w.heap.size w w' := by
  have c1 := fun V (h : Below w.heap.size w V) => eMay c ao k V (hC.below h)
  rw [hk] at c1
  obtain ⟨q, b, l⟩ := c
  unfold cV nulC at *
  simp only [List.length_nil] at *
  generalize l.length = n at *
  have f0 : decide (q ≥ 64) = true := decide_eq_true h64
  have f1 : decide (64 <= q) = true := decide_eq_true h64
  clear h64
  clear hC hk
  have HB0 := hide (show Below w.heap.size w ((w.alloc (.cells #[.int .i64 q, .int .i64 b, .slice ao n k] 24)).alloc (.cells #[.int .i64 0, .int .i64 0, .slice none 0 0] 24)) from (bnew _ _).trans ((bnew _ _).mono (by simp)))
  go_enter Tryd.func15, Tryd.ntmps15
  go_wp2_with (first
    | (go_at_call 23; refine (c1 _ HB0.out).mono ?_; rintro e w1 ⟨rfl, hb1⟩; obtain ⟨m1, m2⟩ := may_keep hb1; obtain ⟨x0, x1, x2, x3⟩ := def_cells m1; have HB1 := hide (HB0.out.trans (hb1.mono HB0.out.size)); have HM1 := hide m1; have HM2 := hide m2; clear hb1 m1 m2)
    | refine wpList_store_row rfl _ _ _ rfl (w.heap.size + 1) _ rfl rfl _ _ HM2.out (by exact infoCi) (by rfl) (by simp [Value.oneCell']) ?_)
  refine bodyPost_ret (results_ct rfl _ _ (w.heap.size + 1) _ _ _ _ rfl (setRow_heap _ _ _ _ _ _ HM2.out) Tryd.underlying24 rfl (by exact infoCi)) rfl ?_
  exact ⟨rfl, Below.row HB1.out _ _ (by omega)⟩
theorem dControl_go (c : Circ) (ao : Option Addr) (k : Nat) (hk : (chkC c).2 = 0) (h64 : ¬ c.q = 64) (w : World) (hC : Ci w c ao k) : Calls Tryd.prog 15 #[cV c ao k] w fun e w' => ∃ bo j, e = .returned (.tuple #[cV (ctP c).1 bo j, .int .i64 (ctP c).2]) /\ OpsAt w' w.heap.size bo (ctP c).1.ops.length j (ctP c).1.ops /\ Below w.heap.size w w' := by
  have c1 := fun V (h : Below w.heap.size w V) => eMay c ao k V (hC.below h)
  have c4 := fun V => dEmpty c ao k V
  have hck := chkC_ok hk
  have HOK := hide hck.2.2.2.2.2
  have HQ64 := hide (fun o (ho : o ∈ c.ops) => (may_in hck.1 hck.2.1 hck.2.2.2.1 (hck.2.2.2.2.2 o ho)).1)
  have hlen := hck.2.2.2.2.1
  have hq0 := hck.1
  have hq1 := hck.2.1
  have HOI := hide hC.ops
  have HBad : Hid (∀ o, o ∈ c.ops -> (unO o || ncO o) = true -> ctP c = (nulC, 170)) := hide (fun o ho h => by
    unfold ctP
    rw [if_neg (by simp [hk]), if_pos]
    rcases Bool.or_eq_true_iff.1 h with h | h
    . exact .inr (.inl (List.any_eq_true.2 ⟨o, ho, h⟩))
    . exact .inr (.inr (List.any_eq_true.2 ⟨o, ho, h⟩)))
  have HGood : Hid ((∀ o ∈ c.ops, (unO o || ncO o) = false) -> ctP c = (⟨c.q + 1, c.b, c.ops.map (ctO c.q)⟩, 0)) := hide (fun h => by
    unfold ctP
    rw [if_neg (by simp [hk]), if_neg]
    rintro (e | e | e)
    . exact h64 e
    . obtain ⟨o, ho, e⟩ := List.any_eq_true.1 e
      have := h o ho
      rw [e] at this
      simp at this
    . obtain ⟨o, ho, e⟩ := List.any_eq_true.1 e
      have := h o ho
      rw [e] at this
      simp at this)
  generalize ctP c = R at *
  obtain ⟨⟨rq, rb, rl⟩, re⟩ := R
  rw [hk] at c1
  obtain ⟨q, b, l⟩ := c
  unfold cV at *
  simp only [beq_self_eq_true] at *
  obtain ⟨n, hnn⟩ : ∃ n, l.length = n := ⟨_, rfl⟩
  have HL := hide hnn
  rw [hnn] at c1 c4 hlen ⊢
  obtain ⟨rn, hrn⟩ : ∃ rn, rl.length = rn := ⟨_, rfl⟩
  have HRN := hide hrn
  rw [hrn]
  have f0 : decide (q ≥ 64) = false := decide_eq_false (by omega)
  have f1 : decide (64 <= q) = false := decide_eq_false (by omega)
  have g0 : wrap64 (q + 1) = q + 1 := by unfold wrap64; omega
  clear hC hk h64 hck hnn hrn hq0 hq1
  have HB0 := hide (show Below w.heap.size w ((w.alloc (.cells #[.int .i64 q, .int .i64 b, .slice ao n k] 24)).alloc (.cells #[.int .i64 0, .int .i64 0, .slice none 0 0] 24)) from (bnew _ _).trans ((bnew _ _).mono (by simp)))
  go_enter Tryd.func15, Tryd.ntmps15
  go_wp2_with (first
    | (go_at_call 23; refine (c1 _ HB0.out).mono ?_; rintro e w1 ⟨rfl, hb1⟩; obtain ⟨m1, m2⟩ := may_keep hb1; obtain ⟨x0, x1, x2, x3⟩ := def_cells m1; have HB1 := hide (HB0.out.trans (hb1.mono HB0.out.size)); have HM1 := hide m1; have HM2 := hide m2; clear hb1 m1 m2)
    | (go_at_call 25; refine (c4 _).mono ?_; rintro e w2 ⟨rfl, hb2⟩; have HB2 := hide (HB1.out.trans (hb2.mono HB1.out.size)); have m1 := (hb2.block _ (Array.getElem?_eq_some_iff.1 HM1.out).1).trans HM1.out; have m2 := (hb2.block _ (Array.getElem?_eq_some_iff.1 HM2.out).1).trans HM2.out; obtain ⟨y0, y1, y2, y3⟩ := def_cells m1; have HM3 := hide m1; have HM4 := hide m2; clear hb2 m1 m2))
  try simp only [g0]
  clear g0 f0 f1
  have HS0 : Hid (Below w2.heap.size w2 (w2.alloc (.cells #[.int .i64 (q + 1), .int .i64 b, .slice none 0 0] 24)) /\ (w2.alloc (.cells #[.int .i64 (q + 1), .int .i64 b, .slice none 0 0] 24)).heap[w2.heap.size]? = some (.cells #[.int .i64 (q + 1), .int .i64 b, .slice none 0 0] 24) /\ w2.heap.size < (w2.alloc (.cells #[.int .i64 (q + 1), .int .i64 b, .slice none 0 0] 24)).heap.size) := hide ⟨bnew _ _, heap_alloc_new _ _, by simp⟩
  have hDW := (Array.getElem?_eq_some_iff.1 HM4.out).1
  clear x0 x1 x2 x3 y0 y1 y2 y3 c1 c4 HM1 HM2 HB0 HB1
  generalize (w2.alloc (.cells #[.int .i64 (q + 1), .int .i64 b, .slice none 0 0] 24)) = w3 at *
  generalize hDD : w2.heap.size = D at *
  have HDD := hide hDD
  clear hDD
  go_loopw [5, 6, 7, 8] (fun vi _ _ _ wr => ∃ i : Nat, vi = .int .i64 (i : Int) /\ i <= n /\ Below w2.heap.size w2 wr /\ D < wr.heap.size /\ (∀ o ∈ l.take i, (unO o || ncO o) = false) /\ ∃ (bo : Option Addr) (j : Nat), wr.heap[D]? = some (.cells #[.int .i64 (q + 1), .int .i64 b, .slice bo i j] 24 (0, 0)) /\ OpsOwn wr D bo i j ((l.take i).map (ctO q))) (fun vi _ _ _ _ => n - (Go.RowKit.intOf vi).toNat)
  case atStart => exact ⟨0, rfl, Nat.zero_le _, by rw [HDD.out]; exact HS0.out.1, HS0.out.2.2, (fun o ho => by simp at ho), none, 0, HS0.out.2.1, OpsOwn.nil _ _⟩
  case round =>
    obtain ⟨i, rfl, hi, hb, hDr, hgd, bo, j, hmo, hO⟩ := hrel
    have hD2 : w2.heap.size = D := HDD.out
    have ha := (hb.block w.heap.size (Array.getElem?_eq_some_iff.1 HM3.out).1).trans HM3.out
    have hzr := (hb.block (w.heap.size + 1) (by omega)).trans HM4.out
    obtain ⟨r0, r1, r2, r3⟩ := def_cells ha
    have HAr := hide ha
    have HZr := hide hzr
    have HMO := hide hmo
    have HOw := hide hO
    have HBr := hide hb
    have HGD0 := hide hgd
    clear ha hzr hmo hO hb hgd
    by_cases h : i < n
    . have hd : decide ((i : Int) < (n : Int)) = true := decide_eq_true (by omega)
      have hkk : (i : Int) < (n : Int) := by omega
      obtain ⟨o, ho⟩ : ∃ o, l[i]? = some o := ⟨_, List.getElem?_eq_getElem (by rw [HL.out]; exact h)⟩
      have hom := List.mem_of_getElem? ho
      have hmay := HOK.out o hom
      obtain ⟨g, off, aq, cq, rfl, hgl, hoc⟩ := (HOI.out.below (HB2.out.trans (HBr.out.mono HB2.out.size))).at ho
      have k0 := hoc.kind
      have k1 := hoc.gate
      have k2 := hoc.qs
      have k3 := hoc.bit
      have k4 := hoc.cond
      have k5 := hoc.whn
      have hroom := hoc.room
      have hpos := may_pos hmay
      have h64q := HQ64.out o hom
      have HNS := hide hoc.ns
      have HTK : Hid ((l.take (i + 1)).map (ctO q) = (l.take i).map (ctO q) ++ [ctO q o]) := hide (by rw [List.take_add_one, ho, List.map_append]; rfl)
      have HGD : Hid ((unO o || ncO o) = false -> ∀ o' ∈ l.take (i + 1), (unO o' || ncO o') = false) := hide (fun e o' ho' => by
        rw [List.take_add_one, ho] at ho'
        rcases List.mem_append.1 ho' with ho' | ho'
        . exact HGD0.out o' ho'
        . simp at ho'
          rw [ho']
          exact e)
      have HMem := hide hom
      have HMy := hide (may_gt hmay)
      have HCC := hide (fun V => dControlled o.gate (by rcases may_gt hmay with e | e <;> omega) (by rcases may_gt hmay with e | e <;> omega) V)
      obtain ⟨o0, hoo⟩ : ∃ o0, o = o0 := ⟨_, rfl⟩
      have HOO := hide hoo
      rw [hoo] at HMem HTK HGD
      have HUN : Hid (unO o0 = (decide (o.kind ≠ 4) && (decide (o.kind ≠ 1) || decide (o.cond ≠ -1))) /\ ncO o0 = (decide (o.kind = 1) && decide (ctK o.gate = 0)) /\ (ctO q o0 = if ctK o.gate = o.gate then o else { o with gate := ctK o.gate, qs := q :: o.qs })) := hide (by rw [← hoo]; exact ⟨rfl, rfl, rfl⟩)
      obtain ⟨kind, gate, qs, bit, cond, whn⟩ := o
      simp only at k0 k1 k2 k3 k4 k5 hroom HNS HMy HCC hpos h64q HUN
      obtain ⟨m, hm⟩ : ∃ m, qs.length = m := ⟨_, rfl⟩
      have HQ := hide hm
      rw [hm] at k2 hroom hpos h64q
      clear hoc ho hom hmay hm HOK HOI HQ64 hoo
      have HXS : Hid ((wr.alloc (.cells #[.int .i64 kind, .int .i64 gate, .slice aq m cq, .int .i64 bit, .int .i64 cond, .int .i64 whn] 41)).heap.size = wr.heap.size + 1) := hide (by simp)
      have HXN : Hid (Ns (wr.alloc (.cells #[.int .i64 kind, .int .i64 gate, .slice aq m cq, .int .i64 bit, .int .i64 cond, .int .i64 whn] 41)) aq qs) := hide (HNS.out.below (bnew _ _))
      generalize hcv : ctK gate = cv at *
      have HCV := hide hcv
      clear hcv
      by_cases h4 : kind = 4
      . subst h4
        have HG0 : Hid (gate = 0) := hide (by rcases HMy.out with ⟨e, -⟩ | ⟨-, e⟩ <;> first | omega | exact e)
        go_wp2_with (first
          | (at_builtin; refine app_emp17 rfl _ _ rfl [] 0 rfl #[] rfl (wr.heap.size + 1) HXS.out rfl aq cq qs m HQ.out hpos rfl HXN.out (by omega) (by omega) ?_))
        intro a7 c7 w7 hR7 hb7
        try simp only [Nat.zero_add, List.nil_append] at hR7
        try simp only [Nat.zero_add]
        have h6 := (hb7.block wr.heap.size (by first | omega | (rw [HXS.out]; omega))).trans (heap_alloc_new wr (.cells #[.int .i64 4, .int .i64 gate, .slice aq m cq, .int .i64 bit, .int .i64 cond, .int .i64 whn] 41))
        obtain ⟨x0, x1, x2, x3, x4, x5, x6, x7⟩ := six_cells h6
        have hz7 := (hb7.block (w.heap.size + 1) (by first | omega | (rw [HXS.out]; omega))).trans ((Below.heap_alloc _ _ _ (by omega)).trans HZr.out)
        have ha7 := (hb7.block w.heap.size (by first | omega | (rw [HXS.out]; omega))).trans ((Below.heap_alloc _ _ _ (by omega)).trans HAr.out)
        have hd7 := (hb7.block D (by first | omega | (rw [HXS.out]; omega))).trans ((Below.heap_alloc _ _ _ (by omega)).trans HMO.out)
        obtain ⟨y0, y1, y2, y3⟩ := def_cells hd7
        obtain ⟨v0, v1, v2, v3⟩ := def_cells ha7
        have HR7 := hide hR7
        have HB7 := hide hb7
        have H67 := hide h6
        have HZ7 := hide hz7
        have HD7 := hide hd7
        clear hR7 hb7 h6 hz7 ha7 hd7
        have HEQ : Hid ((w7.setCell ⟨wr.heap.size, 2, none⟩ (.slice a7 m c7)) = w7.setRow wr.heap.size #[.int .i64 4, .int .i64 gate, .slice a7 m c7, .int .i64 bit, .int .i64 cond, .int .i64 whn]) := hide (by
          rw [setCell_eq_setRow _ _ 2 _ _ _ _ H67.out]
          rfl)
        have hX6 : ((w7.setCell ⟨wr.heap.size, 2, none⟩ (.slice a7 m c7))).heap[wr.heap.size]? = some (.cells #[.int .i64 4, .int .i64 gate, .slice a7 m c7, .int .i64 bit, .int .i64 cond, .int .i64 whn] 41 (0, 0)) := by rw [HEQ.out]; exact setRow_heap _ _ _ _ _ _ H67.out
        have hXo : ∀ b9, b9 ≠ wr.heap.size -> ((w7.setCell ⟨wr.heap.size, 2, none⟩ (.slice a7 m c7))).heap[b9]? = w7.heap[b9]? := fun b9 h9 => by rw [HEQ.out]; exact setRow_other _ _ _ _ h9
        have HXs : Hid (((w7.setCell ⟨wr.heap.size, 2, none⟩ (.slice a7 m c7))).heap.size = w7.heap.size) := hide (by simp [World.setCell])
        have HXB : Hid (∀ b9, b9 < wr.heap.size -> ((w7.setCell ⟨wr.heap.size, 2, none⟩ (.slice a7 m c7))).heap[b9]? = wr.heap[b9]?) := hide (fun b9 h9 => (hXo b9 (by omega)).trans ((fun b9 h9 => (HB7.out.block b9 (by first | omega | (rw [HXS.out]; omega))).trans (Below.heap_alloc _ _ _ h9)) b9 h9))
        have HXO : Hid (OpsE ((w7.setCell ⟨wr.heap.size, 2, none⟩ (.slice a7 m c7))) D wr.heap.size bo i j ((l.take i).map (ctO q))) := hide (by
          obtain ⟨xs, e1, e2, e3, e4, e5, e6⟩ := HOw.out.upto
          exact ⟨xs, e1, e2, own_of_block e3 (fun q9 h9 => HXB.out q9 (own_lt e3 q9 h9).2), fun x hx => (e4 x hx).block (fun b9 cs fr hb9 => HXB.out b9 (Array.getElem?_eq_some_iff.1 hb9).1), e5, e6⟩)
        have HXR : Hid (RowO ((w7.setCell ⟨wr.heap.size, 2, none⟩ (.slice a7 m c7))) wr.heap.size (.slice a7 m c7) (⟨4, gate, qs, bit, cond, whn⟩ : COp).qs) := hide ((HR7.out.base (by first | omega | (rw [HXS.out]; omega))).block (fun b9 cs fr hb9 => hXo b9 (fun e => by
          rw [e, H67.out] at hb9
          simp at hb9)))
        have HXd : Hid (((w7.setCell ⟨wr.heap.size, 2, none⟩ (.slice a7 m c7))).heap[D]? = some (.cells #[.int .i64 (q + 1), .int .i64 b, .slice bo i j] 24 (0, 0))) := hide ((HXB.out D hDr).trans HMO.out)
        obtain ⟨w0', w1', w2', w3'⟩ := def_cells HXd.out
        obtain ⟨a0', a1', a2', a3', a4', a5', a6', a7'⟩ := six_cells hX6
        have HXW : Hid (Below w2.heap.size w2 ((w7.setCell ⟨wr.heap.size, 2, none⟩ (.slice a7 m c7)))) := hide (by
          have e1 := (HBr.out.trans ((bnew wr (.cells #[.int .i64 4, .int .i64 gate, .slice aq m cq, .int .i64 bit, .int .i64 cond, .int .i64 whn] 41)).mono HBr.out.size)).trans (HB7.out.mono (by have := HBr.out.size; first | omega | (rw [HXS.out]; omega)))
          rw [HEQ.out]
          exact Below.row e1 _ _ (by omega))
        have hszw : wr.heap.size < w7.heap.size := (Array.getElem?_eq_some_iff.1 H67.out).1
        clear hX6 hXo
        go_wp2_with (at_builtin; refine list_push18 rfl _ _ rfl HXO.out (by omega) (by rw [HXs.out]; omega) (⟨4, gate, qs, bit, cond, whn⟩ : COp) (.slice a7 m c7) HXR.out w7.heap.size HXs.out (by omega) _ rfl rfl rfl ?_)
        intro g6 c6 w6 hO5 hg6 hat6
        have hO6 : OpsOwn w6 D (some ⟨g6, 0, none⟩) (i + 1) c6 ((l.take i).map (ctO q) ++ [(⟨4, gate, qs, bit, cond, whn⟩ : COp)]) := by simpa [List.map_take] using hO5
        have d6 : w6.heap[D]? = some (.cells #[.int .i64 (q + 1), .int .i64 b, .slice bo i j] 24 (0, 0)) := (hg6.block D (by rw [HXs.out]; omega) (HOw.out.ne HMO.out (by decide)).symm).trans HXd.out
        have hb6 : Below w2.heap.size w2 w6 := HXW.out.grown hg6 (by rw [HXs.out]; omega) (fun q9 h9 => by have := HOw.out.blt q9 h9; omega)
        obtain ⟨s0, s1, s2, s3⟩ := def_cells d6
        have vf : w6.frozen? ⟨D, 2, none⟩ = false := by simp [World.frozen?, d6]
        have HE : Hid (w6.setCell ⟨D, 2, none⟩ (.slice (some ⟨g6, 0, none⟩) (i + 1) c6) = w6.setRow D #[.int .i64 (q + 1), .int .i64 b, .slice (some ⟨g6, 0, none⟩) (i + 1) c6]) := hide (by
          rw [setCell_eq_setRow _ _ 2 _ _ _ _ d6]
          rfl)
        have HF : Hid (Below w2.heap.size w2 (w6.setRow D #[.int .i64 (q + 1), .int .i64 b, .slice (some ⟨g6, 0, none⟩) (i + 1) c6]) /\ D < (w6.setRow D #[.int .i64 (q + 1), .int .i64 b, .slice (some ⟨g6, 0, none⟩) (i + 1) c6]).heap.size /\ (∀ o ∈ l.take (i + 1), (unO o || ncO o) = false) /\ ∃ (bo : Option Addr) (j : Nat), (w6.setRow D #[.int .i64 (q + 1), .int .i64 b, .slice (some ⟨g6, 0, none⟩) (i + 1) c6]).heap[D]? = some (.cells #[.int .i64 (q + 1), .int .i64 b, .slice bo (i + 1) j] 24 (0, 0)) /\ OpsOwn (w6.setRow D #[.int .i64 (q + 1), .int .i64 b, .slice (some ⟨g6, 0, none⟩) (i + 1) c6]) D bo (i + 1) j ((l.take (i + 1)).map (ctO q))) := hide (by
          refine ⟨Below.row hb6 _ _ (by omega), (Array.getElem?_eq_some_iff.1 (setRow_heap w6 D _ #[.int .i64 (q + 1), .int .i64 b, .slice (some ⟨g6, 0, none⟩) (i + 1) c6] _ _ d6)).1, HGD.out (by rw [HUN.out.1, HUN.out.2.1]; simp), _, _, setRow_heap _ _ _ _ _ _ d6, ?_⟩
          rw [HTK.out, show ctO q o0 = ⟨4, gate, qs, bit, cond, whn⟩ from by rw [HUN.out.2.2, if_pos]; rw [← HCV.out, HG0.out]; exact ct_zero]
          exact hO6.row d6 (by decide) (by decide) _)
        clear hO5 hO6 hg6 hat6 d6 hb6
        go_wp2_with fail
        rw [HE.out]
        go_roundw
        case rel => exact ⟨i + 1, by go_num, by omega, HF.out⟩
        case measure => simp [Go.RowKit.intOf]; omega
      by_cases h1 : ¬ kind = 1
      . have e4 : (kind != 4) = true := by simpa using h4
        have e1 : (kind != 1) = true := by simpa using h1
        have HH := hide (And.intro h4 h1)
        clear h4 h1
        go_wp2_with (first
          | (at_builtin; refine app_emp17 rfl _ _ rfl [] 0 rfl #[] rfl (wr.heap.size + 1) HXS.out rfl aq cq qs m HQ.out hpos rfl HXN.out (by omega) (by omega) ?_))
        intro a7 c7 w7 hR7 hb7
        try simp only [Nat.zero_add, List.nil_append] at hR7
        try simp only [Nat.zero_add]
        have h6 := (hb7.block wr.heap.size (by first | omega | (rw [HXS.out]; omega))).trans (heap_alloc_new wr (.cells #[.int .i64 kind, .int .i64 gate, .slice aq m cq, .int .i64 bit, .int .i64 cond, .int .i64 whn] 41))
        obtain ⟨x0, x1, x2, x3, x4, x5, x6, x7⟩ := six_cells h6
        have hz7 := (hb7.block (w.heap.size + 1) (by first | omega | (rw [HXS.out]; omega))).trans ((Below.heap_alloc _ _ _ (by omega)).trans HZr.out)
        have ha7 := (hb7.block w.heap.size (by first | omega | (rw [HXS.out]; omega))).trans ((Below.heap_alloc _ _ _ (by omega)).trans HAr.out)
        have hd7 := (hb7.block D (by first | omega | (rw [HXS.out]; omega))).trans ((Below.heap_alloc _ _ _ (by omega)).trans HMO.out)
        obtain ⟨y0, y1, y2, y3⟩ := def_cells hd7
        obtain ⟨v0, v1, v2, v3⟩ := def_cells ha7
        have HR7 := hide hR7
        have HB7 := hide hb7
        have H67 := hide h6
        have HZ7 := hide hz7
        have HD7 := hide hd7
        clear hR7 hb7 h6 hz7 ha7 hd7
        have e0 := trivial
        go_wp2_with (first
          | (go_at_call 36; refine (HCC.out _).mono ?_; rintro e w9 ⟨rfl, hw9⟩; obtain rfl := hw9.symm)
          | refine wpList_store_row rfl _ _ _ rfl (w.heap.size + 1) _ rfl rfl _ _ HZ7.out (by exact infoCi) (by rfl) (by simp [Value.oneCell']) ?_)
        refine bodyPost_ret (results_ct rfl _ _ (w.heap.size + 1) _ _ _ _ rfl (setRow_heap _ _ _ _ _ _ HZ7.out) Tryd.underlying24 rfl (by exact infoCi)) rfl ?_
        have hre := HBad.out o0 HMem.out (by rw [HUN.out.1]; simp [HH.out.1, HH.out.2])
        simp only [nulC, Prod.mk.injEq, Circ.mk.injEq] at hre
        obtain ⟨⟨rfl, rfl, rfl⟩, rfl⟩ := hre
        obtain rfl := HRN.out
        have e1 := (HBr.out.trans ((bnew wr (.cells #[.int .i64 kind, .int .i64 gate, .slice aq m cq, .int .i64 bit, .int .i64 cond, .int .i64 whn] 41)).mono HBr.out.size)).trans (HB7.out.mono (by have := HBr.out.size; first | omega | (rw [HXS.out]; omega)))
        exact ⟨none, 0, rfl, OpsAt.nil17 _ _, Below.row (HB2.out.trans (e1.mono HB2.out.size)) _ _ (by omega)⟩
      have h1 : kind = 1 := Decidable.not_not.1 h1
      by_cases hc1 : ¬ cond = -1
      . have HH := hide (And.intro h1 hc1)
        subst h1
        have e2 : (cond != -1) = true := by simpa using hc1
        clear h4 hc1
        go_wp2_with (first
          | (at_builtin; refine app_emp17 rfl _ _ rfl [] 0 rfl #[] rfl (wr.heap.size + 1) HXS.out rfl aq cq qs m HQ.out hpos rfl HXN.out (by omega) (by omega) ?_))
        intro a7 c7 w7 hR7 hb7
        try simp only [Nat.zero_add, List.nil_append] at hR7
        try simp only [Nat.zero_add]
        have h6 := (hb7.block wr.heap.size (by first | omega | (rw [HXS.out]; omega))).trans (heap_alloc_new wr (.cells #[.int .i64 1, .int .i64 gate, .slice aq m cq, .int .i64 bit, .int .i64 cond, .int .i64 whn] 41))
        obtain ⟨x0, x1, x2, x3, x4, x5, x6, x7⟩ := six_cells h6
        have hz7 := (hb7.block (w.heap.size + 1) (by first | omega | (rw [HXS.out]; omega))).trans ((Below.heap_alloc _ _ _ (by omega)).trans HZr.out)
        have ha7 := (hb7.block w.heap.size (by first | omega | (rw [HXS.out]; omega))).trans ((Below.heap_alloc _ _ _ (by omega)).trans HAr.out)
        have hd7 := (hb7.block D (by first | omega | (rw [HXS.out]; omega))).trans ((Below.heap_alloc _ _ _ (by omega)).trans HMO.out)
        obtain ⟨y0, y1, y2, y3⟩ := def_cells hd7
        obtain ⟨v0, v1, v2, v3⟩ := def_cells ha7
        have HR7 := hide hR7
        have HB7 := hide hb7
        have H67 := hide h6
        have HZ7 := hide hz7
        have HD7 := hide hd7
        clear hR7 hb7 h6 hz7 ha7 hd7
        have e0 := trivial
        go_wp2_with (first
          | (go_at_call 36; refine (HCC.out _).mono ?_; rintro e w9 ⟨rfl, hw9⟩; obtain rfl := hw9.symm)
          | refine wpList_store_row rfl _ _ _ rfl (w.heap.size + 1) _ rfl rfl _ _ HZ7.out (by exact infoCi) (by rfl) (by simp [Value.oneCell']) ?_)
        refine bodyPost_ret (results_ct rfl _ _ (w.heap.size + 1) _ _ _ _ rfl (setRow_heap _ _ _ _ _ _ HZ7.out) Tryd.underlying24 rfl (by exact infoCi)) rfl ?_
        have hre := HBad.out o0 HMem.out (by rw [HUN.out.1]; simp [HH.out.2])
        simp only [nulC, Prod.mk.injEq, Circ.mk.injEq] at hre
        obtain ⟨⟨rfl, rfl, rfl⟩, rfl⟩ := hre
        obtain rfl := HRN.out
        have e1 := (HBr.out.trans ((bnew wr (.cells #[.int .i64 1, .int .i64 gate, .slice aq m cq, .int .i64 bit, .int .i64 cond, .int .i64 whn] 41)).mono HBr.out.size)).trans (HB7.out.mono (by have := HBr.out.size; first | omega | (rw [HXS.out]; omega)))
        exact ⟨none, 0, rfl, OpsAt.nil17 _ _, Below.row (HB2.out.trans (e1.mono HB2.out.size)) _ _ (by omega)⟩
      have hc1 : cond = -1 := Decidable.not_not.1 hc1
      by_cases hcz : cv = 0
      . have HH := hide (And.intro h1 (And.intro hc1 hcz))
        subst h1 hc1 hcz
        clear h4
        go_wp2_with (first
          | (at_builtin; refine app_emp17 rfl _ _ rfl [] 0 rfl #[] rfl (wr.heap.size + 1) HXS.out rfl aq cq qs m HQ.out hpos rfl HXN.out (by omega) (by omega) ?_))
        intro a7 c7 w7 hR7 hb7
        try simp only [Nat.zero_add, List.nil_append] at hR7
        try simp only [Nat.zero_add]
        have h6 := (hb7.block wr.heap.size (by first | omega | (rw [HXS.out]; omega))).trans (heap_alloc_new wr (.cells #[.int .i64 1, .int .i64 gate, .slice aq m cq, .int .i64 bit, .int .i64 (-1), .int .i64 whn] 41))
        obtain ⟨x0, x1, x2, x3, x4, x5, x6, x7⟩ := six_cells h6
        have hz7 := (hb7.block (w.heap.size + 1) (by first | omega | (rw [HXS.out]; omega))).trans ((Below.heap_alloc _ _ _ (by omega)).trans HZr.out)
        have ha7 := (hb7.block w.heap.size (by first | omega | (rw [HXS.out]; omega))).trans ((Below.heap_alloc _ _ _ (by omega)).trans HAr.out)
        have hd7 := (hb7.block D (by first | omega | (rw [HXS.out]; omega))).trans ((Below.heap_alloc _ _ _ (by omega)).trans HMO.out)
        obtain ⟨y0, y1, y2, y3⟩ := def_cells hd7
        obtain ⟨v0, v1, v2, v3⟩ := def_cells ha7
        have HR7 := hide hR7
        have HB7 := hide hb7
        have H67 := hide h6
        have HZ7 := hide hz7
        have HD7 := hide hd7
        clear hR7 hb7 h6 hz7 ha7 hd7
        have e0 := trivial
        go_wp2_with (first
          | (go_at_call 36; refine (HCC.out _).mono ?_; rintro e w9 ⟨rfl, hw9⟩; obtain rfl := hw9.symm)
          | refine wpList_store_row rfl _ _ _ rfl (w.heap.size + 1) _ rfl rfl _ _ HZ7.out (by exact infoCi) (by rfl) (by simp [Value.oneCell']) ?_)
        refine bodyPost_ret (results_ct rfl _ _ (w.heap.size + 1) _ _ _ _ rfl (setRow_heap _ _ _ _ _ _ HZ7.out) Tryd.underlying24 rfl (by exact infoCi)) rfl ?_
        have hre := HBad.out o0 HMem.out (by rw [HUN.out.2.1]; simp)
        simp only [nulC, Prod.mk.injEq, Circ.mk.injEq] at hre
        obtain ⟨⟨rfl, rfl, rfl⟩, rfl⟩ := hre
        obtain rfl := HRN.out
        have e1 := (HBr.out.trans ((bnew wr (.cells #[.int .i64 1, .int .i64 gate, .slice aq m cq, .int .i64 bit, .int .i64 (-1), .int .i64 whn] 41)).mono HBr.out.size)).trans (HB7.out.mono (by have := HBr.out.size; first | omega | (rw [HXS.out]; omega)))
        exact ⟨none, 0, rfl, OpsAt.nil17 _ _, Below.row (HB2.out.trans (e1.mono HB2.out.size)) _ _ (by omega)⟩
      subst h1 hc1
      have e5 : (cv == 0) = false := by simpa using hcz
      have HCZ := hide hcz
      clear h4 hcz
      by_cases hcv1 : cv = 1
      . have HG1 : Hid (gate = 1) := hide (by
          rcases HMy.out with ⟨-, e1, e2, -⟩ | ⟨e, -⟩
          . have := ct_one ⟨gate.toNat, by omega⟩ (by show ctK ((gate.toNat : Nat) : Int) = 1; rw [Int.toNat_of_nonneg (by omega), HCV.out, hcv1])
            simp only at this
            omega
          . exact absurd rfl e)
        subst hcv1
        go_wp2_with (first
          | (at_builtin; refine app_emp17 rfl _ _ rfl [] 0 rfl #[] rfl (wr.heap.size + 1) HXS.out rfl aq cq qs m HQ.out hpos rfl HXN.out (by omega) (by omega) ?_))
        intro a7 c7 w7 hR7 hb7
        try simp only [Nat.zero_add, List.nil_append] at hR7
        try simp only [Nat.zero_add]
        have h6 := (hb7.block wr.heap.size (by first | omega | (rw [HXS.out]; omega))).trans (heap_alloc_new wr (.cells #[.int .i64 1, .int .i64 gate, .slice aq m cq, .int .i64 bit, .int .i64 (-1), .int .i64 whn] 41))
        obtain ⟨x0, x1, x2, x3, x4, x5, x6, x7⟩ := six_cells h6
        have hz7 := (hb7.block (w.heap.size + 1) (by first | omega | (rw [HXS.out]; omega))).trans ((Below.heap_alloc _ _ _ (by omega)).trans HZr.out)
        have ha7 := (hb7.block w.heap.size (by first | omega | (rw [HXS.out]; omega))).trans ((Below.heap_alloc _ _ _ (by omega)).trans HAr.out)
        have hd7 := (hb7.block D (by first | omega | (rw [HXS.out]; omega))).trans ((Below.heap_alloc _ _ _ (by omega)).trans HMO.out)
        obtain ⟨y0, y1, y2, y3⟩ := def_cells hd7
        obtain ⟨v0, v1, v2, v3⟩ := def_cells ha7
        have HR7 := hide hR7
        have HB7 := hide hb7
        have H67 := hide h6
        have HZ7 := hide hz7
        have HD7 := hide hd7
        clear hR7 hb7 h6 hz7 ha7 hd7
        have HEQ : Hid (((w7.setCell ⟨wr.heap.size, 1, none⟩ (.int .i64 1)).setCell ⟨wr.heap.size, 2, none⟩ (.slice a7 m c7)) = w7.setRow wr.heap.size #[.int .i64 1, .int .i64 1, .slice a7 m c7, .int .i64 bit, .int .i64 (-1), .int .i64 whn]) := hide (by
          rw [setCell_eq_setRow _ _ 1 _ _ _ _ H67.out, setCell_eq_setRow _ _ 2 _ _ _ _ (setRow_heap _ _ _ _ _ _ H67.out), setRow_setRow]
          rfl)
        have hX6 : (((w7.setCell ⟨wr.heap.size, 1, none⟩ (.int .i64 1)).setCell ⟨wr.heap.size, 2, none⟩ (.slice a7 m c7))).heap[wr.heap.size]? = some (.cells #[.int .i64 1, .int .i64 1, .slice a7 m c7, .int .i64 bit, .int .i64 (-1), .int .i64 whn] 41 (0, 0)) := by rw [HEQ.out]; exact setRow_heap _ _ _ _ _ _ H67.out
        have hXo : ∀ b9, b9 ≠ wr.heap.size -> (((w7.setCell ⟨wr.heap.size, 1, none⟩ (.int .i64 1)).setCell ⟨wr.heap.size, 2, none⟩ (.slice a7 m c7))).heap[b9]? = w7.heap[b9]? := fun b9 h9 => by rw [HEQ.out]; exact setRow_other _ _ _ _ h9
        have HXs : Hid ((((w7.setCell ⟨wr.heap.size, 1, none⟩ (.int .i64 1)).setCell ⟨wr.heap.size, 2, none⟩ (.slice a7 m c7))).heap.size = w7.heap.size) := hide (by simp [World.setCell])
        have HXB : Hid (∀ b9, b9 < wr.heap.size -> (((w7.setCell ⟨wr.heap.size, 1, none⟩ (.int .i64 1)).setCell ⟨wr.heap.size, 2, none⟩ (.slice a7 m c7))).heap[b9]? = wr.heap[b9]?) := hide (fun b9 h9 => (hXo b9 (by omega)).trans ((fun b9 h9 => (HB7.out.block b9 (by first | omega | (rw [HXS.out]; omega))).trans (Below.heap_alloc _ _ _ h9)) b9 h9))
        have HXO : Hid (OpsE (((w7.setCell ⟨wr.heap.size, 1, none⟩ (.int .i64 1)).setCell ⟨wr.heap.size, 2, none⟩ (.slice a7 m c7))) D wr.heap.size bo i j ((l.take i).map (ctO q))) := hide (by
          obtain ⟨xs, e1, e2, e3, e4, e5, e6⟩ := HOw.out.upto
          exact ⟨xs, e1, e2, own_of_block e3 (fun q9 h9 => HXB.out q9 (own_lt e3 q9 h9).2), fun x hx => (e4 x hx).block (fun b9 cs fr hb9 => HXB.out b9 (Array.getElem?_eq_some_iff.1 hb9).1), e5, e6⟩)
        have HXR : Hid (RowO (((w7.setCell ⟨wr.heap.size, 1, none⟩ (.int .i64 1)).setCell ⟨wr.heap.size, 2, none⟩ (.slice a7 m c7))) wr.heap.size (.slice a7 m c7) (⟨1, 1, qs, bit, -1, whn⟩ : COp).qs) := hide ((HR7.out.base (by first | omega | (rw [HXS.out]; omega))).block (fun b9 cs fr hb9 => hXo b9 (fun e => by
          rw [e, H67.out] at hb9
          simp at hb9)))
        have HXd : Hid ((((w7.setCell ⟨wr.heap.size, 1, none⟩ (.int .i64 1)).setCell ⟨wr.heap.size, 2, none⟩ (.slice a7 m c7))).heap[D]? = some (.cells #[.int .i64 (q + 1), .int .i64 b, .slice bo i j] 24 (0, 0))) := hide ((HXB.out D hDr).trans HMO.out)
        obtain ⟨w0', w1', w2', w3'⟩ := def_cells HXd.out
        obtain ⟨a0', a1', a2', a3', a4', a5', a6', a7'⟩ := six_cells hX6
        have HXW : Hid (Below w2.heap.size w2 (((w7.setCell ⟨wr.heap.size, 1, none⟩ (.int .i64 1)).setCell ⟨wr.heap.size, 2, none⟩ (.slice a7 m c7)))) := hide (by
          have e1 := (HBr.out.trans ((bnew wr (.cells #[.int .i64 1, .int .i64 gate, .slice aq m cq, .int .i64 bit, .int .i64 (-1), .int .i64 whn] 41)).mono HBr.out.size)).trans (HB7.out.mono (by have := HBr.out.size; first | omega | (rw [HXS.out]; omega)))
          rw [HEQ.out]
          exact Below.row e1 _ _ (by omega))
        have hszw : wr.heap.size < w7.heap.size := (Array.getElem?_eq_some_iff.1 H67.out).1
        clear hX6 hXo
        go_wp2_with (first | (go_at_call 36; refine (HCC.out _).mono ?_; rintro e w9 ⟨rfl, hw9⟩; obtain rfl := hw9.symm) | (at_builtin; refine list_push18 rfl _ _ rfl HXO.out (by omega) (by rw [HXs.out]; omega) (⟨1, 1, qs, bit, -1, whn⟩ : COp) (.slice a7 m c7) HXR.out w7.heap.size HXs.out (by omega) _ rfl rfl rfl ?_))
        intro g6 c6 w6 hO5 hg6 hat6
        have hO6 : OpsOwn w6 D (some ⟨g6, 0, none⟩) (i + 1) c6 ((l.take i).map (ctO q) ++ [(⟨1, 1, qs, bit, -1, whn⟩ : COp)]) := by simpa [List.map_take] using hO5
        have d6 : w6.heap[D]? = some (.cells #[.int .i64 (q + 1), .int .i64 b, .slice bo i j] 24 (0, 0)) := (hg6.block D (by rw [HXs.out]; omega) (HOw.out.ne HMO.out (by decide)).symm).trans HXd.out
        have hb6 : Below w2.heap.size w2 w6 := HXW.out.grown hg6 (by rw [HXs.out]; omega) (fun q9 h9 => by have := HOw.out.blt q9 h9; omega)
        obtain ⟨s0, s1, s2, s3⟩ := def_cells d6
        have vf : w6.frozen? ⟨D, 2, none⟩ = false := by simp [World.frozen?, d6]
        have HE : Hid (w6.setCell ⟨D, 2, none⟩ (.slice (some ⟨g6, 0, none⟩) (i + 1) c6) = w6.setRow D #[.int .i64 (q + 1), .int .i64 b, .slice (some ⟨g6, 0, none⟩) (i + 1) c6]) := hide (by
          rw [setCell_eq_setRow _ _ 2 _ _ _ _ d6]
          rfl)
        have HF : Hid (Below w2.heap.size w2 (w6.setRow D #[.int .i64 (q + 1), .int .i64 b, .slice (some ⟨g6, 0, none⟩) (i + 1) c6]) /\ D < (w6.setRow D #[.int .i64 (q + 1), .int .i64 b, .slice (some ⟨g6, 0, none⟩) (i + 1) c6]).heap.size /\ (∀ o ∈ l.take (i + 1), (unO o || ncO o) = false) /\ ∃ (bo : Option Addr) (j : Nat), (w6.setRow D #[.int .i64 (q + 1), .int .i64 b, .slice (some ⟨g6, 0, none⟩) (i + 1) c6]).heap[D]? = some (.cells #[.int .i64 (q + 1), .int .i64 b, .slice bo (i + 1) j] 24 (0, 0)) /\ OpsOwn (w6.setRow D #[.int .i64 (q + 1), .int .i64 b, .slice (some ⟨g6, 0, none⟩) (i + 1) c6]) D bo (i + 1) j ((l.take (i + 1)).map (ctO q))) := hide (by
          refine ⟨Below.row hb6 _ _ (by omega), (Array.getElem?_eq_some_iff.1 (setRow_heap w6 D _ #[.int .i64 (q + 1), .int .i64 b, .slice (some ⟨g6, 0, none⟩) (i + 1) c6] _ _ d6)).1, HGD.out (by rw [HUN.out.1, HUN.out.2.1]; simp), _, _, setRow_heap _ _ _ _ _ _ d6, ?_⟩
          rw [HTK.out, show ctO q o0 = ⟨1, 1, qs, bit, -1, whn⟩ from by rw [HUN.out.2.2, if_pos HG1.out.symm, HG1.out]]
          exact hO6.row d6 (by decide) (by decide) _)
        clear hO5 hO6 hg6 hat6 d6 hb6
        go_wp2_with fail
        rw [HE.out]
        go_roundw
        case rel => exact ⟨i + 1, by go_num, by omega, HF.out⟩
        case measure => simp [Go.RowKit.intOf]; omega
      . have e6 : (cv != 1) = true := by simpa using hcv1
        have HNE : Hid (¬ cv = gate) := hide (fun e => by
          rcases HMy.out with ⟨-, e1, e2, -⟩ | ⟨e9, -⟩
          . have := ct_self ⟨gate.toNat, by omega⟩ (by show ctK ((gate.toNat : Nat) : Int) = ((gate.toNat : Nat) : Int); rw [Int.toNat_of_nonneg (by omega), HCV.out, e])
            simp only at this
            omega
          . exact absurd rfl e9)
        clear hcv1
        go_wp2_with (first
          | (at_builtin; refine app_emp17 rfl _ _ rfl [] 0 rfl #[] rfl (wr.heap.size + 1) HXS.out rfl aq cq qs m HQ.out hpos rfl HXN.out (by omega) (by omega) ?_))
        intro a7 c7 w7 hR7 hb7
        try simp only [Nat.zero_add, List.nil_append] at hR7
        try simp only [Nat.zero_add]
        have h6 := (hb7.block wr.heap.size (by first | omega | (rw [HXS.out]; omega))).trans (heap_alloc_new wr (.cells #[.int .i64 1, .int .i64 gate, .slice aq m cq, .int .i64 bit, .int .i64 (-1), .int .i64 whn] 41))
        obtain ⟨x0, x1, x2, x3, x4, x5, x6, x7⟩ := six_cells h6
        have hz7 := (hb7.block (w.heap.size + 1) (by first | omega | (rw [HXS.out]; omega))).trans ((Below.heap_alloc _ _ _ (by omega)).trans HZr.out)
        have ha7 := (hb7.block w.heap.size (by first | omega | (rw [HXS.out]; omega))).trans ((Below.heap_alloc _ _ _ (by omega)).trans HAr.out)
        have hd7 := (hb7.block D (by first | omega | (rw [HXS.out]; omega))).trans ((Below.heap_alloc _ _ _ (by omega)).trans HMO.out)
        obtain ⟨y0, y1, y2, y3⟩ := def_cells hd7
        obtain ⟨v0, v1, v2, v3⟩ := def_cells ha7
        have HR7 := hide hR7
        have HB7 := hide hb7
        have H67 := hide h6
        have HZ7 := hide hz7
        have HD7 := hide hd7
        clear hR7 hb7 h6 hz7 ha7 hd7
        have HN7 : Hid (Ns w7 aq qs) := hide (HXN.out.below (by rw [HXS.out]; exact HB7.out))
        have HS7 : Hid (wr.heap.size + 1 <= w7.heap.size) := hide (by have := HB7.out.size; rw [HXS.out] at this; exact this)
        go_wp2_with (first
          | (go_at_call 36; refine (HCC.out _).mono ?_; rintro e w9 ⟨rfl, hw9⟩; obtain rfl := hw9.symm)
          | (at_builtin; refine app_emp17 rfl _ _ rfl [q] 1 rfl #[.int .i64 q] rfl w7.heap.size rfl rfl aq cq qs m HQ.out hpos rfl HN7.out (by omega) (by omega) ?_))
        intro a8 c8 w8 hR8 hb8
        have h68 := (hb8.block wr.heap.size (by have := HS7.out; omega)).trans H67.out
        obtain ⟨x0', x1', x2', x3', x4', x5', x6', x7'⟩ := six_cells h68
        have hd8 := (hb8.block D (by have := HS7.out; omega)).trans HD7.out
        obtain ⟨y0', y1', y2', y3'⟩ := def_cells hd8
        have HR8 := hide hR8
        have HB8 := hide hb8
        have H68 := hide h68
        clear hR8 hb8 h68 hd8 x0 x1 x2 x3 x4 x5 x6 x7 y0 y1 y2 y3 v0 v1 v2 v3
        have hCol : 1 + m = 1 + m := rfl
        have HEQ : Hid (((w8.setCell ⟨wr.heap.size, 1, none⟩ (.int .i64 cv)).setCell ⟨wr.heap.size, 2, none⟩ (.slice a8 (1 + m) c8)) = w8.setRow wr.heap.size #[.int .i64 1, .int .i64 cv, .slice a8 (1 + m) c8, .int .i64 bit, .int .i64 (-1), .int .i64 whn]) := hide (by
          rw [setCell_eq_setRow _ _ 1 _ _ _ _ H68.out, setCell_eq_setRow _ _ 2 _ _ _ _ (setRow_heap _ _ _ _ _ _ H68.out), setRow_setRow]
          rfl)
        have hX6 : (((w8.setCell ⟨wr.heap.size, 1, none⟩ (.int .i64 cv)).setCell ⟨wr.heap.size, 2, none⟩ (.slice a8 (1 + m) c8))).heap[wr.heap.size]? = some (.cells #[.int .i64 1, .int .i64 cv, .slice a8 (1 + m) c8, .int .i64 bit, .int .i64 (-1), .int .i64 whn] 41 (0, 0)) := by rw [HEQ.out]; exact setRow_heap _ _ _ _ _ _ H68.out
        have hXo : ∀ b9, b9 ≠ wr.heap.size -> (((w8.setCell ⟨wr.heap.size, 1, none⟩ (.int .i64 cv)).setCell ⟨wr.heap.size, 2, none⟩ (.slice a8 (1 + m) c8))).heap[b9]? = w8.heap[b9]? := fun b9 h9 => by rw [HEQ.out]; exact setRow_other _ _ _ _ h9
        have HXs : Hid ((((w8.setCell ⟨wr.heap.size, 1, none⟩ (.int .i64 cv)).setCell ⟨wr.heap.size, 2, none⟩ (.slice a8 (1 + m) c8))).heap.size = w8.heap.size) := hide (by simp [World.setCell])
        have HXB : Hid (∀ b9, b9 < wr.heap.size -> (((w8.setCell ⟨wr.heap.size, 1, none⟩ (.int .i64 cv)).setCell ⟨wr.heap.size, 2, none⟩ (.slice a8 (1 + m) c8))).heap[b9]? = wr.heap[b9]?) := hide (fun b9 h9 => (hXo b9 (by omega)).trans ((fun b9 h9 => (HB8.out.block b9 (by have := HS7.out; omega)).trans ((HB7.out.block b9 (by first | omega | (rw [HXS.out]; omega))).trans (Below.heap_alloc _ _ _ h9))) b9 h9))
        have HXO : Hid (OpsE (((w8.setCell ⟨wr.heap.size, 1, none⟩ (.int .i64 cv)).setCell ⟨wr.heap.size, 2, none⟩ (.slice a8 (1 + m) c8))) D wr.heap.size bo i j ((l.take i).map (ctO q))) := hide (by
          obtain ⟨xs, e1, e2, e3, e4, e5, e6⟩ := HOw.out.upto
          exact ⟨xs, e1, e2, own_of_block e3 (fun q9 h9 => HXB.out q9 (own_lt e3 q9 h9).2), fun x hx => (e4 x hx).block (fun b9 cs fr hb9 => HXB.out b9 (Array.getElem?_eq_some_iff.1 hb9).1), e5, e6⟩)
        have HXR : Hid (RowO (((w8.setCell ⟨wr.heap.size, 1, none⟩ (.int .i64 cv)).setCell ⟨wr.heap.size, 2, none⟩ (.slice a8 (1 + m) c8))) wr.heap.size (.slice a8 (1 + m) c8) (⟨1, cv, q :: qs, bit, -1, whn⟩ : COp).qs) := hide ((HR8.out.base (by have := HS7.out; omega)).block (fun b9 cs fr hb9 => hXo b9 (fun e => by
          rw [e, H68.out] at hb9
          simp at hb9)))
        have HXd : Hid ((((w8.setCell ⟨wr.heap.size, 1, none⟩ (.int .i64 cv)).setCell ⟨wr.heap.size, 2, none⟩ (.slice a8 (1 + m) c8))).heap[D]? = some (.cells #[.int .i64 (q + 1), .int .i64 b, .slice bo i j] 24 (0, 0))) := hide ((HXB.out D hDr).trans HMO.out)
        obtain ⟨w0', w1', w2', w3'⟩ := def_cells HXd.out
        obtain ⟨a0', a1', a2', a3', a4', a5', a6', a7'⟩ := six_cells hX6
        have HXW : Hid (Below w2.heap.size w2 (((w8.setCell ⟨wr.heap.size, 1, none⟩ (.int .i64 cv)).setCell ⟨wr.heap.size, 2, none⟩ (.slice a8 (1 + m) c8)))) := hide (by
          have e1 := ((HBr.out.trans ((bnew wr (.cells #[.int .i64 1, .int .i64 gate, .slice aq m cq, .int .i64 bit, .int .i64 (-1), .int .i64 whn] 41)).mono HBr.out.size)).trans (HB7.out.mono (by have := HBr.out.size; first | omega | (rw [HXS.out]; omega)))).trans (HB8.out.mono (by have := HBr.out.size; have := HS7.out; omega))
          rw [HEQ.out]
          exact Below.row e1 _ _ (by omega))
        have hszw : wr.heap.size < w8.heap.size := (Array.getElem?_eq_some_iff.1 H68.out).1
        clear hX6 hXo
        go_wp2_with (at_builtin; refine list_push18 rfl _ _ rfl HXO.out (by omega) (by rw [HXs.out]; omega) (⟨1, cv, q :: qs, bit, -1, whn⟩ : COp) (.slice a8 (1 + m) c8) HXR.out w8.heap.size HXs.out (by omega) _ rfl rfl rfl ?_)
        intro g6 c6 w6 hO5 hg6 hat6
        have hO6 : OpsOwn w6 D (some ⟨g6, 0, none⟩) (i + 1) c6 ((l.take i).map (ctO q) ++ [(⟨1, cv, q :: qs, bit, -1, whn⟩ : COp)]) := by simpa [List.map_take] using hO5
        have d6 : w6.heap[D]? = some (.cells #[.int .i64 (q + 1), .int .i64 b, .slice bo i j] 24 (0, 0)) := (hg6.block D (by rw [HXs.out]; omega) (HOw.out.ne HMO.out (by decide)).symm).trans HXd.out
        have hb6 : Below w2.heap.size w2 w6 := HXW.out.grown hg6 (by rw [HXs.out]; omega) (fun q9 h9 => by have := HOw.out.blt q9 h9; omega)
        obtain ⟨s0, s1, s2, s3⟩ := def_cells d6
        have vf : w6.frozen? ⟨D, 2, none⟩ = false := by simp [World.frozen?, d6]
        have HE : Hid (w6.setCell ⟨D, 2, none⟩ (.slice (some ⟨g6, 0, none⟩) (i + 1) c6) = w6.setRow D #[.int .i64 (q + 1), .int .i64 b, .slice (some ⟨g6, 0, none⟩) (i + 1) c6]) := hide (by
          rw [setCell_eq_setRow _ _ 2 _ _ _ _ d6]
          rfl)
        have HF : Hid (Below w2.heap.size w2 (w6.setRow D #[.int .i64 (q + 1), .int .i64 b, .slice (some ⟨g6, 0, none⟩) (i + 1) c6]) /\ D < (w6.setRow D #[.int .i64 (q + 1), .int .i64 b, .slice (some ⟨g6, 0, none⟩) (i + 1) c6]).heap.size /\ (∀ o ∈ l.take (i + 1), (unO o || ncO o) = false) /\ ∃ (bo : Option Addr) (j : Nat), (w6.setRow D #[.int .i64 (q + 1), .int .i64 b, .slice (some ⟨g6, 0, none⟩) (i + 1) c6]).heap[D]? = some (.cells #[.int .i64 (q + 1), .int .i64 b, .slice bo (i + 1) j] 24 (0, 0)) /\ OpsOwn (w6.setRow D #[.int .i64 (q + 1), .int .i64 b, .slice (some ⟨g6, 0, none⟩) (i + 1) c6]) D bo (i + 1) j ((l.take (i + 1)).map (ctO q))) := hide (by
          refine ⟨Below.row hb6 _ _ (by omega), (Array.getElem?_eq_some_iff.1 (setRow_heap w6 D _ #[.int .i64 (q + 1), .int .i64 b, .slice (some ⟨g6, 0, none⟩) (i + 1) c6] _ _ d6)).1, HGD.out (by rw [HUN.out.1, HUN.out.2.1]; simp [HCZ.out]), _, _, setRow_heap _ _ _ _ _ _ d6, ?_⟩
          rw [HTK.out, show ctO q o0 = ⟨1, cv, q :: qs, bit, -1, whn⟩ from by rw [HUN.out.2.2, if_neg HNE.out]]
          exact hO6.row d6 (by decide) (by decide) _)
        clear hO5 hO6 hg6 hat6 d6 hb6
        go_wp2_with fail
        rw [HE.out]
        go_roundw
        case rel => exact ⟨i + 1, by go_num, by omega, HF.out⟩
        case measure => simp [Go.RowKit.intOf]; omega
    . obtain rfl : n = i := by omega
      have hd : decide ((n : Int) < (n : Int)) = false := decide_eq_false (by omega)
      obtain ⟨s0, s1, s2, s3⟩ := def_cells HMO.out
      go_wp2_with (refine wpList_store_row rfl _ _ _ rfl (w.heap.size + 1) _ rfl rfl _ _ HZr.out (by exact infoCi) (by rfl) (by simp [Value.oneCell']) ?_)
      refine bodyPost_ret (results_ct rfl _ _ (w.heap.size + 1) _ _ _ _ rfl (setRow_heap _ _ _ _ _ _ HZr.out) Tryd.underlying24 rfl (by exact infoCi)) rfl ?_
      have htk : l.take n = l := List.take_of_length_le (by rw [HL.out]; exact Nat.le_refl _)
      have hgd := HGD0.out
      have hO := HOw.out
      rw [htk] at hgd hO
      have hre := HGood.out hgd
      simp only [Prod.mk.injEq, Circ.mk.injEq] at hre
      obtain ⟨⟨rfl, rfl, rfl⟩, rfl⟩ := hre
      obtain rfl := HRN.out
      simp only [List.length_map, HL.out]
      exact ⟨bo, j, rfl, ((hO.base (by omega)).row HZr.out (by decide) (by decide) _).at, Below.row (HB2.out.trans (HBr.out.mono HB2.out.size)) _ _ (by omega)⟩
end Go.Proofs.YtmkalhaegbnknaaDoor.Cir
