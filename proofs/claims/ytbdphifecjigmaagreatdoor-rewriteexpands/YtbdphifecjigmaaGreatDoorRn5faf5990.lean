import Derived.Test.YtbdphifecjigmaaGreatDoorRnbaa04988
namespace Go.Proofs.YtbdphifecjigmaaGreatDoor.Cir
end Go.Proofs.YtbdphifecjigmaaGreatDoor.Cir
namespace Go.Proofs.YtbdphifecjigmaaGreatDoor.Gt
end Go.Proofs.YtbdphifecjigmaaGreatDoor.Gt
namespace Go.Proofs.YtbdphifecjigmaaGreatDoor.Oct
end Go.Proofs.YtbdphifecjigmaaGreatDoor.Oct
namespace Go.Proofs.YtbdphifecjigmaaGreatDoor.Tok
end Go.Proofs.YtbdphifecjigmaaGreatDoor.Tok
set_option maxRecDepth 100000
set_option maxHeartbeats 8000000
namespace Go.Proofs.YtbdphifecjigmaaGreatDoor.Rwt
open Go.RowKit Go.Shelf Go.Proofs.YtbdphifecjigmaaGreatDoor.Oct Go.Proofs.YtbdphifecjigmaaGreatDoor.Tok Go.Proofs.YtbdphifecjigmaaGreatDoor.Gt Go.Proofs.YtbdphifecjigmaaGreatDoor.Cir
structure PB (w V : World) (q b : Int) (ao : Option Addr) (n k : Nat) : Prop where
  bel : Below w.heap.size w V
  c : V.heap[w.heap.size]? = some (.cells #[.int .i64 q, .int .i64 b, .slice ao n k] 24 (0, 0))
  z : V.heap[w.heap.size + 1]? = some (.cells #[.int .i64 0, .int .i64 0, .slice none 0 0] 24 (0, 0))
theorem PB.below {w V V' : World} {q b : Int} {ao : Option Addr} {n k : Nat} (h : PB w V q b ao n k) (hb : Below V.heap.size V V') : PB w V' q b ao n k :=
  ⟨h.bel.trans (hb.mono h.bel.size), (hb.block _ (Array.getElem?_eq_some_iff.1 h.c).1).trans h.c, (hb.block _ (Array.getElem?_eq_some_iff.1 h.z).1).trans h.z⟩
theorem own_ne18 {w : World} {B n c : Nat} {bo : Option Addr} {l : List COp} (h : OpsOwn w B bo n c l) {x : Nat} {cs : Array Value} {t : TypeId} {fr : Nat × Nat} (hx : w.heap[x]? = some (.cells cs t fr)) (ht : t ≠ 40) : ob bo ≠ some x := by
  obtain ⟨xs, h1, h2, h3, h4, h5⟩ := h
  exact own_ne h3 hx ht
theorem own_blt18 {w : World} {B n c : Nat} {bo : Option Addr} {l : List COp} (h : OpsOwn w B bo n c l) : ∀ k, ob bo = some k -> B <= k := by
  obtain ⟨xs, h1, h2, h3, h4, h5⟩ := h
  exact fun k hk => (own_lt h3 k hk).1
theorem PB.grown {w V V' : World} {q b : Int} {ao bo : Option Addr} {n k m j : Nat} {l : List COp} (h : PB w V q b ao n k) (hO : OpsOwn V w.heap.size bo m j l) (hg : V.grownBy V' (ob bo)) : PB w V' q b ao n k :=
  ⟨h.bel.grown hg h.bel.size (own_blt18 hO), (hg.block _ (Array.getElem?_eq_some_iff.1 h.c).1 (own_ne18 hO h.c (by decide)).symm).trans h.c, (hg.block _ (Array.getElem?_eq_some_iff.1 h.z).1 (own_ne18 hO h.z (by decide)).symm).trans h.z⟩
theorem PB.put {w V : World} {q b : Int} {ao : Option Addr} {n k D : Nat} (h : PB w V q b ao n k) (hD : w.heap.size + 1 < D) (cs : Array Value) : PB w (V.setRow D cs) q b ao n k :=
  ⟨Below.row h.bel _ _ (by omega), (setRow_other _ _ _ _ (by omega)).trans h.c, (setRow_other _ _ _ _ (by omega)).trans h.z⟩
theorem c2_set18 (w : World) (g : Nat) (a b c c' : Value) (t : TypeId) (h : w.heap[g]? = some (.cells #[a, b, c] t (0, 0))) : w.setCell ⟨g, 2, none⟩ c' = w.setRow g #[a, b, c'] := by
  rw [setCell_eq_setRow w g 2 _ t _ _ h]
  rfl
theorem fldC18 (q b : Int) (bo : Option Addr) (n j : Nat) (w : World) : (Instr.field 24 (.agg #[.int .i64 q, .int .i64 b, .slice bo n j]) 2).run Tryz.prog w = .ok (.slice bo n j) w := by kernel_rfl
theorem fz_c18 {w : World} {g : Nat} {cs : Array Value} {t : TypeId} (h : w.heap[g]? = some (.cells cs t (0, 0))) (i : Nat) : w.frozen? ⟨g, i, none⟩ = false := by simp [World.frozen?, h]
theorem step_app18 {ops : Array Oper} {o : Oper} {a : Act} {K : Act -> World -> Prop} {Q : Exit -> Act -> World -> Prop} {X : Prop} {w : World} (hgd : o.guard = none) (s x : Operand)
    (ho : o.op = .call { callee := .builtin .append, args := #[s, x], argTypes := #[22, 22] }) {B E : Nat} {ao1 ao2 : Option Addr} {n1 c1 n2 c2 : Nat} {l1 l2 : List COp} (hs : a.eval s = .slice ao1 n1 c1) (hx : a.eval x = .slice ao2 n2 c2)
    (h1 : OpsE w B E ao1 n1 c1 l1) (h2 : OpsOwn w E ao2 n2 c2 l2) (hB : B <= E) (hE : E <= w.heap.size) (hlen : n1 + n2 <= 2199023255552)
    (h : ∀ ao cap w', OpsOwn w' B ao (n1 + n2) cap (l1 ++ l2) -> w.grownBy w' (ob ao1) -> K (a.put o.dst (.slice ao (n1 + n2) cap)) w') :
    if Region.wanted o (yielded ops a.tmps) = true then Oper.wp Tryz.prog o a w K Q else X := by
  have hw : Region.wanted o (yielded ops a.tmps) = true := by simp [Region.wanted, hgd]
  rw [if_pos hw]
  obtain ⟨ao, cap, w', hr, h3, h4⟩ := run_append_opsE h1 h2 hB hE hlen o.type
  unfold Oper.wp execOp
  simp only [ho, resolve, invoke, builtin, Sem.run_bind, Sem.run_pure, Result.andThen_ok, List.map_toArray, List.map_cons, List.map_nil, hs, hx, hr]
  exact h ao cap w' h3 h4
theorem own_some18 {w : World} {B n c : Nat} {ao : Option Addr} {l : List COp} (h : OpsOwn w B ao n c l) (h0 : 0 < n) : ∃ g, ao = some ⟨g, 0, none⟩ /\ B <= g /\ g < w.heap.size := by
  obtain ⟨xs, h1, h2, h3, h4, h5⟩ := h
  obtain ⟨g, e, -⟩ := own_some h3 h0
  subst e
  exact ⟨g, rfl, own_lt h3 g rfl⟩
theorem cnd_at18 (o : COp) {l : List COp} {i : Nat} {x : COp} (h : l[i]? = some x) : (cnd o l i)[i]? = some x := by
  obtain ⟨h1, rfl⟩ := List.getElem?_eq_some_iff.1 h
  exact cnd_at o l i h1
theorem cnd_succ18 (o : COp) {l : List COp} {i : Nat} {x : COp} (h : l[i]? = some x) : (cnd o l i).set i { x with cond := o.cond, whn := o.whn } = cnd o l (i + 1) := by
  obtain ⟨h1, rfl⟩ := List.getElem?_eq_some_iff.1 h
  exact cnd_succ o l i h1
theorem xpt_len (ops : List COp) (i : Nat) (hn : ops.length <= 4096) : ((ops.take i).flatMap xpO).length <= 40000 := by
  have h1 := xp_len (ops.take i)
  have h2 : (ops.take i).length <= ops.length := by rw [List.length_take]; omega
  omega
theorem dExpandC_no (c : Circ) (ao : Option Addr) (k : Nat) (hk : (chkC c).2 ≠ 0) (w : World) (hC : Ci w c ao k) : Calls Tryz.prog 6 #[cV c ao k] w fun e w' => e = .returned (.tuple #[.agg #[.int .i64 0, .int .i64 0, .slice none 0 0], .int .i64 80]) /\ Below w.heap.size w w' := by
  have c1 := fun V (h : Below w.heap.size w V) => eMay c ao k V (hC.below h)
  rw [show ((chkC c).2 == 0) = false from beq_eq_false_iff_ne.2 hk] at c1
  obtain ⟨q, b, ops⟩ := c
  unfold cV at *
  simp only at *
  generalize ops.length = n at *
  clear hk hC
  have HB0 : Hid (Below w.heap.size w ((w.alloc (.cells #[.int .i64 q, .int .i64 b, .slice ao n k] 24)).alloc (.cells #[.int .i64 0, .int .i64 0, .slice none 0 0] 24))) := hide (((Below.refl _ _).alloc (Nat.le_refl _) _).alloc (by simp) _)
  have HK : Hid (∀ V, Below ((w.alloc (.cells #[.int .i64 q, .int .i64 b, .slice ao n k] 24)).alloc (.cells #[.int .i64 0, .int .i64 0, .slice none 0 0] 24)).heap.size ((w.alloc (.cells #[.int .i64 q, .int .i64 b, .slice ao n k] 24)).alloc (.cells #[.int .i64 0, .int .i64 0, .slice none 0 0] 24)) V -> V.heap[w.heap.size + 1]? = some (.cells #[.int .i64 0, .int .i64 0, .slice none 0 0] 24 (0, 0))) := hide (fun V hV => (may_keep hV).2)
  go_enter Tryz.func6, Tryz.ntmps6
  go_wp2_with fail
  refine (c1 _ HB0.out).mono ?_
  rintro e w1 ⟨rfl, hb1⟩
  have m1 := HK.out w1 hb1
  obtain ⟨x0, x1, x2, x3⟩ := def_cells m1
  have xf : ∀ i, w1.frozen? ⟨w.heap.size + 1, i, none⟩ = false := fun i => fz_c18 m1 i
  have HM := hide m1
  have HW := hide (bkp HB0.out hb1)
  clear m1 hb1 c1
  go_wp2_with fail
  rw [c3_set18 _ _ _ _ _ _ _ _ _ HM.out]
  refine bodyPost_ret (results_ct rfl _ _ (w.heap.size + 1) _ _ _ _ rfl (setRow_heap _ _ _ _ _ _ HM.out) Tryz.underlying24 rfl (by exact infoCi18)) rfl ?_
  exact ⟨rfl, Below.row HW.out _ _ (by omega)⟩
theorem dExpandC_ok (c : Circ) (ao : Option Addr) (k : Nat) (hk : (chkC c).2 = 0) (w : World) (hC : Ci w c ao k) (hS : Szs c.ops) : Calls Tryz.prog 6 #[cV c ao k] w fun e w' => (4096 < (c.ops.flatMap xpO).length -> e = .returned (.tuple #[.agg #[.int .i64 0, .int .i64 0, .slice none 0 0], .int .i64 180]) /\ Below w.heap.size w w') /\ (¬ 4096 < (c.ops.flatMap xpO).length -> ∃ bo j, e = .returned (.tuple #[cV ⟨c.q, c.b, c.ops.flatMap xpO⟩ bo j, .int .i64 0]) /\ OpsOwn w' w.heap.size bo (c.ops.flatMap xpO).length j (c.ops.flatMap xpO) /\ Below w.heap.size w w') := by
  obtain ⟨-, -, -, -, hn, hm⟩ := chkC_ok hk
  have c1 := fun V (h : Below w.heap.size w V) => eMay c ao k V (hC.below h)
  rw [show ((chkC c).2 == 0) = true from beq_iff_eq.2 hk] at c1
  have c2 := fun V (h : Below w.heap.size w V) => eCopyO c ao k hS V (hC.below h)
  have HM := hide hm
  have HSz := hide hS.2
  have HOI := hide hC.ops
  have hroom := hC.room
  obtain ⟨q, b, ops⟩ := c
  unfold cV at *
  simp only at *
  obtain ⟨n, hnl⟩ : ∃ n, ops.length = n := ⟨_, rfl⟩
  have HL := hide hnl
  have HXL := hide (fun i => xpt_len ops i hn)
  have HXS := hide (xp_take ops)
  rw [hnl] at hn hroom
  simp only [hnl] at c1 c2 ⊢
  clear hnl hk hC hm hS
  have HFL : Hid ((ops.take n).flatMap xpO = ops.flatMap xpO) := hide (by rw [List.take_of_length_le (by rw [HL.out]; exact Nat.le_refl _)])
  generalize ops.flatMap xpO = FL at *
  have HB0 : Hid (Below w.heap.size w ((w.alloc (.cells #[.int .i64 q, .int .i64 b, .slice ao n k] 24)).alloc (.cells #[.int .i64 0, .int .i64 0, .slice none 0 0] 24))) := hide (((Below.refl _ _).alloc (Nat.le_refl _) _).alloc (by simp) _)
  have HK : Hid (∀ V, Below ((w.alloc (.cells #[.int .i64 q, .int .i64 b, .slice ao n k] 24)).alloc (.cells #[.int .i64 0, .int .i64 0, .slice none 0 0] 24)).heap.size ((w.alloc (.cells #[.int .i64 q, .int .i64 b, .slice ao n k] 24)).alloc (.cells #[.int .i64 0, .int .i64 0, .slice none 0 0] 24)) V -> PB w V q b ao n k) := hide (fun V hV => ⟨bkp HB0.out hV, (may_keep hV).1, (may_keep hV).2⟩)
  go_enter Tryz.func6, Tryz.ntmps6
  go_wp2_with (first
    | (go_at_call 13; refine (c1 _ HB0.out).mono ?_; rintro e w1 ⟨rfl, hb1⟩; have HP1 := hide (HK.out w1 hb1); obtain ⟨x0, x1, x2, x3⟩ := def_cells HP1.out.c; clear hb1 c1 HK)
    | (go_at_call 4; refine (c2 _ HP1.out.bel).mono ?_; rintro e w2 ⟨b2, j2, rfl, -, hb2⟩; have HP2 := hide ((HP1.out.below hb2).below (bnew w2 (.cells #[.int .i64 q, .int .i64 b, .slice none 0 0] 24))); have HD2 : Hid ((w2.alloc (.cells #[.int .i64 q, .int .i64 b, .slice none 0 0] 24)).heap[w2.heap.size]? = some (.cells #[.int .i64 q, .int .i64 b, .slice none 0 0] 24 (0, 0))) := hide (heap_alloc_new _ _); have hDw := HP1.out.z; clear x0 x1 x2 x3 c2))
  have HDw : Hid (w.heap.size + 1 < w2.heap.size) := hide (Nat.lt_of_lt_of_le (Array.getElem?_eq_some_iff.1 hDw).1 hb2.size)
  clear hDw hb2 HP1 HB0
  generalize w2.alloc (.cells #[.int .i64 q, .int .i64 b, .slice none 0 0] 24) = w3 at *
  generalize w2.heap.size = D at *
  go_loopw [5] (fun vi wr => ∃ i : Nat, vi = .int .i64 (i : Int) /\ i <= n /\ ∃ bo j, Hid (PB w wr q b ao n k) /\ Hid (wr.heap[D]? = some (.cells #[.int .i64 q, .int .i64 b, .slice bo ((ops.take i).flatMap xpO).length j] 24 (0, 0))) /\ Hid (OpsOwn wr w.heap.size bo ((ops.take i).flatMap xpO).length j ((ops.take i).flatMap xpO))) (fun vi _ => n - (Go.RowKit.intOf vi).toNat)
  case atStart => exact ⟨0, rfl, Nat.zero_le _, none, 0, HP2, HD2, hide (opsown_nil _ _)⟩
  case round =>
    clear HP2 HD2
    obtain ⟨i, rfl, hi, bo, j, HP, HD, HO⟩ := hrel
    obtain ⟨x0, x1, x2, x3⟩ := def_cells HP.out.c
    have hDl : D < wr.heap.size := (Array.getElem?_eq_some_iff.1 HD.out).1
    have hXL := HXL.out i
    by_cases h : i < n
    . have hd : decide ((i : Int) < (n : Int)) = true := decide_eq_true (by omega)
      have hiZ : (i : Int) < (n : Int) := by omega
      obtain ⟨o, ho⟩ : ∃ o, ops[i]? = some o := ⟨_, List.getElem?_eq_getElem (by rw [HL.out]; exact h)⟩
      obtain ⟨g, off, aq, cq, rfl, hgl, hoc⟩ := (HOI.out.below HP.out.bel).at ho
      have k0 := hoc.kind
      have k1 := hoc.gate
      have k2 := hoc.qs
      have k3 := hoc.bit
      have k4 := hoc.cond
      have k5 := hoc.whn
      have hmay := HM.out o (List.mem_of_getElem? ho)
      have HXT0 := hide (HXS.out i o ho)
      obtain ⟨nl, hnl⟩ : ∃ nl, ((ops.take i).flatMap xpO).length = nl := ⟨_, rfl⟩
      rw [hnl] at HD HO hXL
      have HLN := hide hnl
      clear hnl
      have hW1 : Below wr.heap.size wr (wr.alloc (.cells #[.int .i64 o.kind, .int .i64 o.gate, .slice aq o.qs.length cq, .int .i64 o.bit, .int .i64 o.cond, .int .i64 o.whn] 40)) := bnew _ _
      have HP1 := hide (HP.out.below hW1)
      have HD1 : Hid ((wr.alloc (.cells #[.int .i64 o.kind, .int .i64 o.gate, .slice aq o.qs.length cq, .int .i64 o.bit, .int .i64 o.cond, .int .i64 o.whn] 40)).heap[D]? = some (.cells #[.int .i64 q, .int .i64 b, .slice bo nl j] 24 (0, 0))) := hide ((hW1.block _ hDl).trans HD.out)
      have HO1 := hide (HO.out.below hW1)
      have HN1 := hide (hoc.ns.below hW1)
      have HBx : Hid ((wr.alloc (.cells #[.int .i64 o.kind, .int .i64 o.gate, .slice aq o.qs.length cq, .int .i64 o.bit, .int .i64 o.cond, .int .i64 o.whn] 40)).heap[wr.heap.size]? = some (.cells #[.int .i64 o.kind, .int .i64 o.gate, .slice aq o.qs.length cq, .int .i64 o.bit, .int .i64 o.cond, .int .i64 o.whn] 40 (0, 0))) := hide (heap_alloc_new _ _)
      have HCP : Hid (∀ V, Below w.heap.size w V -> Calls Tryz.prog 4 #[.agg #[.int .i64 0, .int .i64 0, .slice (some ⟨g, off + i * 6, none⟩) 1 (k - i)]] V fun e w' => ∃ bo j, e = .returned (.agg #[.int .i64 0, .int .i64 0, .slice bo 1 j]) /\ OpsOwn w' V.heap.size bo 1 j [o] /\ Below V.heap.size V w') := hide (fun V hV => eCopyO ⟨0, 0, [o]⟩ (some ⟨g, off + i * 6, none⟩) (k - i) ⟨by simp, fun x hx => by simp only [List.mem_singleton] at hx; subst hx; exact HSz.out _ (List.mem_of_getElem? ho)⟩ V ⟨.inr ⟨g, off + i * 6, rfl, fun i' x hx => by
        match i', hx with
        | 0, hx =>
          cases hx
          obtain ⟨g', off', aq', cq', e', -, hoc'⟩ := (HOI.out.below hV).at ho
          simp only [Option.some.injEq, Addr.mk.injEq] at e'
          obtain ⟨rfl, rfl, -⟩ := e'
          exact ⟨aq', cq', by rw [Nat.zero_mul, Nat.add_zero]; exact hoc'⟩
        | i' + 1, hx => simp at hx⟩, by show 1 <= k - i; omega, by simp, fun x hx => by
          simp only [List.mem_singleton] at hx; subst hx
          have := HSz.out _ (List.mem_of_getElem? ho)
          omega⟩)
      by_cases hkd : o.kind = 1
      . have HXT : Hid ((ops.take (i + 1)).flatMap xpO = (ops.take i).flatMap xpO ++ ((exP o.gate o.qs).map mk18).map (fun x => { x with cond := o.cond, whn := o.whn })) := hide (by rw [HXT0.out, xp_same hmay hkd])
        have hmm := ex_len o.gate o.qs
        have c3 := dWritten hmay hkd aq cq _ HN1.out
        unfold WPost at c3
        obtain ⟨m, hmL⟩ : ∃ m, (exP o.gate o.qs).length = m := ⟨_, rfl⟩
        obtain ⟨L, hL⟩ : ∃ L, (exP o.gate o.qs).map mk18 = L := ⟨_, rfl⟩
        have HLm : Hid (L.length = m) := hide (by rw [← hL, List.length_map, hmL])
        rw [hL] at HXT
        rw [hmL] at hmm
        simp only [hmL, hL] at c3
        clear hmL hL hmay
        have hm0 : 0 < m := by omega
        have hm8 : m <= 8 := hmm.1
        have HLN2 : Hid (((ops.take (i + 1)).flatMap xpO).length = nl + m) := hide (by rw [HXT.out, List.length_append, HLN.out, List.length_map, HLm.out])
        have hkt : (o.kind != 1) = false := by rw [hkd]; rfl
        obtain ⟨kind, gate, qs, bit, cond, whn⟩ := o
        simp only at hkd
        subst hkd
        simp only at *
        generalize (ops.take i).flatMap xpO = LT at *
        generalize qs.length = lq at *
        clear HXT0 hW1 hoc ho HN1 HP HD HO HLN HCP hmm
        have HDl : Hid (D < (wr.alloc (.cells #[.int .i64 1, .int .i64 gate, .slice aq lq cq, .int .i64 bit, .int .i64 cond, .int .i64 whn] 40)).heap.size) := hide (Nat.lt_of_lt_of_le hDl (by simp))
        have HPl : Hid (wr.heap.size < (wr.alloc (.cells #[.int .i64 1, .int .i64 gate, .slice aq lq cq, .int .i64 bit, .int .i64 cond, .int .i64 whn] 40)).heap.size) := hide (by simp)
        go_wp2_with (go_at_call 14; refine c3.mono ?_; rintro e w2 ⟨al, cl, rfl, hol, hbl⟩; have HL0 := hide hol; have HB0 := hide hbl; clear hol hbl c3 k0 k1 k2 k3 k4 k5 x0 x1 x2 x3)
        obtain ⟨gl, rfl, hgB, hgl2⟩ := own_some18 HL0.out hm0
        generalize wr.alloc (.cells #[.int .i64 1, .int .i64 gate, .slice aq lq cq, .int .i64 bit, .int .i64 cond, .int .i64 whn] 40) = W1 at *
        generalize wr.heap.size = P at *
        go_loopw [8] (fun vj wi => ∃ jj : Nat, vj = .int .i64 (jj : Int) /\ jj <= m /\ Hid (OpsOwn wi W1.heap.size (some ⟨gl, 0, none⟩) m cl (cnd ⟨1, gate, qs, bit, cond, whn⟩ L jj)) /\ Hid (Below W1.heap.size W1 wi)) (fun vj _ => m - (Go.RowKit.intOf vj).toNat)
        case atStart => exact ⟨0, rfl, Nat.zero_le _, hide (by rw [cnd_zero]; exact HL0.out), HB0⟩
        case round =>
          clear HL0 HB0
          obtain ⟨jj, rfl, hjj, HLi, HBi⟩ := hrel
          by_cases h2 : jj < m
          . have hjd : decide ((jj : Int) < (m : Int)) = true := decide_eq_true (by omega)
            have hjZ : (jj : Int) < (m : Int) := by omega
            obtain ⟨oj, hLj⟩ : ∃ oj, L[jj]? = some oj := ⟨_, List.getElem?_eq_getElem (by rw [HLm.out]; exact h2)⟩
            have hoj := cnd_at18 ⟨1, gate, qs, bit, cond, whn⟩ hLj
            have HSi : Hid (wr.heap[P]? = some (.cells #[.int .i64 1, .int .i64 gate, .slice aq lq cq, .int .i64 bit, .int .i64 cond, .int .i64 whn] 40 (0, 0))) := hide ((HBi.out.block _ HPl.out).trans HBx.out)
            go_wp2_with fail
            refine wp_region_held_drew (S := (fun V : World => V.heap[P]? = some (.cells #[.int .i64 1, .int .i64 gate, .slice aq lq cq, .int .i64 bit, .int .i64 cond, .int .i64 whn] 40 (0, 0)))) (by kernel_rfl) HSi.out (fun hHeld => ?_)
            have HLd : Hid (OpsOwn wr.drew W1.heap.size (some ⟨gl, 0, none⟩) m cl (cnd ⟨1, gate, qs, bit, cond, whn⟩ L jj)) := HLi
            have HBd := hide HBi.out.drew
            have HSd : Hid (wr.drew.heap[P]? = some (.cells #[.int .i64 1, .int .i64 gate, .slice aq lq cq, .int .i64 bit, .int .i64 cond, .int .i64 whn] 40 (0, 0))) := HSi
            have hPg : P ≠ gl := by have := HPl.out; omega
            generalize wr.drew = wd at *
            refine take_to (i := 0) (d := 55) (v := ?_) rfl rfl (by kernel_rfl) (by kernel_rfl) (by kernel_rfl) (fun _ _ _ h => h) (Or.inl ⟨by rfl, ?_⟩) (by assumption) ?_
            rotate_left 1
            . intro W hSw
              obtain ⟨z0, z1, z2, z3, z4, z5, z6⟩ := op_cells18 hSw
              go_simp
              with_reducible rfl
            simp only [Act.put, List.setIfInBounds_toArray, List.set_cons_zero, List.set_cons_succ]
            refine take_to (i := 1) (d := 56) (v := ?_) rfl rfl (by kernel_rfl) (by kernel_rfl) (by kernel_rfl) (fun _ _ _ h => h) (Or.inl ⟨by rfl, ?_⟩) (by assumption) ?_
            rotate_left 1
            . intro W hSw
              obtain ⟨z0, z1, z2, z3, z4, z5, z6⟩ := op_cells18 hSw
              go_simp
              with_reducible rfl
            simp only [Act.put, List.setIfInBounds_toArray, List.set_cons_zero, List.set_cons_succ]
            refine take_to (i := 2) (d := 57) (v := ?_) rfl rfl (by kernel_rfl) (by kernel_rfl) (by kernel_rfl) (fun _ _ _ h => h) (Or.inl ⟨by rfl, ?_⟩) (by assumption) ?_
            rotate_left 1
            . intro W hSw
              obtain ⟨z0, z1, z2, z3, z4, z5, z6⟩ := op_cells18 hSw
              go_simp
              with_reducible rfl
            simp only [Act.put, List.setIfInBounds_toArray, List.set_cons_zero, List.set_cons_succ]
            refine take_to (i := 3) (d := 58) (v := ?_) rfl rfl (by kernel_rfl) (by kernel_rfl) (by kernel_rfl) (fun _ _ _ h => h) (Or.inl ⟨by rfl, ?_⟩) (by assumption) ?_
            rotate_left 1
            . intro W hSw
              obtain ⟨z0, z1, z2, z3, z4, z5, z6⟩ := op_cells18 hSw
              go_simp
              with_reducible rfl
            simp only [Act.put, List.setIfInBounds_toArray, List.set_cons_zero, List.set_cons_succ]
            refine take_to (i := 4) (d := 59) (v := ?_) rfl rfl (by kernel_rfl) (by kernel_rfl) (by kernel_rfl) (fun _ _ _ h => h) (Or.inl ⟨by rfl, ?_⟩) (by assumption) ?_
            rotate_left 1
            . intro W hSw
              obtain ⟨z0, z1, z2, z3, z4, z5, z6⟩ := op_cells18 hSw
              go_simp
              with_reducible rfl
            simp only [Act.put, List.setIfInBounds_toArray, List.set_cons_zero, List.set_cons_succ]
            refine take_to (i := 5) (d := 60) (v := ?_) rfl rfl (by kernel_rfl) (by kernel_rfl) (by kernel_rfl) (fun _ _ _ h => h) (Or.inl ⟨by rfl, ?_⟩) (by assumption) ?_
            rotate_left 1
            . intro W hSw
              obtain ⟨z0, z1, z2, z3, z4, z5, z6⟩ := op_cells18 hSw
              go_simp
              with_reducible rfl
            simp only [Act.put, List.setIfInBounds_toArray, List.set_cons_zero, List.set_cons_succ]
            refine take_to (i := 6) (d := 61) (v := ?_) rfl rfl (by kernel_rfl) (by kernel_rfl) (by kernel_rfl) (fun _ _ _ h => h) (Or.inl ⟨by rfl, ?_⟩) (by assumption) ?_
            rotate_left 1
            . intro W hSw
              obtain ⟨z0, z1, z2, z3, z4, z5, z6⟩ := op_cells18 hSw
              go_simp
              with_reducible rfl
            simp only [Act.put, List.setIfInBounds_toArray, List.set_cons_zero, List.set_cons_succ]
            refine take_to (i := 7) (d := 62) (v := ?_) rfl rfl (by kernel_rfl) (by kernel_rfl) (by kernel_rfl) (fun _ _ _ h => h) (Or.inl ⟨by rfl, ?_⟩) (by assumption) ?_
            rotate_left 1
            . intro W hSw
              obtain ⟨z0, z1, z2, z3, z4, z5, z6⟩ := op_cells18 hSw
              go_simp
              with_reducible rfl
            simp only [Act.put, List.setIfInBounds_toArray, List.set_cons_zero, List.set_cons_succ]
            refine take_to (i := 8) (d := 63) (v := ?_) rfl rfl (by kernel_rfl) (by kernel_rfl) (by kernel_rfl) (fun _ _ _ h => h) (Or.inl ⟨by rfl, ?_⟩) (by assumption) ?_
            rotate_left 1
            . intro W hSw
              obtain ⟨z0, z1, z2, z3, z4, z5, z6⟩ := op_cells18 hSw
              go_simp
              with_reducible rfl
            simp only [Act.put, List.setIfInBounds_toArray, List.set_cons_zero, List.set_cons_succ]
            refine take_to (i := 9) (d := 64) (v := ?_) rfl rfl (by kernel_rfl) (by kernel_rfl) (by kernel_rfl) (fun _ _ _ h => h) (Or.inl ⟨by rfl, ?_⟩) (by assumption) ?_
            rotate_left 1
            . intro W hSw
              obtain ⟨z0, z1, z2, z3, z4, z5, z6⟩ := op_cells18 hSw
              go_simp
              with_reducible rfl
            simp only [Act.put, List.setIfInBounds_toArray, List.set_cons_zero, List.set_cons_succ]
            refine wpAnyH_ready (rs := [10]) (by kernel_rfl) (by simp) ?_
            refine AllReadyH.cons (o := { dst := none, op := Op.store 3 (Operand.tmp 64) (Operand.tmp 60), type := 0, pos := "ref.go:206", after := #[{ on := 9, ground := Ground.data }, { on := 5, ground := Ground.data }, { on := 0, ground := Ground.phase }, { on := 1, ground := Ground.phase }, { on := 2, ground := Ground.textOnly Departure.lateStores }, { on := 3, ground := Ground.textOnly Departure.lateStores }, { on := 4, ground := Ground.phase }, { on := 5, ground := Ground.phase }, { on := 6, ground := Ground.textOnly Departure.lateStores }, { on := 7, ground := Ground.textOnly Departure.lateStores }], guard := none }) rfl (fun K hK => ?_) AllReadyH.nil
            obtain ⟨ao1, cr1, u1, u2, u3, u4, u5, u6, u7, -, u8, -⟩ := HLd.out.one hoj
            have hL2 := hide (u8 cond)
            have hS2 : (fun V : World => V.heap[P]? = some (.cells #[.int .i64 1, .int .i64 gate, .slice aq lq cq, .int .i64 bit, .int .i64 cond, .int .i64 whn] 40 (0, 0))) (wd.setCell ⟨gl, jj * 6 + 4, none⟩ (.int .i64 cond)) := (Below.heap_setCell _ _ _ _ (by show P ≠ gl; omega)).trans HSd.out
            go_simp
            refine hK.out _ _ hS2 (fun hHeld => ?_)
            clear hK K u1 u2 u3 u4 u5 u6 u7 u8
            try simp only [Act.put, List.setIfInBounds_toArray, List.set_cons_zero, List.set_cons_succ]
            refine take_to (i := 11) (d := 65) (v := ?_) rfl rfl (by kernel_rfl) (by kernel_rfl) (by kernel_rfl) (fun _ _ _ h => h) (Or.inl ⟨by rfl, ?_⟩) (by assumption) ?_
            rotate_left 1
            . intro W hSw
              obtain ⟨z0, z1, z2, z3, z4, z5, z6⟩ := op_cells18 hSw
              go_simp
              with_reducible rfl
            simp only [Act.put, List.setIfInBounds_toArray, List.set_cons_zero, List.set_cons_succ]
            refine take_to (i := 12) (d := 66) (v := ?_) rfl rfl (by kernel_rfl) (by kernel_rfl) (by kernel_rfl) (fun _ _ _ h => h) (Or.inl ⟨by rfl, ?_⟩) (by assumption) ?_
            rotate_left 1
            . intro W hSw
              obtain ⟨z0, z1, z2, z3, z4, z5, z6⟩ := op_cells18 hSw
              go_simp
              with_reducible rfl
            simp only [Act.put, List.setIfInBounds_toArray, List.set_cons_zero, List.set_cons_succ]
            refine wpAnyH_ready (rs := [13]) (by kernel_rfl) (by simp) ?_
            refine AllReadyH.cons (o := { dst := none, op := Op.store 3 (Operand.tmp 66) (Operand.tmp 62), type := 0, pos := "ref.go:206", after := #[{ on := 12, ground := Ground.data }, { on := 7, ground := Ground.data }, { on := 10, ground := Ground.chain }, { on := 0, ground := Ground.phase }, { on := 1, ground := Ground.phase }, { on := 2, ground := Ground.phase }, { on := 3, ground := Ground.phase }, { on := 4, ground := Ground.phase }, { on := 5, ground := Ground.phase }, { on := 6, ground := Ground.phase }, { on := 7, ground := Ground.phase }, { on := 8, ground := Ground.phase }, { on := 9, ground := Ground.phase }, { on := 10, ground := Ground.phase }], guard := none }) rfl (fun K hK => ?_) AllReadyH.nil
            obtain ⟨t1, t2⟩ := opsown_whn hL2.out (List.getElem?_set_self (List.getElem?_eq_some_iff.1 hoj).1)
            obtain ⟨ao2, cr2, u1, u2, u3, u4, u5, u6, u7, -⟩ := hL2.out.one (List.getElem?_set_self (List.getElem?_eq_some_iff.1 hoj).1)
            have hL3 := hide (t2 whn)
            have HB3 := hide ((HBd.out.setCell (p := ⟨gl, jj * 6 + 4, none⟩) hgB (.int .i64 cond)).setCell (p := ⟨gl, jj * 6 + 5, none⟩) hgB (.int .i64 whn))
            clear t2
            generalize wd.setCell ⟨gl, jj * 6 + 4, none⟩ (.int .i64 cond) = wd2 at *
            have hS3 : (fun V : World => V.heap[P]? = some (.cells #[.int .i64 1, .int .i64 gate, .slice aq lq cq, .int .i64 bit, .int .i64 cond, .int .i64 whn] 40 (0, 0))) (wd2.setCell ⟨gl, jj * 6 + 5, none⟩ (.int .i64 whn)) := (Below.heap_setCell _ _ _ _ (by show P ≠ gl; omega)).trans hS2
            go_simp
            refine hK.out _ _ hS3 (fun hHeld => ?_)
            clear hK K
            refine wpAnyH_done (by kernel_rfl) ?_ _
            go_wp2_with fail
            go_roundw
            case rel => exact ⟨jj + 1, by go_num, by omega, hide (by rw [← cnd_succ18 ⟨1, gate, qs, bit, cond, whn⟩ hLj]; have := hL3.out; rw [List.set_set] at this; exact this), HB3⟩
            case measure => simp [Go.RowKit.intOf]; omega
          . obtain rfl : jj = m := by omega
            have hjd : decide ((jj : Int) < (jj : Int)) = false := decide_eq_false (by omega)
            have HDi : Hid (wr.heap[D]? = some (.cells #[.int .i64 q, .int .i64 b, .slice bo nl j] 24 (0, 0))) := hide ((HBi.out.block _ HDl.out).trans HD1.out)
            have HPi := hide (HP1.out.below HBi.out)
            have HEi := hide (HO1.out.upto.below HBi.out)
            have HLa : Hid (OpsOwn wr W1.heap.size (some ⟨gl, 0, none⟩) jj cl (L.map (fun x => { x with cond := cond, whn := whn }))) := hide (by have := HLi.out; rw [← HLm.out, cnd_all, HLm.out] at this; exact this)
            have hz1 := HP1.out.bel.size
            have hz2 := HBi.out.size
            obtain ⟨y0, y1, y2, y3⟩ := def_cells HDi.out
            clear HLi
            go_wp2_with (at_builtin; refine list_app_opsE rfl _ _ rfl (by rfl) (by rfl) HEi.out HLa.out hz1 hz2 (by omega) ?_; intro a6 d6 w6 ho6 hg6; have HO6 := hide ho6; have HP6 := hide (HPi.out.grown HEi.out.own hg6); have HD6 : Hid (w6.heap[D]? = some (.cells #[.int .i64 q, .int .i64 b, .slice bo nl j] 24 (0, 0))) := hide ((hg6.block _ (Array.getElem?_eq_some_iff.1 HDi.out).1 (own_ne18 HEi.out.own HDi.out (by decide)).symm).trans HDi.out); clear ho6 hg6 y0 y1 y2 y3; obtain ⟨y0, y1, y2, y3⟩ := def_cells HD6.out; have yf := fun i => fz_c18 HD6.out i)
            have hcs := c2_set18 w6 D _ _ _ (.slice a6 (nl + jj) d6) _ HD6.out
            go_roundw
            case rel => exact ⟨i + 1, by go_num, by omega, a6, d6, hide (by rw [hcs]; exact HP6.out.put HDw.out _), hide (by rw [hcs, HLN2.out]; exact setRow_heap _ _ _ _ _ _ HD6.out), hide (by rw [hcs, HLN2.out, HXT.out]; exact HO6.out.row HD6.out (by decide) (by decide) _)⟩
            case measure => simp [Go.RowKit.intOf]; omega
      . have HXT : Hid ((ops.take (i + 1)).flatMap xpO = (ops.take i).flatMap xpO ++ [o]) := hide (by rw [HXT0.out, xp_one hmay hkd])
        have HLN2 : Hid (((ops.take (i + 1)).flatMap xpO).length = nl + 1) := hide (by rw [HXT.out, List.length_append, HLN.out]; rfl)
        have hkf : (o.kind == 1) = false := beq_eq_false_iff_ne.2 hkd
        have hkt : (o.kind != 1) = true := by unfold bne; rw [hkf]; rfl
        have hwi : IntKind.i64.wrap ((i : Int) + 1) = (i : Int) + 1 := by rw [IntKind.wrap_i64]; omega
        have hik : (i : Int) + 1 <= (k : Int) := by omega
        have hi01 : (0 : Int) <= (i : Int) + 1 := by omega
        have hki : ¬ k = i := by omega
        obtain ⟨kind, gate, qs, bit, cond, whn⟩ := o
        simp only at *
        generalize (ops.take i).flatMap xpO = LT at *
        generalize qs.length = lq at *
        clear HXT0 hmay hW1 hoc ho HN1 HBx HP HD HO hkd HLN
        go_wp2_with fail
        generalize wr.alloc (.cells #[.int .i64 kind, .int .i64 gate, .slice aq lq cq, .int .i64 bit, .int .i64 cond, .int .i64 whn] 40) = W1 at *
        clear k0 k1 k2 k3 k4 k5 x0 x1 x2 x3
        refine region_front (S := (fun V : World => V.heap[w.heap.size]? = some (.cells #[.int .i64 q, .int .i64 b, .slice (some ⟨g, off, none⟩) n k] 24 (0, 0)) /\ V.heap[D]? = some (.cells #[.int .i64 q, .int .i64 b, .slice bo nl j] 24 (0, 0)))) (by kernel_rfl) 13 (by kernel_rfl) ⟨HP1.out.c, HD1.out⟩ (fun hHeld => ?_)
        simp only [List.take_succ_cons, List.take_zero]
        refine take_to (i := 0) (d := 31) (v := ?_) rfl rfl (by kernel_rfl) (by kernel_rfl) (by kernel_rfl) (fun _ _ _ h => h) (Or.inl ⟨by rfl, ?_⟩) (by assumption) ?_
        rotate_left 1
        . intro W hSw
          obtain ⟨q0, q1⟩ := hSw
          obtain ⟨z0, z1, z2, z3⟩ := def_cells q0
          obtain ⟨y0, y1, y2, y3⟩ := def_cells q1
          go_simp
          with_reducible rfl
        simp only [Act.put, List.setIfInBounds_toArray, List.set_cons_zero, List.set_cons_succ]
        refine take_to (i := 1) (d := 32) (v := ?_) rfl rfl (by kernel_rfl) (by kernel_rfl) (by kernel_rfl) (fun _ _ _ h => h) (Or.inl ⟨by rfl, ?_⟩) (by assumption) ?_
        rotate_left 1
        . intro W hSw
          obtain ⟨q0, q1⟩ := hSw
          obtain ⟨z0, z1, z2, z3⟩ := def_cells q0
          obtain ⟨y0, y1, y2, y3⟩ := def_cells q1
          go_simp
          with_reducible rfl
        simp only [Act.put, List.setIfInBounds_toArray, List.set_cons_zero, List.set_cons_succ]
        refine take_to (i := 2) (d := 33) (v := ?_) rfl rfl (by kernel_rfl) (by kernel_rfl) (by kernel_rfl) (fun _ _ _ h => h) (Or.inl ⟨by rfl, ?_⟩) (by assumption) ?_
        rotate_left 1
        . intro W hSw
          obtain ⟨q0, q1⟩ := hSw
          obtain ⟨z0, z1, z2, z3⟩ := def_cells q0
          obtain ⟨y0, y1, y2, y3⟩ := def_cells q1
          go_simp
          with_reducible rfl
        simp only [Act.put, List.setIfInBounds_toArray, List.set_cons_zero, List.set_cons_succ]
        refine take_to (i := 3) (d := 34) (v := ?_) rfl rfl (by kernel_rfl) (by kernel_rfl) (by kernel_rfl) (fun _ _ _ h => h) (Or.inl ⟨by rfl, ?_⟩) (by assumption) ?_
        rotate_left 1
        . intro W hSw
          obtain ⟨q0, q1⟩ := hSw
          obtain ⟨z0, z1, z2, z3⟩ := def_cells q0
          obtain ⟨y0, y1, y2, y3⟩ := def_cells q1
          go_simp
          with_reducible rfl
        simp only [Act.put, List.setIfInBounds_toArray, List.set_cons_zero, List.set_cons_succ]
        refine take_to (i := 4) (d := 35) (v := ?_) rfl rfl (by kernel_rfl) (by kernel_rfl) (by kernel_rfl) (fun _ _ _ h => h) (Or.inl ⟨by rfl, ?_⟩) (by assumption) ?_
        rotate_left 1
        . intro W hSw
          obtain ⟨q0, q1⟩ := hSw
          obtain ⟨z0, z1, z2, z3⟩ := def_cells q0
          obtain ⟨y0, y1, y2, y3⟩ := def_cells q1
          go_simp
          with_reducible rfl
        simp only [Act.put, List.setIfInBounds_toArray, List.set_cons_zero, List.set_cons_succ]
        refine take_to (i := 5) (d := 36) (v := ?_) rfl rfl (by kernel_rfl) (by kernel_rfl) (by kernel_rfl) (fun _ _ _ h => h) (Or.inl ⟨by rfl, ?_⟩) (by assumption) ?_
        rotate_left 1
        . intro W hSw
          obtain ⟨q0, q1⟩ := hSw
          obtain ⟨z0, z1, z2, z3⟩ := def_cells q0
          obtain ⟨y0, y1, y2, y3⟩ := def_cells q1
          go_simp
          with_reducible rfl
        simp only [Act.put, List.setIfInBounds_toArray, List.set_cons_zero, List.set_cons_succ]
        refine take_to (i := 6) (d := 37) (v := ?_) rfl rfl (by kernel_rfl) (by kernel_rfl) (by kernel_rfl) (fun _ _ _ h => h) (Or.inl ⟨by rfl, ?_⟩) (by assumption) ?_
        rotate_left 1
        . intro W hSw
          obtain ⟨q0, q1⟩ := hSw
          obtain ⟨z0, z1, z2, z3⟩ := def_cells q0
          obtain ⟨y0, y1, y2, y3⟩ := def_cells q1
          go_simp
          with_reducible rfl
        simp only [Act.put, List.setIfInBounds_toArray, List.set_cons_zero, List.set_cons_succ]
        refine take_to (i := 7) (d := 38) (v := ?_) rfl rfl (by kernel_rfl) (by kernel_rfl) (by kernel_rfl) (fun _ _ _ h => h) (Or.inl ⟨by rfl, ?_⟩) (by assumption) ?_
        rotate_left 1
        . intro W hSw
          obtain ⟨q0, q1⟩ := hSw
          obtain ⟨z0, z1, z2, z3⟩ := def_cells q0
          obtain ⟨y0, y1, y2, y3⟩ := def_cells q1
          go_simp
          with_reducible rfl
        simp only [Act.put, List.setIfInBounds_toArray, List.set_cons_zero, List.set_cons_succ]
        refine take_to (i := 8) (d := 39) (v := ?_) rfl rfl (by kernel_rfl) (by kernel_rfl) (by kernel_rfl) (fun _ _ _ h => h) (Or.inl ⟨by rfl, ?_⟩) (by assumption) ?_
        rotate_left 1
        . intro W hSw
          obtain ⟨q0, q1⟩ := hSw
          obtain ⟨z0, z1, z2, z3⟩ := def_cells q0
          obtain ⟨y0, y1, y2, y3⟩ := def_cells q1
          go_simp
          with_reducible rfl
        simp only [Act.put, List.setIfInBounds_toArray, List.set_cons_zero, List.set_cons_succ]
        refine wpAnyH_ready (rs := [9]) (by kernel_rfl) (by simp) ?_
        refine AllReadyH.cons (o := { dst := some 40, op := Op.call { callee := Callee.value (Operand.func 4), args := #[Operand.tmp 39], argTypes := #[24] }, type := 24, pos := "ref.go:201", after := #[{ on := 8, ground := Ground.data }], guard := none }) rfl (fun K hK => ?_) AllReadyH.nil
        go_simp
        go_at_call 4
        refine Calls.mono (HCP.out W1.drew HP1.out.bel.drew) ?_
        rintro e w5 ⟨a5, d5, rfl, ho5, hb5⟩
        have HP5 := hide ((show PB w W1.drew q b (some ⟨g, off, none⟩) n k from ⟨HP1.out.bel.drew, HP1.out.c, HP1.out.z⟩).below hb5)
        have HD5 : Hid (w5.heap[D]? = some (.cells #[.int .i64 q, .int .i64 b, .slice bo nl j] 24 (0, 0))) := hide ((hb5.block _ (Array.getElem?_eq_some_iff.1 HD1.out).1).trans HD1.out)
        have HE5 : Hid (OpsE w5 w.heap.size W1.heap.size bo nl j LT) := hide ((show OpsOwn W1.drew w.heap.size bo nl j LT from HO1.out).upto.below hb5)
        have HO5 := hide ho5
        have hz5 : W1.heap.size <= w5.heap.size := hb5.size
        clear ho5 hb5
        have hfl := fun W => fldC18 0 0 a5 1 d5 W
        go_wp2_with fail
        refine hK.out _ _ (show (fun V : World => V.heap[w.heap.size]? = some (.cells #[.int .i64 q, .int .i64 b, .slice (some ⟨g, off, none⟩) n k] 24 (0, 0)) /\ V.heap[D]? = some (.cells #[.int .i64 q, .int .i64 b, .slice bo nl j] 24 (0, 0))) w5 from ⟨HP5.out.c, HD5.out⟩) (fun hHeld => ?_)
        clear hK K
        try simp only [Act.put, List.setIfInBounds_toArray, List.set_cons_zero, List.set_cons_succ]
        refine take_to (i := 10) (d := 41) (v := ?_) rfl rfl (by kernel_rfl) (by kernel_rfl) (by kernel_rfl) (fun _ _ _ h => h) (Or.inl ⟨by rfl, ?_⟩) (by assumption) ?_
        rotate_left 1
        . intro W hSw
          obtain ⟨q0, q1⟩ := hSw
          obtain ⟨z0, z1, z2, z3⟩ := def_cells q0
          obtain ⟨y0, y1, y2, y3⟩ := def_cells q1
          go_simp
          with_reducible rfl
        simp only [Act.put, List.setIfInBounds_toArray, List.set_cons_zero, List.set_cons_succ]
        refine wpAnyH_ready (rs := [11]) (by kernel_rfl) (by simp) ?_
        refine AllReadyH.cons (o := { dst := some 42, op := Op.call { callee := Callee.builtin Builtin.append, args := #[Operand.tmp 32, Operand.tmp 41], argTypes := #[22, 22] }, type := 22, pos := "ref.go:201", after := #[{ on := 1, ground := Ground.data }, { on := 10, ground := Ground.data }, { on := 9, ground := Ground.chain }], guard := none }) rfl (fun K hK => ?_) AllReadyH.nil
        refine step_app18 rfl (.tmp 32) (.tmp 41) rfl (by rfl) (by rfl) HE5.out HO5.out HP1.out.bel.size hz5 (by omega) ?_
        intro a6 d6 w6 ho6 hg6
        have HO6 := hide ho6
        have HP6 := hide (HP5.out.grown HE5.out.own hg6)
        have HD6 : Hid (w6.heap[D]? = some (.cells #[.int .i64 q, .int .i64 b, .slice bo nl j] 24 (0, 0))) := hide ((hg6.block _ (Array.getElem?_eq_some_iff.1 HD5.out).1 (own_ne18 HE5.out.own HD5.out (by decide)).symm).trans HD5.out)
        clear ho6 hg6
        refine hK.out _ _ (show (fun V : World => V.heap[w.heap.size]? = some (.cells #[.int .i64 q, .int .i64 b, .slice (some ⟨g, off, none⟩) n k] 24 (0, 0)) /\ V.heap[D]? = some (.cells #[.int .i64 q, .int .i64 b, .slice bo nl j] 24 (0, 0))) w6 from ⟨HP6.out.c, HD6.out⟩) (fun hHeld => ?_)
        clear hK K
        try simp only [Act.put, List.setIfInBounds_toArray, List.set_cons_zero, List.set_cons_succ]
        refine take_to (i := 12) (d := 43) (v := ?_) rfl rfl (by kernel_rfl) (by kernel_rfl) (by kernel_rfl) (fun _ _ _ h => h) (Or.inl ⟨by rfl, ?_⟩) (by assumption) ?_
        rotate_left 1
        . intro W hSw
          obtain ⟨q0, q1⟩ := hSw
          obtain ⟨z0, z1, z2, z3⟩ := def_cells q0
          obtain ⟨y0, y1, y2, y3⟩ := def_cells q1
          go_simp
          with_reducible rfl
        simp only [Act.put, List.setIfInBounds_toArray, List.set_cons_zero, List.set_cons_succ]
        refine wpAnyH_done (by kernel_rfl) ?_ _
        refine ql_last (o := { dst := none, op := Op.store 22 (Operand.tmp 43) (Operand.tmp 42), type := 0, pos := "ref.go:201", after := #[{ on := 12, ground := Ground.data }, { on := 11, ground := Ground.data }, { on := 11, ground := Ground.chain }, { on := 0, ground := Ground.phase }, { on := 1, ground := Ground.phase }, { on := 2, ground := Ground.phase }, { on := 3, ground := Ground.phase }, { on := 4, ground := Ground.phase }, { on := 5, ground := Ground.phase }, { on := 6, ground := Ground.phase }, { on := 7, ground := Ground.phase }, { on := 8, ground := Ground.phase }, { on := 9, ground := Ground.phase }, { on := 10, ground := Ground.phase }, { on := 11, ground := Ground.phase }], guard := none }) rfl (fun K hK => ?_)
        obtain ⟨v0, v1, v2, v3⟩ := def_cells HD6.out
        have vf := fun i => fz_c18 HD6.out i
        go_simp
        rw [c2_set18 _ _ _ _ _ _ _ HD6.out]
        refine hK.out _ _ ?_
        go_wp2_with fail
        go_roundw
        case rel => exact ⟨i + 1, by go_num, by omega, a6, d6, hide (HP6.out.put HDw.out _), hide (by rw [HLN2.out]; exact setRow_heap _ _ _ _ _ _ HD6.out), hide (by rw [HLN2.out, HXT.out]; exact HO6.out.row HD6.out (by decide) (by decide) _)⟩
        case measure => simp [Go.RowKit.intOf]; omega
    . obtain rfl : i = n := by omega
      have hd : decide ((i : Int) < (i : Int)) = false := decide_eq_false (by omega)
      rw [HFL.out] at HD HO hXL
      have HP' := HP
      have hR := HP.out.z
      obtain ⟨y0, y1, y2, y3⟩ := def_cells HD.out
      obtain ⟨z0, z1, z2, z3⟩ := def_cells HP.out.z
      have zf := fun i => fz_c18 HP.out.z i
      have HFin : Hid (∀ (V : World) (e : Ending), (4096 < FL.length -> e = .returned (.tuple #[.agg #[.int .i64 0, .int .i64 0, .slice none 0 0], .int .i64 180]) /\ Below w.heap.size w V) -> (¬ 4096 < FL.length -> ∃ bo j, e = .returned (.tuple #[.agg #[.int .i64 q, .int .i64 b, .slice bo FL.length j], .int .i64 0]) /\ OpsOwn V w.heap.size bo FL.length j FL /\ Below w.heap.size w V) -> ((4096 < FL.length -> e = .returned (.tuple #[.agg #[.int .i64 0, .int .i64 0, .slice none 0 0], .int .i64 180]) /\ Below w.heap.size w V) /\ (¬ 4096 < FL.length -> ∃ bo j, e = .returned (.tuple #[.agg #[.int .i64 q, .int .i64 b, .slice bo FL.length j], .int .i64 0]) /\ OpsOwn V w.heap.size bo FL.length j FL /\ Below w.heap.size w V))) := hide (fun _ _ h1 h2 => ⟨h1, h2⟩)
      by_cases hl : 4096 < FL.length
      . have hld : decide ((FL.length : Int) > 4096) = true := decide_eq_true (by omega)
        have hld2 : (4096 : Int) < (FL.length : Int) := by omega
        go_wp2_with fail
        rw [c3_set18 _ _ _ _ _ _ _ _ _ hR]
        refine bodyPost_ret (results_ct rfl _ _ (w.heap.size + 1) _ _ _ _ rfl (setRow_heap _ _ _ _ _ _ hR) Tryz.underlying24 rfl (by exact infoCi18)) rfl ?_
        exact ⟨fun _ => ⟨rfl, Below.row HP.out.bel _ _ (by omega)⟩, fun h => absurd hl h⟩
      . have hld : decide ((FL.length : Int) > 4096) = false := decide_eq_false (by omega)
        have hld2 : ¬ (4096 : Int) < (FL.length : Int) := by omega
        go_wp2_with fail
        rw [c3_set18 _ _ _ _ _ _ _ _ _ hR]
        refine bodyPost_ret (results_ct rfl _ _ (w.heap.size + 1) _ _ _ _ rfl (setRow_heap _ _ _ _ _ _ hR) Tryz.underlying24 rfl (by exact infoCi18)) rfl ?_
        exact ⟨bo, j, rfl, HO.out.row hR (by decide) (by decide) _, Below.row HP.out.bel _ _ (by omega)⟩
end Go.Proofs.YtbdphifecjigmaaGreatDoor.Rwt
