import Derived.Test.YtmkalhaegbnknaaDoorQ9aed214b
import Derived.Test.YtmkalhaegbnknaaDoorQ17892cb4
import Derived.Test.YtmkalhaegbnknaaDoorQa71c0c20
set_option maxRecDepth 100000
set_option maxHeartbeats 2000000
namespace Go.Proofs.YtmkalhaegbnknaaDoor.Cir
open Go.RowKit Go.Shelf Go.Proofs.YtmkalhaegbnknaaDoor.Oct Go.Proofs.YtmkalhaegbnknaaDoor.Tok Go.Proofs.YtmkalhaegbnknaaDoor.Gt Go.Proofs.YtmkalhaegbnknaaDoor.Rf
theorem OpsOwn.blt {w : World} {B n c : Nat} {bo : Option Addr} {l : List COp} (h : OpsOwn w B bo n c l) : ∀ k, ob bo = some k -> B <= k := by
  obtain ⟨xs, h1, h2, h3, h4, h5⟩ := h
  exact fun k hk => (own_lt h3 k hk).1
theorem fldC2 (q b : Int) (bo : Option Addr) (n j : Nat) (w : World) : (Instr.field 24 (.agg #[.int .i64 q, .int .i64 b, .slice bo n j]) 2).run Tryd.prog w = .ok (.slice bo n j) w := by kernel_rfl
theorem repL_len (l : List COp) : ∀ i, (repL l i).length = i * l.length
  | 0 => by simp [repL]
  | i + 1 => by rw [repL, List.length_append, repL_len l i, Nat.add_mul, Nat.one_mul]
theorem iRepeated (c : Circ) (ao : Option Addr) (k : Nat) (t : Nat) (hS : Szs c.ops) (ht : t * c.ops.length <= 4096) (ht2 : t <= 4096) (w : World) (hC : Ci w c ao k) : Calls Tryd.prog 32 #[cV c ao k, .int .i64 (t : Int)] w fun e w' => ∃ bo j, e = .returned (cV ⟨c.q, c.b, repL c.ops t⟩ bo j) /\ OpsOwn w' w.heap.size bo (repL c.ops t).length j (repL c.ops t) /\ Below w.heap.size w w' := by
  have c1 := fun V (h : Below w.heap.size w V) => cCopyO c ao k hS V (hC.below h)
  have hfd := fldC2
  have hlen := repL_len c.ops
  obtain ⟨q, b, l⟩ := c
  unfold cV at *
  simp only at *
  rw [hlen]
  generalize l.length = n at *
  clear hC hS
  have HLE := hide hlen
  have HMU : Hid (∀ i, i <= t -> i * n + n <= 2199023255552 ∨ t = i) := hide (fun i hi => by
    by_cases h : t = i
    . exact .inr h
    . left
      have : (i + 1) * n <= t * n := Nat.mul_le_mul_right n (by omega)
      rw [Nat.add_mul, Nat.one_mul] at this
      omega)
  clear hlen ht
  have HB0 : Hid (Below w.heap.size w (((w.alloc (.cells #[.int .i64 q, .int .i64 b, .slice ao n k] 24)).alloc (.cells #[.int .i64 0, .int .i64 0, .slice none 0 0] 24)).alloc (.cells #[.int .i64 q, .int .i64 b, .slice none 0 0] 24)) /\ (((w.alloc (.cells #[.int .i64 q, .int .i64 b, .slice ao n k] 24)).alloc (.cells #[.int .i64 0, .int .i64 0, .slice none 0 0] 24)).alloc (.cells #[.int .i64 q, .int .i64 b, .slice none 0 0] 24)).heap[w.heap.size]? = some (.cells #[.int .i64 q, .int .i64 b, .slice ao n k] 24 (0, 0)) /\ (((w.alloc (.cells #[.int .i64 q, .int .i64 b, .slice ao n k] 24)).alloc (.cells #[.int .i64 0, .int .i64 0, .slice none 0 0] 24)).alloc (.cells #[.int .i64 q, .int .i64 b, .slice none 0 0] 24)).heap[w.heap.size + 1]? = some (.cells #[.int .i64 0, .int .i64 0, .slice none 0 0] 24 (0, 0)) /\ (((w.alloc (.cells #[.int .i64 q, .int .i64 b, .slice ao n k] 24)).alloc (.cells #[.int .i64 0, .int .i64 0, .slice none 0 0] 24)).alloc (.cells #[.int .i64 q, .int .i64 b, .slice none 0 0] 24)).heap[w.heap.size + 1 + 1]? = some (.cells #[.int .i64 q, .int .i64 b, .slice none 0 0] 24 (0, 0))) := hide (by
    obtain ⟨m1, m2⟩ := may_keep (w := w) (bnew ((w.alloc (.cells #[.int .i64 q, .int .i64 b, .slice ao n k] 24)).alloc (.cells #[.int .i64 0, .int .i64 0, .slice none 0 0] 24)) (.cells #[.int .i64 q, .int .i64 b, .slice none 0 0] 24))
    refine ⟨((bnew _ _).trans ((bnew _ _).mono (by simp))).trans ((bnew _ _).mono (by simp; omega)), m1, m2, ?_⟩
    have := heap_alloc_new ((w.alloc (.cells #[.int .i64 q, .int .i64 b, .slice ao n k] 24)).alloc (.cells #[.int .i64 0, .int .i64 0, .slice none 0 0] 24)) (.cells #[.int .i64 q, .int .i64 b, .slice none 0 0] 24)
    simpa using this)
  go_enter Tryd.func32, Tryd.ntmps32
  go_wp2_with fail
  go_loopw [12] (fun vi wr => ∃ i : Nat, vi = .int .i64 (i : Int) /\ i <= t /\ Below w.heap.size w wr /\ wr.heap[w.heap.size]? = some (.cells #[.int .i64 q, .int .i64 b, .slice ao n k] 24 (0, 0)) /\ wr.heap[w.heap.size + 1]? = some (.cells #[.int .i64 0, .int .i64 0, .slice none 0 0] 24 (0, 0)) /\ ∃ (bo : Option Addr) (m j : Nat), m = i * n /\ wr.heap[w.heap.size + 1 + 1]? = some (.cells #[.int .i64 q, .int .i64 b, .slice bo m j] 24 (0, 0)) /\ OpsOwn wr w.heap.size bo m j (repL l i)) (fun vi _ => t - (Go.RowKit.intOf vi).toNat)
  case atStart => exact ⟨0, rfl, Nat.zero_le _, HB0.out.1, HB0.out.2.1, HB0.out.2.2.1, none, 0, 0, by simp, HB0.out.2.2.2, OpsOwn.nil _ _⟩
  case round =>
    obtain ⟨i, rfl, hi, hb, hm0, hm1, bo, m, j, hmm, hm2, hO⟩ := hrel
    by_cases h : i < t
    . have hd : decide ((i : Int) < (t : Int)) = true := decide_eq_true (by omega)
      have hkk : (i : Int) < (t : Int) := by omega
      have hsz := (HMU.out i hi).resolve_right (by omega)
      rw [← hmm] at hsz
      have HME := hide hmm
      have HBr := hide hb
      have HM0 := hide hm0
      have HM1 := hide hm1
      have HM2 := hide hm2
      have HO := hide hO
      obtain ⟨p0, p1, p2, p3⟩ := def_cells hm0
      obtain ⟨r0, r1, r2, r3⟩ := def_cells hm2
      clear hb hm0 hm1 hm2 hO hmm HMU HB0
      go_wp2_with fail
      refine region_front (S := (fun V => V.heap[w.heap.size]? = some (.cells #[.int .i64 q, .int .i64 b, .slice ao n k] 24 (0, 0)) /\ V.heap[w.heap.size + 1 + 1]? = some (.cells #[.int .i64 q, .int .i64 b, .slice bo m j] 24 (0, 0)))) (by kernel_rfl) 7 (by kernel_rfl) ⟨HM0.out, HM2.out⟩ (fun hHeld => ?_)
      simp only [List.take_succ_cons, List.take_zero]
      refine take_to (i := 0) (d := 14) (v := ?_) rfl rfl (by kernel_rfl) (by kernel_rfl) (by kernel_rfl) (fun _ _ _ h => h) (Or.inl ⟨by rfl, ?_⟩) (by assumption) ?_
      rotate_left 1
      . intro W hSw
        obtain ⟨hc1, hc2⟩ := hSw
        obtain ⟨s0, s1, s2, s3⟩ := def_cells hc1
        obtain ⟨t0, t1, t2, t3⟩ := def_cells hc2
        go_simp
        with_reducible rfl
      simp only [Act.put, List.setIfInBounds_toArray, List.set_cons_zero, List.set_cons_succ]
      refine take_to (i := 1) (d := 15) (v := ?_) rfl rfl (by kernel_rfl) (by kernel_rfl) (by kernel_rfl) (fun _ _ _ h => h) (Or.inl ⟨by rfl, ?_⟩) (by assumption) ?_
      rotate_left 1
      . intro W hSw
        obtain ⟨hc1, hc2⟩ := hSw
        obtain ⟨s0, s1, s2, s3⟩ := def_cells hc1
        obtain ⟨t0, t1, t2, t3⟩ := def_cells hc2
        go_simp
        with_reducible rfl
      simp only [Act.put, List.setIfInBounds_toArray, List.set_cons_zero, List.set_cons_succ]
      refine take_to (i := 2) (d := 16) (v := ?_) rfl rfl (by kernel_rfl) (by kernel_rfl) (by kernel_rfl) (fun _ _ _ h => h) (Or.inl ⟨by rfl, ?_⟩) (by assumption) ?_
      rotate_left 1
      . intro W hSw
        obtain ⟨hc1, hc2⟩ := hSw
        obtain ⟨s0, s1, s2, s3⟩ := def_cells hc1
        obtain ⟨t0, t1, t2, t3⟩ := def_cells hc2
        go_simp
        with_reducible rfl
      simp only [Act.put, List.setIfInBounds_toArray, List.set_cons_zero, List.set_cons_succ]
      refine wpAnyH_ready (rs := [3]) (by kernel_rfl) (by simp) ?_
      refine AllReadyH.cons (o := { dst := some 17, op := Op.call { callee := Callee.value (Operand.func 20), args := #[Operand.tmp 16], argTypes := #[24] }, type := 24, pos := "invert.go:81", after := #[{ on := 2, ground := Ground.data }], guard := none }) rfl (fun K hK => ?_) AllReadyH.nil
      go_simp
      go_at_call 20
      refine Calls.mono (c1 _ HBr.out.drew) ?_
      rintro e w5 ⟨bo2, j2, rfl, hO5, hb5⟩
      have hS5 : (fun V => V.heap[w.heap.size]? = some (.cells #[.int .i64 q, .int .i64 b, .slice ao n k] 24 (0, 0)) /\ V.heap[w.heap.size + 1 + 1]? = some (.cells #[.int .i64 q, .int .i64 b, .slice bo m j] 24 (0, 0))) w5 := ⟨(hb5.block _ p3).trans HM0.out, (hb5.block _ r3).trans HM2.out⟩
      have n1 : w5.heap[w.heap.size + 1]? = some (.cells #[.int .i64 0, .int .i64 0, .slice none 0 0] 24 (0, 0)) := (hb5.block _ (Array.getElem?_eq_some_iff.1 HM1.out).1).trans HM1.out
      go_wp2_with fail
      refine hK.out _ _ hS5 (fun hHeld => ?_)
      clear hK K
      refine take_to (i := 4) (d := 18) (v := ?_) rfl rfl (by kernel_rfl) (by kernel_rfl) (by kernel_rfl) (fun _ _ _ h => h) (Or.inl ⟨by rfl, ?_⟩) (by assumption) ?_
      rotate_left 1
      . intro W hSw
        obtain ⟨hc1, hc2⟩ := hSw
        obtain ⟨s0, s1, s2, s3⟩ := def_cells hc1
        obtain ⟨t0, t1, t2, t3⟩ := def_cells hc2
        go_simp
        with_reducible rfl
      simp only [Act.put, List.setIfInBounds_toArray, List.set_cons_zero, List.set_cons_succ]
      refine wpAnyH_ready (rs := [5]) (by kernel_rfl) (by simp) ?_
      refine AllReadyH.cons (o := { dst := some 19, op := Op.call { callee := Callee.builtin Builtin.append, args := #[Operand.tmp 15, Operand.tmp 18], argTypes := #[22, 22] }, type := 22, pos := "invert.go:81", after := #[{ on := 1, ground := Ground.data }, { on := 4, ground := Ground.data }, { on := 3, ground := Ground.chain }], guard := none }) rfl (fun K hK => ?_) AllReadyH.nil
      refine step_app_ops (w1 := wr.drew) rfl (.tmp 15) (.tmp 18) rfl (by rfl) (by rfl) (show OpsOwn wr.drew w.heap.size bo m j (repL l i) from HO.out) hb5 hO5 HBr.out.size hsz ?_
      intro ao6 c6 w6 hO6 hg6
      have hO5b := (show OpsOwn wr.drew w.heap.size bo m j (repL l i) from HO.out).below hb5
      have hkp : ∀ (x : Nat) (cs : Array Value), w5.heap[x]? = some (.cells cs 24 (0, 0)) -> w6.heap[x]? = some (.cells cs 24 (0, 0)) := fun x cs hx => (hg6.block x (Array.getElem?_eq_some_iff.1 hx).1 (hO5b.ne hx (by decide)).symm).trans hx
      have hS6 : (fun V => V.heap[w.heap.size]? = some (.cells #[.int .i64 q, .int .i64 b, .slice ao n k] 24 (0, 0)) /\ V.heap[w.heap.size + 1 + 1]? = some (.cells #[.int .i64 q, .int .i64 b, .slice bo m j] 24 (0, 0))) w6 := ⟨hkp _ _ hS5.1, hkp _ _ hS5.2⟩
      have n2 := hkp _ _ n1
      have hb6 : Below w.heap.size w w6 := (HBr.out.drew.trans (hb5.mono HBr.out.drew.size)).grown hg6 (HBr.out.drew.trans (hb5.mono HBr.out.drew.size)).size hO5b.blt
      refine hK.out _ _ hS6 (fun hHeld => ?_)
      clear hK K
      simp only [Act.put, List.setIfInBounds_toArray, List.set_cons_zero, List.set_cons_succ]
      refine take_to (i := 6) (d := 20) (v := ?_) rfl rfl (by kernel_rfl) (by kernel_rfl) (by kernel_rfl) (fun _ _ _ h => h) (Or.inl ⟨by rfl, ?_⟩) (by assumption) ?_
      rotate_left 1
      . intro W hSw
        obtain ⟨hc1, hc2⟩ := hSw
        obtain ⟨s0, s1, s2, s3⟩ := def_cells hc1
        obtain ⟨t0, t1, t2, t3⟩ := def_cells hc2
        go_simp
        with_reducible rfl
      simp only [Act.put, List.setIfInBounds_toArray, List.set_cons_zero, List.set_cons_succ]
      refine wpAnyH_done (by kernel_rfl) ?_ _
      refine ql_last17 (o := { dst := none, op := Op.store 22 (Operand.tmp 20) (Operand.tmp 19), type := 0, pos := "invert.go:81", after := #[{ on := 6, ground := Ground.data }, { on := 5, ground := Ground.data }, { on := 5, ground := Ground.chain }, { on := 0, ground := Ground.phase }, { on := 1, ground := Ground.phase }, { on := 2, ground := Ground.phase }, { on := 3, ground := Ground.phase }, { on := 4, ground := Ground.phase }, { on := 5, ground := Ground.phase }], guard := none }) rfl (fun K hK => ?_)
      obtain ⟨v0, v1, v2, v3⟩ := def_cells hS6.2
      have vf : ∀ x, w6.frozen? ⟨w.heap.size + 1 + 1, x, none⟩ = false := fun x => by simp [World.frozen?, hS6.2]
      have HF : Hid (Below w.heap.size w (w6.setRow (w.heap.size + 1 + 1) #[.int .i64 q, .int .i64 b, .slice ao6 (m + n) c6]) /\ (w6.setRow (w.heap.size + 1 + 1) #[.int .i64 q, .int .i64 b, .slice ao6 (m + n) c6]).heap[w.heap.size]? = some (.cells #[.int .i64 q, .int .i64 b, .slice ao n k] 24 (0, 0)) /\ (w6.setRow (w.heap.size + 1 + 1) #[.int .i64 q, .int .i64 b, .slice ao6 (m + n) c6]).heap[w.heap.size + 1]? = some (.cells #[.int .i64 0, .int .i64 0, .slice none 0 0] 24 (0, 0)) /\ ∃ (bo : Option Addr) (m2 j : Nat), m2 = (i + 1) * n /\ (w6.setRow (w.heap.size + 1 + 1) #[.int .i64 q, .int .i64 b, .slice ao6 (m + n) c6]).heap[w.heap.size + 1 + 1]? = some (.cells #[.int .i64 q, .int .i64 b, .slice bo m2 j] 24 (0, 0)) /\ OpsOwn (w6.setRow (w.heap.size + 1 + 1) #[.int .i64 q, .int .i64 b, .slice ao6 (m + n) c6]) w.heap.size bo m2 j (repL l (i + 1))) := hide (by
        have hrow := hO6.row hS6.2 (by decide) (by decide) #[.int .i64 q, .int .i64 b, .slice ao6 (m + n) c6]
        refine ⟨Below.row hb6 _ _ (by omega), (setRow_other _ _ _ _ (by omega)).trans hS6.1, (setRow_other _ _ _ _ (by omega)).trans n2, ao6, m + n, c6, ?_, setRow_heap _ _ _ _ _ _ hS6.2, hrow⟩
        rw [HME.out, Nat.add_mul, Nat.one_mul])
      have e6 : w6.setCell ⟨w.heap.size + 1 + 1, 2, none⟩ (.slice ao6 (m + n) c6) = w6.setRow (w.heap.size + 1 + 1) #[.int .i64 q, .int .i64 b, .slice ao6 (m + n) c6] := by
        rw [setCell_eq_setRow _ _ 2 _ _ _ _ hS6.2]
        rfl
      have HE6 := hide e6
      clear hS5 hS6 hO5 hO6 hb5 hg6 hb6 hkp n1 n2 e6 hO5b hHeld
      go_simp
      refine hK.out _ _ ?_
      clear hK K
      rw [HE6.out]
      go_wp2_with fail
      go_roundw
      case rel => exact ⟨i + 1, by go_num, by omega, HF.out⟩
      case measure => simp [Go.RowKit.intOf]; omega
    . obtain rfl : t = i := by omega
      have hd : decide ((t : Int) < (t : Int)) = false := decide_eq_false (by omega)
      obtain ⟨r0, r1, r2, r3⟩ := def_cells hm2
      have HM1 := hide hm1
      have HBr := hide hb
      have HO := hide hO
      have HME := hide hmm
      clear hb hm0 hm1 hm2 hO hmm
      go_wp2_with (refine wpList_store_row rfl _ _ _ rfl (w.heap.size + 1) _ rfl rfl _ _ HM1.out (by exact infoCi) (by rfl) (by simp [Value.oneCell']) ?_)
      refine bodyPost_ret (results_c rfl _ _ (w.heap.size + 1) _ _ _ _ rfl (setRow_heap _ _ _ _ _ _ HM1.out) Tryd.underlying24 rfl (by exact infoCi)) rfl ?_
      rw [← HME.out]
      exact ⟨bo, j, rfl, HO.out.row HM1.out (by decide) (by decide) _, Below.row HBr.out _ _ (by omega)⟩
end Go.Proofs.YtmkalhaegbnknaaDoor.Cir
namespace Go.Proofs.YtmkalhaegbnknaaDoor.Cir
open Go.RowKit Go.Shelf Go.Proofs.YtmkalhaegbnknaaDoor.Oct Go.Proofs.YtmkalhaegbnknaaDoor.Tok Go.Proofs.YtmkalhaegbnknaaDoor.Gt
theorem opC_one17 (p : COp) (v : Value) (h : v.oneCell' = true) : ∀ u ∈ opC (p, v), u.oneCell' = true := by
  intro u hu
  simp only [opC, List.mem_cons, List.not_mem_nil, or_false] at hu
  rcases hu with rfl | rfl | rfl | rfl | rfl | rfl
  all_goals first | rfl | exact h
theorem run_push17 {w : World} {B E0 n c : Nat} {ao : Option Addr} {l : List COp} (hO : OpsE w B E0 ao n c l) (hB : B <= E0) (hE : E0 <= w.heap.size) (p : COp) (v : Value) (hv : RowO w E0 v p.qs) (H : Nat) (hH : w.heap[H]? = some (.cells (opC (p, v)).toArray 41 (0, 0))) (hn : n <= 1000000000) (ty : TypeId) :
    ∃ g cap w', (Builtin.append_ #[22, 22] ty #[.slice ao n c, .slice (some ⟨H, 0, none⟩) 1 1]).run Tryd.prog w = .ok (.slice (some ⟨g, 0, none⟩) (n + 1) cap) w' /\ OpsOwn w' B (some ⟨g, 0, none⟩) (n + 1) cap (l ++ [p]) /\ w.grownBy w' (ob ao) := by
  obtain ⟨i0, hi, hz0, hz1, hz2⟩ := info_parts infoOp
  obtain ⟨xs, h1, h2, h3, h4, h5, h6⟩ := hO
  have hv1 : v.oneCell' = true := by
    obtain ⟨a, k, e, -⟩ := hv
    rw [e]
    rfl
  obtain ⟨v', w', hr, ho, hg, _, _⟩ := run_append_own_at (P := Tryd.prog) w B 22 ty 41 i0 _ 6 64 Tryd.underlying22 hi hz0 hz1 hz2 rfl (by decide) _ n _ h3 ⟨H, 0, none⟩ 1 1 (opC (p, v)) rfl (fun j u hu => by rw [Addr.add_lit, Nat.zero_add, cell_of_row _ _ _ _ _ _ hH]; simpa using hu) (opC_one17 p v hv1) (by unfold maxLen; omega) (by omega) (by omega)
  rw [ob_eq] at hg
  obtain ⟨g, cap, rfl⟩ : ∃ g cap, v' = .slice (some ⟨g, 0, none⟩) (n + 1) cap := by
    rcases ho.2 with ⟨e, e0⟩ | ⟨g', cap', cur', e, -⟩
    . omega
    . exact ⟨_, cap', e⟩
  refine ⟨g, cap, w', hr, OpsOwn.push h1 h2 h3 h4 h5 p v (hv.base hB) (fun x hx g1 e1 e2 => ?_) hg ho, hg⟩
  have q1 := h6 x hx g1 e1
  have q2 := (hv.lt e2).1
  omega
theorem step_push17 {ops : Array Oper} {o : Oper} {a : Act} {K : Act -> World -> Prop} {Q : Exit -> Act -> World -> Prop} {E : Prop} {w : World} (hgd : o.guard = none) (s x : Operand)
    (ho : o.op = .call { callee := .builtin .append, args := #[s, x], argTypes := #[22, 22] }) {B E0 n c : Nat} {ao : Option Addr} {l : List COp} (hO : OpsE w B E0 ao n c l) (hB : B <= E0) (hE : E0 <= w.heap.size) (p : COp) (v : Value) (hv : RowO w E0 v p.qs) (H : Nat) (hH : w.heap[H]? = some (.cells (opC (p, v)).toArray 41 (0, 0))) (hn : n <= 1000000000) (hs : a.eval s = .slice ao n c) (hx : a.eval x = .slice (some ⟨H, 0, none⟩) 1 1)
    (h : ∀ g cap w', OpsOwn w' B (some ⟨g, 0, none⟩) (n + 1) cap (l ++ [p]) -> w.grownBy w' (ob ao) -> K (a.put o.dst (.slice (some ⟨g, 0, none⟩) (n + 1) cap)) w') :
    if Region.wanted o (yielded ops a.tmps) = true then Oper.wp Tryd.prog o a w K Q else E := by
  have hw : Region.wanted o (yielded ops a.tmps) = true := by simp [Region.wanted, hgd]
  rw [if_pos hw]
  obtain ⟨g, cap, w', hr, h3, h4⟩ := run_push17 hO hB hE p v hv H hH hn o.type
  unfold Oper.wp execOp
  simp only [ho, resolve, invoke, builtin, Sem.run_bind, Sem.run_pure, Result.andThen_ok, List.map_toArray, List.map_cons, List.map_nil, hs, hx, hr]
  exact h g cap w' h3 h4
end Go.Proofs.YtmkalhaegbnknaaDoor.Cir
