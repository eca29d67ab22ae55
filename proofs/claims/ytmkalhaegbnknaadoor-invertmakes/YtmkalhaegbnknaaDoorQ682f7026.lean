import Derived.Test.YtmkalhaegbnknaaDoorQc71de461
import Derived.Test.YtmkalhaegbnknaaDoorQa9096737
set_option maxRecDepth 100000
set_option maxHeartbeats 4000000
namespace Go.Proofs.YtmkalhaegbnknaaDoor.Cir
open Go.RowKit Go.Shelf Go.Proofs.YtmkalhaegbnknaaDoor.Oct Go.Proofs.YtmkalhaegbnknaaDoor.Tok Go.Proofs.YtmkalhaegbnknaaDoor.Gt
theorem ifMx (a b : Int) : (if a < b then b else a) = max a b := by
  split <;> omega
theorem grown_refl (w : World) (row : Option Nat) : w.grownBy w row := ⟨rfl, rfl, rfl, Nat.le_refl _, fun _ _ _ => rfl⟩
theorem run_append_ops {w1 w : World} {B : Nat} {ao1 ao2 : Option Addr} {n1 c1 n2 c2 : Nat} {l1 l2 : List COp} (h1 : OpsOwn w1 B ao1 n1 c1 l1) (hb : Below w1.heap.size w1 w) (h2 : OpsOwn w w1.heap.size ao2 n2 c2 l2) (hB : B <= w1.heap.size) (hlen : n1 + n2 <= 2199023255552) (ty : TypeId) :
    ∃ ao cap w', (Builtin.append_ #[22, 22] ty #[.slice ao1 n1 c1, .slice ao2 n2 c2]).run Tryd.prog w = .ok (.slice ao (n1 + n2) cap) w' /\ OpsOwn w' B ao (n1 + n2) cap (l1 ++ l2) /\ w.grownBy w' (ob ao1) := by
  obtain ⟨i0, hi, hz0, hz1, hz2⟩ := info_parts infoOp
  obtain ⟨xs1, a1, a2, a3, a4, a5⟩ := h1
  obtain ⟨xs2, b1, b2, b3, b4, b5⟩ := h2
  have e3 := own_of_block a3 (fun k hk => hb.block k (own_lt a3 k hk).2)
  have e4 : ∀ x ∈ xs1, RowO w B x.2 x.1.qs := fun x hx => (a4 x hx).below hb
  have hcross : ∀ x ∈ xs1, ∀ y ∈ xs2, ∀ g, x.2.ownBlock = some g -> y.2.ownBlock = some g -> False := fun x hx y hy g hg1 hg2 => by
    have q1 := ((a4 x hx).lt hg1).2
    have q2 := ((b4 y hy).lt hg2).1
    omega
  have hPw : Pw (xs1 ++ xs2) := by
    unfold Pw
    rw [List.pairwise_append]
    exact ⟨a5, b5, hcross⟩
  have hsz := hb.size
  have fin : ∀ (w' : World) (ao : Option Addr) (cap : Nat), w'.ownsRow B 41 6 (.slice ao (n1 + n2) cap) (n1 + n2) (xs1.flatMap opC ++ xs2.flatMap opC) -> w.grownBy w' (ob ao1) -> OpsOwn w' B ao (n1 + n2) cap (l1 ++ l2) := fun w' ao cap ho hg => by
    have hno : ∀ (b : Nat) (cs : Array Value) (fr : Nat × Nat), w.heap[b]? = some (Obj.cells cs 3 fr) -> w'.heap[b]? = w.heap[b]? := fun b cs fr hbb => hg.block b (Array.getElem?_eq_some_iff.1 hbb).1 (own_ne e3 hbb (by decide)).symm
    refine ⟨xs1 ++ xs2, by rw [List.length_append, ← a1, ← b1], by rw [List.map_append, ← a2, ← b2], by rw [List.flatMap_append]; exact ho, fun x hx => ?_, hPw⟩
    rcases List.mem_append.1 hx with hx | hx
    . exact (e4 x hx).block hno
    . exact ((b4 x hx).base hB).block hno
  rcases b3.2 with ⟨hv, h0⟩ | ⟨g, cap2, cur, hv, -⟩
  . have hx2 : xs2 = [] := List.length_eq_zero_iff.1 (by rw [← b1]; exact h0)
    subst hx2
    rw [hv]
    subst h0
    refine ⟨ao1, c1, w, run_append_owned_none (P := Tryd.prog) (w := w) B _ ty _ i0 6 Tryd.underlying22 hi _ n1 _ e3, fin w ao1 c1 ?_ (grown_refl _ _), grown_refl _ _⟩
    simpa using e3
  . simp only [Value.slice.injEq] at hv
    obtain ⟨rfl, -, rfl⟩ := hv
    obtain ⟨v', w', hr, ho, hg, _, _⟩ := run_append_own_at (P := Tryd.prog) w B 22 ty 41 i0 _ 6 64 Tryd.underlying22 hi hz0 hz1 hz2 rfl (by decide) _ n1 _ e3 ⟨g, 0, none⟩ n2 c2 (xs2.flatMap opC) b3.1 (fun j u hu => by rw [Addr.add_lit, Nat.zero_add]; exact own_at b3 _ _ hu) (opC_one (w := w) fun x hx => (b4 x hx).isI) (by unfold maxLen; omega) (by omega) (by omega)
    rw [ob_eq] at hg
    obtain ⟨ao, cap, rfl⟩ : ∃ ao cap, v' = .slice ao (n1 + n2) cap := by
      rcases ho.2 with ⟨e, e0⟩ | ⟨g', cap', cur', e, -⟩
      . exact ⟨none, 0, by rw [e, e0]⟩
      . exact ⟨_, cap', e⟩
    exact ⟨ao, cap, w', hr, fin w' ao cap ho hg, hg⟩
theorem step_app_ops {ops : Array Oper} {o : Oper} {a : Act} {K : Act -> World -> Prop} {Q : Exit -> Act -> World -> Prop} {E : Prop} {w : World} (hgd : o.guard = none) (s x : Operand)
    (ho : o.op = .call { callee := .builtin .append, args := #[s, x], argTypes := #[22, 22] }) {w1 : World} {B : Nat} {ao1 ao2 : Option Addr} {n1 c1 n2 c2 : Nat} {l1 l2 : List COp} (hs : a.eval s = .slice ao1 n1 c1) (hx : a.eval x = .slice ao2 n2 c2)
    (h1 : OpsOwn w1 B ao1 n1 c1 l1) (hb : Below w1.heap.size w1 w) (h2 : OpsOwn w w1.heap.size ao2 n2 c2 l2) (hB : B <= w1.heap.size) (hlen : n1 + n2 <= 2199023255552)
    (h : ∀ ao cap w', OpsOwn w' B ao (n1 + n2) cap (l1 ++ l2) -> w.grownBy w' (ob ao1) -> K (a.put o.dst (.slice ao (n1 + n2) cap)) w') :
    if Region.wanted o (yielded ops a.tmps) = true then Oper.wp Tryd.prog o a w K Q else E := by
  have hw : Region.wanted o (yielded ops a.tmps) = true := by simp [Region.wanted, hgd]
  rw [if_pos hw]
  obtain ⟨ao, cap, w', hr, h3, h4⟩ := run_append_ops h1 hb h2 hB hlen o.type
  unfold Oper.wp execOp
  simp only [ho, resolve, invoke, builtin, Sem.run_bind, Sem.run_pure, Result.andThen_ok, List.map_toArray, List.map_cons, List.map_nil, hs, hx, hr]
  exact h ao cap w' h3 h4
theorem cAppendO (a b : Circ) (ao bo : Option Addr) (k j : Nat) (ha : (chkC a).2 = 0) (hb : (chkC b).2 = 0) (hl : a.ops.length + b.ops.length <= 4096) (hSa : Szs a.ops) (hSb : Szs b.ops) (w : World) (hT : Tb w) (hA : Ci w a ao k) (hB : Ci w b bo j) : Calls Tryd.prog 30 #[cV a ao k, cV b bo j] w fun e w' => ∃ (co : Option Addr) (cap : Nat), e = .returned (.tuple #[.agg #[.int .i64 (max a.q b.q), .int .i64 (max a.b b.b), .slice co (a.ops.length + b.ops.length) cap], .int .i64 0]) /\ OpsOwn w' w.heap.size co (a.ops.length + b.ops.length) cap (a.ops ++ b.ops) /\ Below w.heap.size w w' := by
  have c1 := fun V (h : Below w.heap.size w V) => cCheck a ao k V (hT.below h) (hA.below h)
  have c2 := fun V (h : Below w.heap.size w V) => cCheck b bo j V (hT.below h) (hB.below h)
  have c3 := fun V (h : Below w.heap.size w V) => cCopyOpsO a.ops ao k hSa V (hA.ops.below h)
  have c4 := fun V (h : Below w.heap.size w V) => cCopyOpsO b.ops bo j hSb V (hB.ops.below h)
  rw [ha] at c1
  rw [hb] at c2
  obtain ⟨q1, b1, l1⟩ := a
  obtain ⟨q2, b2, l2⟩ := b
  unfold cV at *
  simp only at *
  generalize (chkC ⟨q1, b1, l1⟩).1 = z1 at *
  generalize (chkC ⟨q2, b2, l2⟩).1 = z2 at *
  generalize hn1 : l1.length = n1 at *
  generalize hn2 : l2.length = n2 at *
  have hwr : IntKind.i64.wrap ((n1 : Int) + (n2 : Int)) = (n1 : Int) + (n2 : Int) := wrapN _ (by omega) (by omega)
  have d1 : decide ((n1 : Int) + (n2 : Int) > 4096) = false := decide_eq_false (by omega)
  have d2 : decide ((4096 : Int) < (n1 : Int) + (n2 : Int)) = false := decide_eq_false (by omega)
  obtain ⟨i0, hi, hz0, hz1, hz2⟩ := info_parts infoOp
  have HN2 := hide hn2
  clear hA hB hSa hSb ha hb hn1 hn2
  have hW : Below w.heap.size w (((w.alloc (.cells #[.int .i64 q1, .int .i64 b1, .slice ao n1 k] 24)).alloc (.cells #[.int .i64 q2, .int .i64 b2, .slice bo n2 j] 24)).alloc (.cells #[.int .i64 0, .int .i64 0, .slice none 0 0] 24)) /\ (((w.alloc (.cells #[.int .i64 q1, .int .i64 b1, .slice ao n1 k] 24)).alloc (.cells #[.int .i64 q2, .int .i64 b2, .slice bo n2 j] 24)).alloc (.cells #[.int .i64 0, .int .i64 0, .slice none 0 0] 24)).heap[w.heap.size]? = some (.cells #[.int .i64 q1, .int .i64 b1, .slice ao n1 k] 24) /\ (((w.alloc (.cells #[.int .i64 q1, .int .i64 b1, .slice ao n1 k] 24)).alloc (.cells #[.int .i64 q2, .int .i64 b2, .slice bo n2 j] 24)).alloc (.cells #[.int .i64 0, .int .i64 0, .slice none 0 0] 24)).heap[w.heap.size + 1]? = some (.cells #[.int .i64 q2, .int .i64 b2, .slice bo n2 j] 24) /\ (((w.alloc (.cells #[.int .i64 q1, .int .i64 b1, .slice ao n1 k] 24)).alloc (.cells #[.int .i64 q2, .int .i64 b2, .slice bo n2 j] 24)).alloc (.cells #[.int .i64 0, .int .i64 0, .slice none 0 0] 24)).heap[w.heap.size + 1 + 1]? = some (.cells #[.int .i64 0, .int .i64 0, .slice none 0 0] 24) := by
    refine ⟨(bnew _ _).trans (((bnew _ _).trans ((bnew _ _).mono (by simp))).mono (by simp)), (Below.heap_alloc _ _ _ (by simp; omega)).trans ((Below.heap_alloc _ _ _ (by simp)).trans (heap_alloc_new _ _)), (Below.heap_alloc _ _ _ (by simp)).trans ?_, ?_⟩
    . have := heap_alloc_new (w.alloc (.cells #[.int .i64 q1, .int .i64 b1, .slice ao n1 k] 24)) (.cells #[.int .i64 q2, .int .i64 b2, .slice bo n2 j] 24); simpa using this
    . have := heap_alloc_new ((w.alloc (.cells #[.int .i64 q1, .int .i64 b1, .slice ao n1 k] 24)).alloc (.cells #[.int .i64 q2, .int .i64 b2, .slice bo n2 j] 24)) (.cells #[.int .i64 0, .int .i64 0, .slice none 0 0] 24); simpa using this
  have HW := hide hW
  have HP : Hid (∀ V, Below (((w.alloc (.cells #[.int .i64 q1, .int .i64 b1, .slice ao n1 k] 24)).alloc (.cells #[.int .i64 q2, .int .i64 b2, .slice bo n2 j] 24)).alloc (.cells #[.int .i64 0, .int .i64 0, .slice none 0 0] 24)).heap.size (((w.alloc (.cells #[.int .i64 q1, .int .i64 b1, .slice ao n1 k] 24)).alloc (.cells #[.int .i64 q2, .int .i64 b2, .slice bo n2 j] 24)).alloc (.cells #[.int .i64 0, .int .i64 0, .slice none 0 0] 24)) V -> Below w.heap.size w V /\ V.heap[w.heap.size]? = some (.cells #[.int .i64 q1, .int .i64 b1, .slice ao n1 k] 24) /\ V.heap[w.heap.size + 1]? = some (.cells #[.int .i64 q2, .int .i64 b2, .slice bo n2 j] 24) /\ V.heap[w.heap.size + 1 + 1]? = some (.cells #[.int .i64 0, .int .i64 0, .slice none 0 0] 24) /\ w.heap.size + 3 <= V.heap.size) := hide (fun V h => ⟨hW.1.trans (h.mono hW.1.size), (h.block _ (by simp; omega)).trans hW.2.1, (h.block _ (by simp)).trans hW.2.2.1, (h.block _ (by simp)).trans hW.2.2.2, by have := h.size; simpa using this⟩)
  clear hW
  go_enter Tryd.func30, Tryd.ntmps30
  go_wp2_with (first
    | (go_at_call_of 18 (Value.agg #[.int .i64 q1, .int .i64 b1, .slice ao n1 k]); refine (c1 _ HW.out.1).mono ?_; clear c1; rintro e w1 ⟨rfl, hb1⟩; obtain ⟨p1, m1, m2, m3, m4⟩ := HP.out w1 hb1; obtain ⟨x0, x1, x2, x3⟩ := def_cells m1; obtain ⟨y0, y1, y2, y3⟩ := def_cells m2)
    | (go_at_call 18; refine (c2 _ p1).mono ?_; rintro e w2 ⟨rfl, hb2⟩; have hb2' := Below.trans hb1 (hb2.mono hb1.size); obtain ⟨p2, m1, m2, m3, m4⟩ := HP.out w2 hb2'; obtain ⟨x0, x1, x2, x3⟩ := def_cells m1; obtain ⟨y0, y1, y2, y3⟩ := def_cells m2))
  have hS0 : SAp w.heap.size q1 b1 q2 b2 (.slice ao n1 k) (.slice bo n2 j) w2.drew := ⟨x0, x1, x2, y0, y1, y2⟩
  have HM3 := hide m3
  have HP2 := hide p2
  have c3' := c3 w2.drew (p2.drew)
  refine wp_region_held_drew (S := SAp w.heap.size q1 b1 q2 b2 (.slice ao n1 k) (.slice bo n2 j)) (by kernel_rfl) hS0 (fun hHeld => ?_)
  refine take_to (i := 0) (d := 37) (v := ?_) rfl rfl (by kernel_rfl) (by kernel_rfl) (by kernel_rfl) (fun _ _ _ h => h) (Or.inl ⟨by rfl, ?_⟩) (by assumption) ?_
  rotate_left 1
  . intro W hSw
    obtain ⟨s0, s1, s2, t0, t1, t2⟩ := hSw
    go_simp
    with_reducible rfl
  simp only [Act.put, List.setIfInBounds_toArray, List.set_cons_zero, List.set_cons_succ]
  refine take_to (i := 1) (d := 38) (v := ?_) rfl rfl (by kernel_rfl) (by kernel_rfl) (by kernel_rfl) (fun _ _ _ h => h) (Or.inl ⟨by rfl, ?_⟩) (by assumption) ?_
  rotate_left 1
  . intro W hSw
    obtain ⟨s0, s1, s2, t0, t1, t2⟩ := hSw
    go_simp
    with_reducible rfl
  simp only [Act.put, List.setIfInBounds_toArray, List.set_cons_zero, List.set_cons_succ]
  refine take_to (i := 2) (d := 39) (v := ?_) rfl rfl (by kernel_rfl) (by kernel_rfl) (by kernel_rfl) (fun _ _ _ h => h) (Or.inl ⟨by rfl, ?_⟩) (by assumption) ?_
  rotate_left 1
  . intro W hSw
    obtain ⟨s0, s1, s2, t0, t1, t2⟩ := hSw
    go_simp
    with_reducible rfl
  simp only [Act.put, List.setIfInBounds_toArray, List.set_cons_zero, List.set_cons_succ]
  refine take_to (i := 3) (d := 40) (v := ?_) rfl rfl (by kernel_rfl) (by kernel_rfl) (by kernel_rfl) (fun _ _ _ h => h) (Or.inl ⟨by rfl, ?_⟩) (by assumption) ?_
  rotate_left 1
  . intro W hSw
    obtain ⟨s0, s1, s2, t0, t1, t2⟩ := hSw
    go_simp
    with_reducible rfl
  simp only [Act.put, List.setIfInBounds_toArray, List.set_cons_zero, List.set_cons_succ]
  refine take_to (i := 4) (d := 41) (v := ?_) rfl rfl (by kernel_rfl) (by kernel_rfl) (by kernel_rfl) (fun _ _ _ h => h) (Or.inl ⟨by rfl, ?_⟩) (by assumption) ?_
  rotate_left 1
  . intro W hSw
    obtain ⟨s0, s1, s2, t0, t1, t2⟩ := hSw
    go_simp
    with_reducible rfl
  simp only [Act.put, List.setIfInBounds_toArray, List.set_cons_zero, List.set_cons_succ]
  refine take_to (i := 5) (d := 42) (v := ?_) rfl rfl (by kernel_rfl) (by kernel_rfl) (by kernel_rfl) (fun _ _ _ h => h) (Or.inl ⟨by rfl, ?_⟩) (by assumption) ?_
  rotate_left 1
  . intro W hSw
    obtain ⟨s0, s1, s2, t0, t1, t2⟩ := hSw
    go_simp
    with_reducible rfl
  simp only [Act.put, List.setIfInBounds_toArray, List.set_cons_zero, List.set_cons_succ]
  refine take_to (i := 6) (d := 43) (v := ?_) rfl rfl (by kernel_rfl) (by kernel_rfl) (by kernel_rfl) (fun _ _ _ h => h) (Or.inl ⟨by rfl, ?_⟩) (by assumption) ?_
  rotate_left 1
  . intro W hSw
    obtain ⟨s0, s1, s2, t0, t1, t2⟩ := hSw
    go_simp
    with_reducible rfl
  simp only [Act.put, List.setIfInBounds_toArray, List.set_cons_zero, List.set_cons_succ]
  refine take_to (i := 7) (d := 44) (v := ?_) rfl rfl (by kernel_rfl) (by kernel_rfl) (by kernel_rfl) (fun _ _ _ h => h) (Or.inl ⟨by rfl, ?_⟩) (by assumption) ?_
  rotate_left 1
  . intro W hSw
    obtain ⟨s0, s1, s2, t0, t1, t2⟩ := hSw
    go_simp
    with_reducible rfl
  simp only [Act.put, List.setIfInBounds_toArray, List.set_cons_zero, List.set_cons_succ]
  refine take_to (i := 8) (d := 45) (v := ?_) rfl rfl (by kernel_rfl) (by kernel_rfl) (by kernel_rfl) (fun _ _ _ h => h) (Or.inl ⟨by rfl, ?_⟩) (by assumption) ?_
  rotate_left 1
  . intro W hSw
    obtain ⟨s0, s1, s2, t0, t1, t2⟩ := hSw
    go_simp
    with_reducible rfl
  simp only [Act.put, List.setIfInBounds_toArray, List.set_cons_zero, List.set_cons_succ]
  refine take_to (i := 9) (d := 46) (v := ?_) rfl rfl (by kernel_rfl) (by kernel_rfl) (by kernel_rfl) (fun _ _ _ h => h) (Or.inl ⟨by rfl, ?_⟩) (by assumption) ?_
  rotate_left 1
  . intro W hSw
    obtain ⟨s0, s1, s2, t0, t1, t2⟩ := hSw
    go_simp
    with_reducible rfl
  simp only [Act.put, List.setIfInBounds_toArray, List.set_cons_zero, List.set_cons_succ]
  try simp only [ifMx]
  refine take_to (i := 10) (d := 47) (v := ?_) rfl rfl (by kernel_rfl) (by kernel_rfl) (by kernel_rfl) (fun _ _ _ h => h) (Or.inl ⟨by rfl, ?_⟩) (by assumption) ?_
  rotate_left 1
  . intro W hSw
    obtain ⟨s0, s1, s2, t0, t1, t2⟩ := hSw
    go_simp
    with_reducible rfl
  simp only [Act.put, List.setIfInBounds_toArray, List.set_cons_zero, List.set_cons_succ]
  refine take_to (i := 11) (d := 48) (v := ?_) rfl rfl (by kernel_rfl) (by kernel_rfl) (by kernel_rfl) (fun _ _ _ h => h) (Or.inl ⟨by rfl, ?_⟩) (by assumption) ?_
  rotate_left 1
  . intro W hSw
    obtain ⟨s0, s1, s2, t0, t1, t2⟩ := hSw
    go_simp
    with_reducible rfl
  simp only [Act.put, List.setIfInBounds_toArray, List.set_cons_zero, List.set_cons_succ]
  refine take_to (i := 13) (d := 50) (v := ?_) rfl rfl (by kernel_rfl) (by kernel_rfl) (by kernel_rfl) (fun _ _ _ h => h) (Or.inl ⟨by rfl, ?_⟩) (by assumption) ?_
  rotate_left 1
  . intro W hSw
    obtain ⟨s0, s1, s2, t0, t1, t2⟩ := hSw
    go_simp
    with_reducible rfl
  simp only [Act.put, List.setIfInBounds_toArray, List.set_cons_zero, List.set_cons_succ]
  refine take_to (i := 14) (d := 51) (v := ?_) rfl rfl (by kernel_rfl) (by kernel_rfl) (by kernel_rfl) (fun _ _ _ h => h) (Or.inl ⟨by rfl, ?_⟩) (by assumption) ?_
  rotate_left 1
  . intro W hSw
    obtain ⟨s0, s1, s2, t0, t1, t2⟩ := hSw
    go_simp
    with_reducible rfl
  simp only [Act.put, List.setIfInBounds_toArray, List.set_cons_zero, List.set_cons_succ]
  refine wpAnyH_ready (rs := [12]) (by kernel_rfl) (by simp) ?_
  refine AllReadyH.cons (o := { dst := some 49, op := Op.call { callee := Callee.value (Operand.func 42), args := #[Operand.tmp 48], argTypes := #[22] }, type := 22, pos := "join.go:19", after := #[{ on := 11, ground := Ground.data }], guard := none }) rfl (fun K hK => ?_) AllReadyH.nil
  go_simp
  go_at_call 42
  refine Calls.mono c3' ?_
  rintro e w3 ⟨g3, rfl, hO3, hb3⟩
  go_wp2_with fail
  refine hK.out _ _ (SAp.kept (by assumption) (fun b _ hl => hb3.block b hl)) (fun hHeld => ?_)
  clear hK K
  refine wpAnyH_ready (rs := [15]) (by kernel_rfl) (by simp) ?_
  refine AllReadyH.cons (o := { dst := some 52, op := Op.call { callee := Callee.value (Operand.func 42), args := #[Operand.tmp 51], argTypes := #[22] }, type := 22, pos := "join.go:19", after := #[{ on := 14, ground := Ground.data }, { on := 12, ground := Ground.chain }], guard := none }) rfl (fun K hK => ?_) AllReadyH.nil
  have p3 : Below w.heap.size w w3 := HP2.out.trans ((show Below w2.heap.size w2 w3 from ⟨hb3.os, hb3.tape, hb3.output, hb3.size, hb3.block⟩).mono HP2.out.size)
  have c4' := c4 w3 p3
  go_simp
  go_at_call 42
  refine Calls.mono c4' ?_
  rintro e w4 ⟨g4, rfl, hO4, hb4⟩
  go_wp2_with fail
  refine hK.out _ _ (SAp.kept (by assumption) (fun b _ hl => hb4.block b hl)) (fun hHeld => ?_)
  clear hK K
  have hO5 := hO3.base (show w.heap.size <= w2.drew.heap.size from HP2.out.size)
  have z3 := hb3.size
  have z4 := hb4.size
  have m5 : w4.heap[w.heap.size + 1 + 1]? = some (.cells #[.int .i64 0, .int .i64 0, .slice none 0 0] 24) := (hb4.block _ (by have := (Array.getElem?_eq_some_iff.1 HM3.out).1; have : w2.heap.size <= w3.heap.size := z3; omega)).trans ((hb3.block _ (Array.getElem?_eq_some_iff.1 HM3.out).1).trans HM3.out)
  have hsv := hHeld
  refine wpAnyH_ready (rs := [16]) (by kernel_rfl) (by simp) ?_
  refine AllReadyH.cons (o := { dst := some 53, op := Op.call { callee := Callee.builtin Builtin.append, args := #[Operand.tmp 49, Operand.tmp 52], argTypes := #[22, 22] }, type := 22, pos := "join.go:16", after := #[{ on := 12, ground := Ground.data }, { on := 15, ground := Ground.data }, { on := 15, ground := Ground.chain }], guard := none }) rfl (fun K hK => ?_) AllReadyH.nil
  refine step_app_ops rfl (.tmp 49) (.tmp 52) rfl (by rfl) (by rfl) hO5 hb4 hO4 (show w.heap.size <= w3.heap.size by have := HP2.out.size; have : w2.heap.size <= w3.heap.size := z3; omega) (by omega) ?_
  intro g5 cap w5 hO6 hg5
  obtain ⟨ys1, -, -, hrow, -⟩ := hO5
  have hrow4 := own_of_block hrow (fun k' hk' => hb4.block k' (own_lt hrow k' hk').2)
  have hneb : ∀ (b : Nat) (cs : Array Value) (t : TypeId) (fr : Nat × Nat), w4.heap[b]? = some (Obj.cells cs t fr) -> t ≠ 41 -> w5.heap[b]? = w4.heap[b]? := fun b cs t fr hbb ht => hg5.block b (Array.getElem?_eq_some_iff.1 hbb).1 (own_ne hrow4 hbb ht).symm
  have p4 : Below w.heap.size w w4 := p3.trans (hb4.mono p3.size)
  have a4 : w4.heap[w.heap.size]? = some (.cells #[.int .i64 q1, .int .i64 b1, .slice ao n1 k] 24) := (HP.out w4 (by
    have := hb2'.trans ((show Below w2.heap.size w2 w3 from ⟨hb3.os, hb3.tape, hb3.output, hb3.size, hb3.block⟩).mono hb2'.size)
    exact this.trans (hb4.mono this.size))).2.1
  have b4 : w4.heap[w.heap.size + 1]? = some (.cells #[.int .i64 q2, .int .i64 b2, .slice bo n2 j] 24) := (HP.out w4 (by
    have := hb2'.trans ((show Below w2.heap.size w2 w3 from ⟨hb3.os, hb3.tape, hb3.output, hb3.size, hb3.block⟩).mono hb2'.size)
    exact this.trans (hb4.mono this.size))).2.2.1
  have hS5 : SAp w.heap.size q1 b1 q2 b2 (.slice ao n1 k) (.slice bo n2 j) w5 := hsv.kept fun b hbx _ => by
    rcases hbx with rfl | rfl
    . exact hneb _ _ _ _ a4 (by decide)
    . exact hneb _ _ _ _ b4 (by decide)
  have m6 := (hneb _ _ _ _ m5 (by decide)).trans m5
  obtain ⟨u0, u1, u2, u3⟩ := def_cells m6
  have uf : ∀ i, w5.frozen? ⟨w.heap.size + 1 + 1, i, none⟩ = false := fun i => by simp [World.frozen?, m6]
  have p5 : Below w.heap.size w w5 := p4.grown hg5 p4.size (fun q hq => by
    have := (own_lt hrow4 q hq).1
    exact this)
  refine hK.out _ _ hS5 (fun hHeld => ?_)
  clear hK K
  simp only [Act.put, List.setIfInBounds_toArray, List.set_cons_zero, List.set_cons_succ]
  refine take_to (i := 17) (d := 54) (v := ?_) rfl rfl (by kernel_rfl) (by kernel_rfl) (by kernel_rfl) (fun _ _ _ h => h) (Or.inl ⟨by rfl, ?_⟩) (by assumption) ?_
  rotate_left 1
  . intro W hSw
    obtain ⟨s0, s1, s2, t0, t1, t2⟩ := hSw
    go_simp
    with_reducible rfl
  simp only [Act.put, List.setIfInBounds_toArray, List.set_cons_zero, List.set_cons_succ]
  refine wpAnyH_ready (rs := [18]) (by kernel_rfl) (by simp) ?_
  refine AllReadyH.cons (o := { dst := none, op := Op.store 24 (Operand.tmp 4) (Operand.tmp 54), type := 0, pos := "join.go:16", after := #[{ on := 17, ground := Ground.data }, { on := 16, ground := Ground.chain }, { on := 0, ground := Ground.phase }, { on := 1, ground := Ground.phase }, { on := 2, ground := Ground.phase }, { on := 3, ground := Ground.phase }, { on := 4, ground := Ground.phase }, { on := 5, ground := Ground.phase }, { on := 6, ground := Ground.phase }, { on := 7, ground := Ground.phase }, { on := 8, ground := Ground.phase }, { on := 9, ground := Ground.phase }, { on := 10, ground := Ground.phase }, { on := 11, ground := Ground.phase }, { on := 12, ground := Ground.phase }, { on := 13, ground := Ground.phase }, { on := 14, ground := Ground.phase }, { on := 15, ground := Ground.phase }, { on := 16, ground := Ground.phase }, { on := 17, ground := Ground.phase }], guard := none }) rfl (fun K hK => ?_) AllReadyH.nil
  go_simp
  refine hK.out _ _ (SAp.kept (by assumption) (fun b hbx _ => by
    have hne : b ≠ w.heap.size + 1 + 1 := by omega
    rw [Below.heap_setCell _ _ _ _ hne, Below.heap_setCell _ _ _ _ hne, Below.heap_setCell _ _ _ _ hne])) (fun hHeld => ?_)
  clear hK K
  try simp only [Act.put, List.setIfInBounds_toArray, List.set_cons_zero, List.set_cons_succ]
  refine take_to (i := 19) (d := 5) (v := ?_) rfl rfl (by kernel_rfl) (by kernel_rfl) (by kernel_rfl) (fun _ _ _ h => h) (Or.inl ⟨by rfl, ?_⟩) (by assumption) ?_
  rotate_left 1
  . intro W hSw
    obtain ⟨s0, s1, s2, t0, t1, t2⟩ := hSw
    go_simp
    with_reducible rfl
  simp only [Act.put, List.setIfInBounds_toArray, List.set_cons_zero, List.set_cons_succ]
  refine wpAnyH_done (by kernel_rfl) ?_ _
  rw [c3_set w5 _ _ _ _ _ _ _ _ m6]
  try simp only [ifMx]
  go_wp2_with fail
  refine bodyPost_ret (results_ct rfl _ _ (w.heap.size + 1 + 1) _ #[.int .i64 (max q1 q2), .int .i64 (max b1 b2), .slice g5 (n1 + n2) cap] _ _ rfl (setRow_heap _ _ _ _ _ _ m6) Tryd.underlying24 rfl (by exact infoCi)) rfl ?_
  exact ⟨g5, cap, rfl, hO6.row m6 (by decide) (by decide) _, Below.row p5 _ _ (by omega)⟩
def nulC : Circ := ⟨0, 0, []⟩
theorem OpsOwn.nil (w : World) (B : Nat) : OpsOwn w B none 0 0 [] := ⟨[], rfl, rfl, ⟨rfl, .inl ⟨rfl, rfl⟩⟩, (fun _ h => absurd h List.not_mem_nil), List.Pairwise.nil⟩
def appP (a b : Circ) : Circ × Int := if (chkC a).2 = 0 /\ (chkC b).2 = 0 /\ a.ops.length + b.ops.length <= 4096 then (⟨max a.q b.q, max a.b b.b, a.ops ++ b.ops⟩, 0) else (nulC, 80)
theorem cAppend_no (a b : Circ) (ao bo : Option Addr) (k j : Nat) (hno : ¬ ((chkC a).2 = 0 /\ (chkC b).2 = 0 /\ a.ops.length + b.ops.length <= 4096)) (w : World) (hT : Tb w) (hA : Ci w a ao k) (hB : Ci w b bo j) : Calls Tryd.prog 30 #[cV a ao k, cV b bo j] w fun e w' => e = .returned (.tuple #[.agg #[.int .i64 0, .int .i64 0, .slice none 0 0], .int .i64 80]) /\ Below w.heap.size w w' := by
  have c1 := fun V (h : Below w.heap.size w V) => cCheck a ao k V (hT.below h) (hA.below h)
  have c2 := fun V (h : Below w.heap.size w V) => cCheck b bo j V (hT.below h) (hB.below h)
  have hl1 := hA.len
  have hl2 := hB.len
  obtain ⟨q1, b1, l1⟩ := a
  obtain ⟨q2, b2, l2⟩ := b
  unfold cV at *
  simp only at *
  generalize (chkC ⟨q1, b1, l1⟩).1 = z1 at *
  generalize (chkC ⟨q2, b2, l2⟩).1 = z2 at *
  generalize (chkC ⟨q1, b1, l1⟩).2 = e1 at *
  generalize (chkC ⟨q2, b2, l2⟩).2 = e2 at *
  generalize l1.length = n1 at *
  generalize l2.length = n2 at *
  have hwr : IntKind.i64.wrap ((n1 : Int) + (n2 : Int)) = (n1 : Int) + (n2 : Int) := wrapN _ (by omega) (by omega)
  clear hA hB hT
  have HW : Hid (Below w.heap.size w (((w.alloc (.cells #[.int .i64 q1, .int .i64 b1, .slice ao n1 k] 24)).alloc (.cells #[.int .i64 q2, .int .i64 b2, .slice bo n2 j] 24)).alloc (.cells #[.int .i64 0, .int .i64 0, .slice none 0 0] 24)) /\ (((w.alloc (.cells #[.int .i64 q1, .int .i64 b1, .slice ao n1 k] 24)).alloc (.cells #[.int .i64 q2, .int .i64 b2, .slice bo n2 j] 24)).alloc (.cells #[.int .i64 0, .int .i64 0, .slice none 0 0] 24)).heap[w.heap.size]? = some (.cells #[.int .i64 q1, .int .i64 b1, .slice ao n1 k] 24) /\ (((w.alloc (.cells #[.int .i64 q1, .int .i64 b1, .slice ao n1 k] 24)).alloc (.cells #[.int .i64 q2, .int .i64 b2, .slice bo n2 j] 24)).alloc (.cells #[.int .i64 0, .int .i64 0, .slice none 0 0] 24)).heap[w.heap.size + 1]? = some (.cells #[.int .i64 q2, .int .i64 b2, .slice bo n2 j] 24) /\ (((w.alloc (.cells #[.int .i64 q1, .int .i64 b1, .slice ao n1 k] 24)).alloc (.cells #[.int .i64 q2, .int .i64 b2, .slice bo n2 j] 24)).alloc (.cells #[.int .i64 0, .int .i64 0, .slice none 0 0] 24)).heap[w.heap.size + 1 + 1]? = some (.cells #[.int .i64 0, .int .i64 0, .slice none 0 0] 24)) := hide (by
    refine ⟨(bnew _ _).trans (((bnew _ _).trans ((bnew _ _).mono (by simp))).mono (by simp)), (Below.heap_alloc _ _ _ (by simp; omega)).trans ((Below.heap_alloc _ _ _ (by simp)).trans (heap_alloc_new _ _)), (Below.heap_alloc _ _ _ (by simp)).trans ?_, ?_⟩
    . have := heap_alloc_new (w.alloc (.cells #[.int .i64 q1, .int .i64 b1, .slice ao n1 k] 24)) (.cells #[.int .i64 q2, .int .i64 b2, .slice bo n2 j] 24); simpa using this
    . have := heap_alloc_new ((w.alloc (.cells #[.int .i64 q1, .int .i64 b1, .slice ao n1 k] 24)).alloc (.cells #[.int .i64 q2, .int .i64 b2, .slice bo n2 j] 24)) (.cells #[.int .i64 0, .int .i64 0, .slice none 0 0] 24); simpa using this)
  generalize hW0 : (((w.alloc (.cells #[.int .i64 q1, .int .i64 b1, .slice ao n1 k] 24)).alloc (.cells #[.int .i64 q2, .int .i64 b2, .slice bo n2 j] 24)).alloc (.cells #[.int .i64 0, .int .i64 0, .slice none 0 0] 24)) = W0 at HW
  have HP : Hid (∀ V, Below W0.heap.size W0 V -> Below w.heap.size w V /\ V.heap[w.heap.size]? = some (.cells #[.int .i64 q1, .int .i64 b1, .slice ao n1 k] 24) /\ V.heap[w.heap.size + 1]? = some (.cells #[.int .i64 q2, .int .i64 b2, .slice bo n2 j] 24) /\ V.heap[w.heap.size + 1 + 1]? = some (.cells #[.int .i64 0, .int .i64 0, .slice none 0 0] 24)) := hide (fun V h => ⟨HW.out.1.trans (h.mono HW.out.1.size), (h.block _ (Array.getElem?_eq_some_iff.1 HW.out.2.1).1).trans HW.out.2.1, (h.block _ (Array.getElem?_eq_some_iff.1 HW.out.2.2.1).1).trans HW.out.2.2.1, (h.block _ (Array.getElem?_eq_some_iff.1 HW.out.2.2.2).1).trans HW.out.2.2.2⟩)
  have HZ := hide hW0
  have HE : Hid (e1 ≠ 0 ∨ (e1 = 0 /\ e2 ≠ 0) ∨ (e1 = 0 /\ e2 = 0 /\ 4096 < n1 + n2)) := hide (by omega)
  clear hW0 hno
  rcases HE.out with h | ⟨h1, h⟩ | ⟨h1, h2, h⟩
  . have f1 : (e1 == 0) = false := by simpa using h
    have f2 : (e1 != 0) = true := by simpa using h
    clear h HE
    go_enter Tryd.func30, Tryd.ntmps30
    go_wp2_with fail
    rw [HZ.out]
    go_wp2_with (first
      | (go_at_call_of 18 (Value.agg #[.int .i64 q1, .int .i64 b1, .slice ao n1 k]); (with_reducible refine Calls.mono (c1 _ HW.out.1) ?_); rintro e w1 ⟨rfl, hb1⟩; obtain ⟨p1, m1, m2, m3⟩ := HP.out w1 hb1; obtain ⟨x0, x1, x2, x3⟩ := def_cells m1; obtain ⟨y0, y1, y2, y3⟩ := def_cells m2)
      | (go_at_call 18; (with_reducible refine Calls.mono (c2 _ p1) ?_); rintro e w2 ⟨rfl, hb2⟩; have hb2' := Below.trans hb1 (hb2.mono hb1.size); obtain ⟨p2, m1, m2, m3⟩ := HP.out w2 hb2'; obtain ⟨x0, x1, x2, x3⟩ := def_cells m1; obtain ⟨y0, y1, y2, y3⟩ := def_cells m2; obtain ⟨u0, u1, u2, u3⟩ := def_cells m3; have uf : ∀ i, w2.frozen? ⟨w.heap.size + 1 + 1, i, none⟩ = false := fun i => (by simp [World.frozen?, m3])))
    rw [c3_set w2 _ _ _ _ _ _ _ _ m3]
    refine bodyPost_ret (results_ct rfl _ _ (w.heap.size + 1 + 1) _ #[.int .i64 0, .int .i64 0, .slice none 0 0] _ _ rfl (setRow_heap _ _ _ _ _ _ m3) Tryd.underlying24 rfl (by exact infoCi)) rfl ?_
    exact ⟨rfl, Below.row p2 _ _ (by omega)⟩
  . have f1 : (e2 == 0) = false := by simpa using h
    have f2 : (e2 != 0) = true := by simpa using h
    subst h1
    clear h HE
    go_enter Tryd.func30, Tryd.ntmps30
    go_wp2_with fail
    rw [HZ.out]
    go_wp2_with (first
      | (go_at_call_of 18 (Value.agg #[.int .i64 q1, .int .i64 b1, .slice ao n1 k]); (with_reducible refine Calls.mono (c1 _ HW.out.1) ?_); rintro e w1 ⟨rfl, hb1⟩; obtain ⟨p1, m1, m2, m3⟩ := HP.out w1 hb1; obtain ⟨x0, x1, x2, x3⟩ := def_cells m1; obtain ⟨y0, y1, y2, y3⟩ := def_cells m2)
      | (go_at_call 18; (with_reducible refine Calls.mono (c2 _ p1) ?_); rintro e w2 ⟨rfl, hb2⟩; have hb2' := Below.trans hb1 (hb2.mono hb1.size); obtain ⟨p2, m1, m2, m3⟩ := HP.out w2 hb2'; obtain ⟨x0, x1, x2, x3⟩ := def_cells m1; obtain ⟨y0, y1, y2, y3⟩ := def_cells m2; obtain ⟨u0, u1, u2, u3⟩ := def_cells m3; have uf : ∀ i, w2.frozen? ⟨w.heap.size + 1 + 1, i, none⟩ = false := fun i => (by simp [World.frozen?, m3])))
    rw [c3_set w2 _ _ _ _ _ _ _ _ m3]
    refine bodyPost_ret (results_ct rfl _ _ (w.heap.size + 1 + 1) _ #[.int .i64 0, .int .i64 0, .slice none 0 0] _ _ rfl (setRow_heap _ _ _ _ _ _ m3) Tryd.underlying24 rfl (by exact infoCi)) rfl ?_
    exact ⟨rfl, Below.row p2 _ _ (by omega)⟩
  . subst h1
    subst h2
    have d1 : decide ((n1 : Int) + (n2 : Int) > 4096) = true := decide_eq_true (by omega)
    have d2 : decide ((4096 : Int) < (n1 : Int) + (n2 : Int)) = true := decide_eq_true (by omega)
    clear h HE
    go_enter Tryd.func30, Tryd.ntmps30
    go_wp2_with fail
    rw [HZ.out]
    go_wp2_with (first
      | (go_at_call_of 18 (Value.agg #[.int .i64 q1, .int .i64 b1, .slice ao n1 k]); (with_reducible refine Calls.mono (c1 _ HW.out.1) ?_); rintro e w1 ⟨rfl, hb1⟩; obtain ⟨p1, m1, m2, m3⟩ := HP.out w1 hb1; obtain ⟨x0, x1, x2, x3⟩ := def_cells m1; obtain ⟨y0, y1, y2, y3⟩ := def_cells m2)
      | (go_at_call 18; (with_reducible refine Calls.mono (c2 _ p1) ?_); rintro e w2 ⟨rfl, hb2⟩; have hb2' := Below.trans hb1 (hb2.mono hb1.size); obtain ⟨p2, m1, m2, m3⟩ := HP.out w2 hb2'; obtain ⟨x0, x1, x2, x3⟩ := def_cells m1; obtain ⟨y0, y1, y2, y3⟩ := def_cells m2; obtain ⟨u0, u1, u2, u3⟩ := def_cells m3; have uf : ∀ i, w2.frozen? ⟨w.heap.size + 1 + 1, i, none⟩ = false := fun i => (by simp [World.frozen?, m3])))
    rw [c3_set w2 _ _ _ _ _ _ _ _ m3]
    refine bodyPost_ret (results_ct rfl _ _ (w.heap.size + 1 + 1) _ #[.int .i64 0, .int .i64 0, .slice none 0 0] _ _ rfl (setRow_heap _ _ _ _ _ _ m3) Tryd.underlying24 rfl (by exact infoCi)) rfl ?_
    exact ⟨rfl, Below.row p2 _ _ (by omega)⟩
theorem cAppendA (a b : Circ) (ao bo : Option Addr) (k j : Nat) (hSa : Szs a.ops) (hSb : Szs b.ops) (w : World) (hT : Tb w) (hA : Ci w a ao k) (hB : Ci w b bo j) : Calls Tryd.prog 30 #[cV a ao k, cV b bo j] w fun e w' => ∃ (co : Option Addr) (cap : Nat), e = .returned (.tuple #[cV (appP a b).1 co cap, .int .i64 (appP a b).2]) /\ OpsOwn w' w.heap.size co (appP a b).1.ops.length cap (appP a b).1.ops /\ Below w.heap.size w w' := by
  unfold appP
  by_cases h : (chkC a).2 = 0 /\ (chkC b).2 = 0 /\ a.ops.length + b.ops.length <= 4096
  . rw [if_pos h]
    refine (cAppendO a b ao bo k j h.1 h.2.1 h.2.2 hSa hSb w hT hA hB).mono ?_
    rintro e w' ⟨co, cap, rfl, hO, hb⟩
    exact ⟨co, cap, by unfold cV; simp only [List.length_append], by simpa only [List.length_append] using hO, hb⟩
  . rw [if_neg h]
    refine (cAppend_no a b ao bo k j h w hT hA hB).mono ?_
    rintro e w' ⟨rfl, hb⟩
    exact ⟨none, 0, rfl, OpsOwn.nil _ _, hb⟩
theorem opC_len (x : COp × Value) : (opC x).length = 6 := rfl
theorem flat_set (xs : List (COp × Value)) : ∀ (i : Nat) (x x' : COp × Value) (j : Nat) (u : Value), xs[i]? = some x -> j < 6 -> opC x' = (opC x).set j u -> (xs.flatMap opC).set (i * 6 + j) u = (xs.set i x').flatMap opC := by
  induction xs with
  | nil => intro i x x' j u h; simp at h
  | cons a r ih =>
    intro i x x' j u h hj hx
    cases i with
    | zero =>
      simp at h
      subst h
      rw [List.set_cons_zero, List.flatMap_cons, List.flatMap_cons, hx, Nat.zero_mul, Nat.zero_add, List.set_append_left _ _ (by rw [opC_len]; exact hj)]
    | succ i =>
      rw [List.set_cons_succ, List.flatMap_cons, List.flatMap_cons, List.set_append_right _ _ (by rw [opC_len]; omega), opC_len, show (i + 1) * 6 + j - 6 = i * 6 + j by omega, ih i x x' j u (by simpa using h) hj hx]
theorem Pw.set {xs : List (COp × Value)} (h : Pw xs) {i : Nat} {x : COp × Value} (hx : xs[i]? = some x) (o : COp) : Pw (xs.set i (o, x.2)) := by
  have key : ∀ ys : List (COp × Value), Pw ys ↔ (ys.map (·.2)).Pairwise (fun a b => ∀ g, a.ownBlock = some g -> b.ownBlock = some g -> False) := fun ys => by unfold Pw; rw [List.pairwise_map]
  rw [key] at h ⊢
  have e : (xs.set i (o, x.2)).map (·.2) = xs.map (·.2) := by
    rw [List.map_set]
    apply List.ext_getElem?
    intro j
    rw [List.getElem?_set]
    split
    . rename_i e
      subst e
      split
      . rw [List.getElem?_map, hx]; rfl
      . rename_i hn
        rw [List.getElem?_eq_none (by omega)]
    . rfl
  rw [e]
  exact h
theorem Pw.apart {xs : List (COp × Value)} (h : Pw xs) {i j : Nat} {x y : COp × Value} (hx : xs[i]? = some x) (hy : xs[j]? = some y) (hne : i ≠ j) (g : Nat) (h1 : x.2.ownBlock = some g) (h2 : y.2.ownBlock = some g) : False := by
  unfold Pw at h
  rw [List.pairwise_iff_getElem] at h
  obtain ⟨hi, rfl⟩ := List.getElem?_eq_some_iff.1 hx
  obtain ⟨hj, rfl⟩ := List.getElem?_eq_some_iff.1 hy
  rcases Nat.lt_or_gt_of_ne hne with hlt | hlt
  . exact h i j hi hj hlt g h1 h2
  . exact h j i hj hi hlt g h2 h1
theorem mem_set {α : Type} {l : List α} {i : Nat} {a x : α} (h : x ∈ l.set i a) : x = a ∨ ∃ j, j ≠ i /\ l[j]? = some x := by
  obtain ⟨j, hj, e⟩ := List.getElem_of_mem h
  have e' : (l.set i a)[j]? = some x := by rw [List.getElem?_eq_getElem hj, e]
  rw [List.getElem?_set] at e'
  split at e'
  . left
    have e2 := e'
    simp at e2
    exact e2.2.symm
  . rename_i hij
    exact .inr ⟨j, fun e => hij e.symm, e'⟩
end Go.Proofs.YtmkalhaegbnknaaDoor.Cir
