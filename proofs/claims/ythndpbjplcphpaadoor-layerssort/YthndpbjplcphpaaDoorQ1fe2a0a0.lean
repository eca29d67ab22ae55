import Derived.Test.YthndpbjplcphpaaDoorQ0b2acd5b
set_option maxRecDepth 100000
set_option maxHeartbeats 16000000
namespace Go.Proofs.YthndpbjplcphpaaDoor.Lay
open Go.RowKit Go.Shelf Go.Proofs.YthndpbjplcphpaaDoor.Oct Go.Proofs.YthndpbjplcphpaaDoor.Tok Go.Proofs.YthndpbjplcphpaaDoor.Gt Go.Proofs.YthndpbjplcphpaaDoor.Cir
theorem wG19 (kk : Int) (ao : Option Addr) (n c : Nat) (w : World) : Calls Tryd.prog 59 #[.int .i64 kk, .slice ao n c] w fun e w' => e = .returned (.agg #[.int .i64 1, .int .i64 kk, .slice ao n c, .int .i64 0, .int .i64 (-1), .int .i64 0]) /\ Below w.heap.size w w' := by
  have HM : Hid ((w.alloc (.cells #[.int .i64 0, .int .i64 0, .slice none 0 0, .int .i64 0, .int .i64 0, .int .i64 0] 57)).heap[w.heap.size]? = some (.cells #[.int .i64 0, .int .i64 0, .slice none 0 0, .int .i64 0, .int .i64 0, .int .i64 0] 57 (0, 0))) := hide (heap_alloc_new _ _)
  go_enter Tryd.func59, Tryd.ntmps59
  go_wp2_with (refine wpList_store_row rfl _ _ _ rfl w.heap.size _ rfl rfl _ _ HM.out (by exact infoO6) (by rfl) (by simp [Value.oneCell']) ?_)
  refine bodyPost_ret (results_c rfl _ _ w.heap.size _ _ _ _ rfl (setRow_heap _ _ _ _ _ _ HM.out) Tryd.underlying57 rfl (by exact infoO6)) rfl ?_
  exact ⟨rfl, Below.row (bnew _ _) _ _ (Nat.le_refl _)⟩
def exO : Array Oper := #[{ dst := some 4, op := Op.buildSlice 25 1 #[(0, Operand.const (Value.int IntKind.i64 0))], type := 25, pos := "law.go:20", after := #[], guard := none }, { dst := some 5, op := Op.call { callee := Callee.value (Operand.func 59), args := #[Operand.const (Value.int IntKind.i64 2), Operand.tmp 4], argTypes := #[55, 25] }, type := 57, pos := "law.go:20", after := #[{ on := 0, ground := Ground.data }], guard := none }, { dst := some 6, op := Op.buildSlice 25 2 #[(0, Operand.const (Value.int IntKind.i64 0)), (1, Operand.const (Value.int IntKind.i64 1))], type := 25, pos := "law.go:20", after := #[], guard := none }, { dst := some 7, op := Op.call { callee := Callee.value (Operand.func 59), args := #[Operand.const (Value.int IntKind.i64 11), Operand.tmp 6], argTypes := #[55, 25] }, type := 57, pos := "law.go:20", after := #[{ on := 2, ground := Ground.data }, { on := 1, ground := Ground.chain }], guard := none }, { dst := some 8, op := Op.buildSlice 25 1 #[(0, Operand.const (Value.int IntKind.i64 2))], type := 25, pos := "law.go:20", after := #[], guard := none }, { dst := some 9, op := Op.call { callee := Callee.value (Operand.func 59), args := #[Operand.const (Value.int IntKind.i64 2), Operand.tmp 8], argTypes := #[55, 25] }, type := 57, pos := "law.go:20", after := #[{ on := 4, ground := Ground.data }, { on := 3, ground := Ground.chain }], guard := none }, { dst := some 10, op := Op.load 57 (Operand.tmp 1), type := 57, pos := "law.go:20", after := #[], guard := none }, { dst := some 11, op := Op.buildSlice 25 1 #[(0, Operand.const (Value.int IntKind.i64 2))], type := 25, pos := "law.go:20", after := #[], guard := none }, { dst := some 12, op := Op.call { callee := Callee.value (Operand.func 59), args := #[Operand.const (Value.int IntKind.i64 2), Operand.tmp 11], argTypes := #[55, 25] }, type := 57, pos := "law.go:20", after := #[{ on := 7, ground := Ground.data }, { on := 5, ground := Ground.chain }], guard := none }, { dst := some 13, op := Op.buildSlice 22 5 #[(0, Operand.tmp 5), (1, Operand.tmp 7), (2, Operand.tmp 9), (3, Operand.tmp 10), (4, Operand.tmp 12)], type := 22, pos := "law.go:20", after := #[{ on := 1, ground := Ground.data }, { on := 3, ground := Ground.data }, { on := 5, ground := Ground.data }, { on := 6, ground := Ground.data }, { on := 8, ground := Ground.data }], guard := none }, { dst := some 14, op := Op.build 24 #[(0, Operand.const (Value.int IntKind.i64 3)), (2, Operand.tmp 13)], type := 24, pos := "law.go:20", after := #[{ on := 9, ground := Ground.data }], guard := none }, { dst := none, op := Op.store 24 (Operand.tmp 0) (Operand.tmp 14), type := 0, pos := "law.go:20", after := #[{ on := 10, ground := Ground.data }, { on := 8, ground := Ground.chain }, { on := 0, ground := Ground.phase }, { on := 1, ground := Ground.phase }, { on := 2, ground := Ground.phase }, { on := 3, ground := Ground.phase }, { on := 4, ground := Ground.phase }, { on := 5, ground := Ground.phase }, { on := 6, ground := Ground.phase }, { on := 7, ground := Ground.phase }, { on := 8, ground := Ground.phase }, { on := 9, ground := Ground.phase }, { on := 10, ground := Ground.phase }], guard := none }]
def exL : List COp := [⟨1, 2, [0], 0, -1, 0⟩, ⟨1, 11, [0, 1], 0, -1, 0⟩, ⟨1, 2, [2], 0, -1, 0⟩, ⟨4, 0, [1, 2], 0, -1, 0⟩, ⟨1, 2, [2], 0, -1, 0⟩]
def exC : Circ := ⟨3, 0, exL⟩
theorem kp {V V' : World} (hb : Below V.heap.size V V') {i : Nat} {o : Obj} (h : V.heap[i]? = some o) : V'.heap[i]? = some o := (hb.block _ (Array.getElem?_eq_some_iff.1 h).1).trans h
structure ExS (w : World) (gB gb : Nat) (V : World) : Prop where
  bel : Below w.heap.size w V
  bar : V.heap[gB]? = some (.cells #[.int .i64 4, .int .i64 0, .slice (some ⟨gb, 0, none⟩) 2 2, .int .i64 0, .int .i64 (-1), .int .i64 0] 57 (0, 0))
  row : V.heap[gb]? = some (.cells #[.int .i64 1, .int .i64 2] 3 (0, 0))
theorem ExS.keep {w V V' : World} {gB gb : Nat} (h : ExS w gB gb V) (hb : Below V.heap.size V V') : ExS w gB gb V' := ⟨h.bel.trans (hb.mono h.bel.size), kp hb h.bar, kp hb h.row⟩
theorem ExS.row' {w V : World} {gB gb gZ : Nat} (h : ExS w gB gb V) (cs : Array Value) (hZ : w.heap.size <= gZ) (h1 : gB ≠ gZ) (h2 : gb ≠ gZ) : ExS w gB gb (V.setRow gZ cs) := ⟨Below.row h.bel _ _ hZ, (setRow_other _ _ _ _ h1).trans h.bar, (setRow_other _ _ _ _ h2).trans h.row⟩
theorem ns_cells {V : World} {g : Nat} {l : List Int} {t : TypeId} {m : Nat × Nat} (h : V.heap[g]? = some (.cells (l.map fun z => Value.int .i64 z).toArray t m)) : Ns V (some ⟨g, 0, none⟩) l := .inr ⟨g, 0, rfl, fun j z hj => (cell_of_row _ _ _ _ _ _ h).trans (by simp [hj])⟩
theorem oc_row {V : World} {g off : Nat} {cs : Array Value} {t : TypeId} {m : Nat × Nat} (h : V.heap[g]? = some (.cells cs t m)) (o : COp) (aq : Option Addr) (cq : Nat) (hc : o.qs.length <= cq) (hn : Ns V aq o.qs) (h0 : cs[off]? = some (.int .i64 o.kind)) (h1 : cs[off + 1]? = some (.int .i64 o.gate)) (h2 : cs[off + 2]? = some (.slice aq o.qs.length cq)) (h3 : cs[off + 3]? = some (.int .i64 o.bit)) (h4 : cs[off + 4]? = some (.int .i64 o.cond)) (h5 : cs[off + 5]? = some (.int .i64 o.whn)) : Oc V g off o aq cq :=
  ⟨(cell_of_row _ _ _ _ _ _ h).trans h0, (cell_of_row _ _ _ _ _ _ h).trans h1, (cell_of_row _ _ _ _ _ _ h).trans h2, (cell_of_row _ _ _ _ _ _ h).trans h3, (cell_of_row _ _ _ _ _ _ h).trans h4, (cell_of_row _ _ _ _ _ _ h).trans h5, hc, hn⟩
theorem ExS.oc {w V : World} {gB gb : Nat} (h : ExS w gB gb V) : Oc V gB 0 ⟨4, 0, [1, 2], 0, -1, 0⟩ (some ⟨gb, 0, none⟩) 2 := oc_row h.bar _ _ _ (Nat.le_refl _) (ns_cells h.row) rfl rfl rfl rfl rfl rfl
theorem ex_reg (Q : Exit -> Act -> World -> Prop) (w W0 : World) (gZ gB gb : Nat) (hZ : w.heap.size <= gZ) (hzB : gB ≠ gZ) (hzb : gb ≠ gZ) (hS0 : ExS w gB gb W0) (hZr : W0.heap[gZ]? = some (.cells #[.int .i64 0, .int .i64 0, .slice none 0 0] 24 (0, 0)))
    (hfin : ∀ (V : World) (x1 x2 x3 x4 : Nat), ExS w gB gb V -> V.heap[gZ]? = some (.cells #[.int .i64 0, .int .i64 0, .slice none 0 0] 24 (0, 0)) -> V.heap[x1]? = some (.cells #[.int .i64 0] 3 (0, 0)) -> V.heap[x2]? = some (.cells #[.int .i64 0, .int .i64 1] 3 (0, 0)) -> V.heap[x3]? = some (.cells #[.int .i64 2] 3 (0, 0)) -> V.heap[x4]? = some (.cells #[.int .i64 2] 3 (0, 0)) -> Q .normal { tmps := #[.pointer (some ⟨gZ, 0, none⟩), .pointer (some ⟨gB, 0, none⟩), .slice (some ⟨gb, 0, none⟩) 2 2, .agg #[.int .i64 4, .int .i64 0, .slice (some ⟨gb, 0, none⟩) 2 2, .int .i64 0, .int .i64 (-1), .int .i64 0], .slice (some ⟨x1, 0, none⟩) 1 1, .agg #[.int .i64 1, .int .i64 2, .slice (some ⟨x1, 0, none⟩) 1 1, .int .i64 0, .int .i64 (-1), .int .i64 0], .slice (some ⟨x2, 0, none⟩) 2 2, .agg #[.int .i64 1, .int .i64 11, .slice (some ⟨x2, 0, none⟩) 2 2, .int .i64 0, .int .i64 (-1), .int .i64 0], .slice (some ⟨x3, 0, none⟩) 1 1, .agg #[.int .i64 1, .int .i64 2, .slice (some ⟨x3, 0, none⟩) 1 1, .int .i64 0, .int .i64 (-1), .int .i64 0], .agg #[.int .i64 4, .int .i64 0, .slice (some ⟨gb, 0, none⟩) 2 2, .int .i64 0, .int .i64 (-1), .int .i64 0], .slice (some ⟨x4, 0, none⟩) 1 1, .agg #[.int .i64 1, .int .i64 2, .slice (some ⟨x4, 0, none⟩) 1 1, .int .i64 0, .int .i64 (-1), .int .i64 0], .slice (some ⟨V.heap.size, 0, none⟩) 5 5, .agg #[.int .i64 3, .int .i64 0, .slice (some ⟨V.heap.size, 0, none⟩) 5 5]], defers := [] } ((V.alloc (.cells #[.int .i64 1, .int .i64 2, .slice (some ⟨x1, 0, none⟩) 1 1, .int .i64 0, .int .i64 (-1), .int .i64 0, .int .i64 1, .int .i64 11, .slice (some ⟨x2, 0, none⟩) 2 2, .int .i64 0, .int .i64 (-1), .int .i64 0, .int .i64 1, .int .i64 2, .slice (some ⟨x3, 0, none⟩) 1 1, .int .i64 0, .int .i64 (-1), .int .i64 0, .int .i64 4, .int .i64 0, .slice (some ⟨gb, 0, none⟩) 2 2, .int .i64 0, .int .i64 (-1), .int .i64 0, .int .i64 1, .int .i64 2, .slice (some ⟨x4, 0, none⟩) 1 1, .int .i64 0, .int .i64 (-1), .int .i64 0] 57)).setRow gZ #[.int .i64 3, .int .i64 0, .slice (some ⟨V.heap.size, 0, none⟩) 5 5])) : (Code.region 2 exO true).wp Tryd.prog (NQ Q) { tmps := #[.pointer (some ⟨gZ, 0, none⟩), .pointer (some ⟨gB, 0, none⟩), .slice (some ⟨gb, 0, none⟩) 2 2, .agg #[.int .i64 4, .int .i64 0, .slice (some ⟨gb, 0, none⟩) 2 2, .int .i64 0, .int .i64 (-1), .int .i64 0], undef, undef, undef, undef, undef, undef, undef, undef, undef, undef, undef], defers := [] } W0 := by
  have h4_0123 : ∀ (V : World) (x1 x2 x3 x4 : Nat), Hid (ExS w gB gb V) -> Hid (V.heap[gZ]? = some (.cells #[.int .i64 0, .int .i64 0, .slice none 0 0] 24 (0, 0))) -> Hid (V.heap[x1]? = some (.cells #[.int .i64 0] 3 (0, 0))) -> Hid (V.heap[x2]? = some (.cells #[.int .i64 0, .int .i64 1] 3 (0, 0))) -> Hid (V.heap[x3]? = some (.cells #[.int .i64 2] 3 (0, 0))) -> Hid (V.heap[x4]? = some (.cells #[.int .i64 2] 3 (0, 0))) -> ∀ ls, ls = #[true, true, true, true, true, true, true, true, true, false, false, false] -> wpAnyH Tryd.prog .any exO (NQ Q) (ExS w gB gb) 3 ls { tmps := #[.pointer (some ⟨gZ, 0, none⟩), .pointer (some ⟨gB, 0, none⟩), .slice (some ⟨gb, 0, none⟩) 2 2, .agg #[.int .i64 4, .int .i64 0, .slice (some ⟨gb, 0, none⟩) 2 2, .int .i64 0, .int .i64 (-1), .int .i64 0], .slice (some ⟨x1, 0, none⟩) 1 1, .agg #[.int .i64 1, .int .i64 2, .slice (some ⟨x1, 0, none⟩) 1 1, .int .i64 0, .int .i64 (-1), .int .i64 0], .slice (some ⟨x2, 0, none⟩) 2 2, .agg #[.int .i64 1, .int .i64 11, .slice (some ⟨x2, 0, none⟩) 2 2, .int .i64 0, .int .i64 (-1), .int .i64 0], .slice (some ⟨x3, 0, none⟩) 1 1, .agg #[.int .i64 1, .int .i64 2, .slice (some ⟨x3, 0, none⟩) 1 1, .int .i64 0, .int .i64 (-1), .int .i64 0], .agg #[.int .i64 4, .int .i64 0, .slice (some ⟨gb, 0, none⟩) 2 2, .int .i64 0, .int .i64 (-1), .int .i64 0], .slice (some ⟨x4, 0, none⟩) 1 1, .agg #[.int .i64 1, .int .i64 2, .slice (some ⟨x4, 0, none⟩) 1 1, .int .i64 0, .int .i64 (-1), .int .i64 0], undef, undef], defers := [] } V := by
    intro V x1 x2 x3 x4 HB HZ H1 H2 H3 H4 ls hl
    subst hl
    refine wpAnyH_ready (rs := [9]) (by kernel_rfl) (by simp) ?_
    refine AllReadyH.cons (o := { dst := some 13, op := Op.buildSlice 22 5 #[(0, Operand.tmp 5), (1, Operand.tmp 7), (2, Operand.tmp 9), (3, Operand.tmp 10), (4, Operand.tmp 12)], type := 22, pos := "law.go:20", after := #[{ on := 1, ground := Ground.data }, { on := 3, ground := Ground.data }, { on := 5, ground := Ground.data }, { on := 6, ground := Ground.data }, { on := 8, ground := Ground.data }], guard := none }) rfl (fun K hK => ?_) AllReadyH.nil
    go_simp
    refine hK.out _ _ (show (ExS w gB gb) _ from HB.out.keep (bnew V _)) (fun hHeld => ?_)
    clear hK K
    simp only [List.setIfInBounds_toArray, List.set_cons_zero, List.set_cons_succ]
    refine take_to (i := 10) (d := 14) (v := ?_) rfl rfl (by kernel_rfl) (by kernel_rfl) (by kernel_rfl) (fun _ _ _ h => h) (Or.inl ⟨by rfl, ?_⟩) (by assumption) ?_
    rotate_left 1
    . intro W hSw
      unfold exO
      go_simp
      with_reducible rfl
    simp only [Act.put, List.setIfInBounds_toArray, List.set_cons_zero, List.set_cons_succ]
    refine wpAnyH_ready (rs := [11]) (by kernel_rfl) (by simp) ?_
    refine AllReadyH.cons (o := { dst := none, op := Op.store 24 (Operand.tmp 0) (Operand.tmp 14), type := 0, pos := "law.go:20", after := #[{ on := 10, ground := Ground.data }, { on := 8, ground := Ground.chain }, { on := 0, ground := Ground.phase }, { on := 1, ground := Ground.phase }, { on := 2, ground := Ground.phase }, { on := 3, ground := Ground.phase }, { on := 4, ground := Ground.phase }, { on := 5, ground := Ground.phase }, { on := 6, ground := Ground.phase }, { on := 7, ground := Ground.phase }, { on := 8, ground := Ground.phase }, { on := 9, ground := Ground.phase }, { on := 10, ground := Ground.phase }], guard := none }) rfl (fun K hK => ?_) AllReadyH.nil
    rw [if_pos (by rfl)]
    refine wp_store_row _ _ _ rfl gZ _ (by rfl) (by rfl) _ _ (kp (bnew V _) HZ.out) (by exact infoC3) (by rfl) (by simp [Value.oneCell']) ?_
    refine hK.out _ _ (show (ExS w gB gb) _ from (HB.out.keep (bnew V _)).row' _ hZ hzB hzb) (fun hHeld => ?_)
    clear hK K
    refine wpAnyH_done (by kernel_rfl) ?_ _
    exact nq_normal (hfin V x1 x2 x3 x4 HB.out HZ.out H1.out H2.out H3.out H4.out)
  have h3_0123 : ∀ (V : World) (x1 x2 x3 x4 : Nat), Hid (ExS w gB gb V) -> Hid (V.heap[gZ]? = some (.cells #[.int .i64 0, .int .i64 0, .slice none 0 0] 24 (0, 0))) -> Hid (V.heap[x1]? = some (.cells #[.int .i64 0] 3 (0, 0))) -> Hid (V.heap[x2]? = some (.cells #[.int .i64 0, .int .i64 1] 3 (0, 0))) -> Hid (V.heap[x3]? = some (.cells #[.int .i64 2] 3 (0, 0))) -> Hid (V.heap[x4]? = some (.cells #[.int .i64 2] 3 (0, 0))) -> ∀ ls, ls = #[true, true, true, true, true, true, true, true, false, false, false, false] -> wpAnyH Tryd.prog .any exO (NQ Q) (ExS w gB gb) 4 ls { tmps := #[.pointer (some ⟨gZ, 0, none⟩), .pointer (some ⟨gB, 0, none⟩), .slice (some ⟨gb, 0, none⟩) 2 2, .agg #[.int .i64 4, .int .i64 0, .slice (some ⟨gb, 0, none⟩) 2 2, .int .i64 0, .int .i64 (-1), .int .i64 0], .slice (some ⟨x1, 0, none⟩) 1 1, .agg #[.int .i64 1, .int .i64 2, .slice (some ⟨x1, 0, none⟩) 1 1, .int .i64 0, .int .i64 (-1), .int .i64 0], .slice (some ⟨x2, 0, none⟩) 2 2, .agg #[.int .i64 1, .int .i64 11, .slice (some ⟨x2, 0, none⟩) 2 2, .int .i64 0, .int .i64 (-1), .int .i64 0], .slice (some ⟨x3, 0, none⟩) 1 1, .agg #[.int .i64 1, .int .i64 2, .slice (some ⟨x3, 0, none⟩) 1 1, .int .i64 0, .int .i64 (-1), .int .i64 0], .agg #[.int .i64 4, .int .i64 0, .slice (some ⟨gb, 0, none⟩) 2 2, .int .i64 0, .int .i64 (-1), .int .i64 0], .slice (some ⟨x4, 0, none⟩) 1 1, undef, undef, undef], defers := [] } V := by
    intro V x1 x2 x3 x4 HB HZ H1 H2 H3 H4 ls hl
    subst hl
    refine wpAnyH_ready (rs := [8]) (by kernel_rfl) (by simp) ?_
    refine AllReadyH.cons (o := { dst := some 12, op := Op.call { callee := Callee.value (Operand.func 59), args := #[Operand.const (Value.int IntKind.i64 2), Operand.tmp 11], argTypes := #[55, 25] }, type := 57, pos := "law.go:20", after := #[{ on := 7, ground := Ground.data }, { on := 5, ground := Ground.chain }], guard := none }) rfl (fun K hK => ?_) AllReadyH.nil
    . go_simp
      go_at_call 59
      refine (wG19 2 _ _ _ V).mono ?_
      rintro e V2 ⟨rfl, hb⟩
      go_wp2_with fail
      refine hK.out _ _ (show (ExS w gB gb) V2 from HB.out.keep hb) (fun hHeld => ?_)
      clear hK K
      simp only [List.setIfInBounds_toArray, List.set_cons_zero, List.set_cons_succ]
      exact h4_0123 _ x1 x2 x3 x4 (hide hHeld) (hide (kp hb HZ.out)) (hide (kp hb H1.out)) (hide (kp hb H2.out)) (hide (kp hb H3.out)) (hide (kp hb H4.out)) _ (by kernel_rfl)
  have h2_0123 : ∀ (V : World) (x1 x2 x3 x4 : Nat), Hid (ExS w gB gb V) -> Hid (V.heap[gZ]? = some (.cells #[.int .i64 0, .int .i64 0, .slice none 0 0] 24 (0, 0))) -> Hid (V.heap[x1]? = some (.cells #[.int .i64 0] 3 (0, 0))) -> Hid (V.heap[x2]? = some (.cells #[.int .i64 0, .int .i64 1] 3 (0, 0))) -> Hid (V.heap[x3]? = some (.cells #[.int .i64 2] 3 (0, 0))) -> Hid (V.heap[x4]? = some (.cells #[.int .i64 2] 3 (0, 0))) -> ∀ ls, ls = #[true, true, true, true, true, false, true, true, false, false, false, false] -> wpAnyH Tryd.prog .any exO (NQ Q) (ExS w gB gb) 5 ls { tmps := #[.pointer (some ⟨gZ, 0, none⟩), .pointer (some ⟨gB, 0, none⟩), .slice (some ⟨gb, 0, none⟩) 2 2, .agg #[.int .i64 4, .int .i64 0, .slice (some ⟨gb, 0, none⟩) 2 2, .int .i64 0, .int .i64 (-1), .int .i64 0], .slice (some ⟨x1, 0, none⟩) 1 1, .agg #[.int .i64 1, .int .i64 2, .slice (some ⟨x1, 0, none⟩) 1 1, .int .i64 0, .int .i64 (-1), .int .i64 0], .slice (some ⟨x2, 0, none⟩) 2 2, .agg #[.int .i64 1, .int .i64 11, .slice (some ⟨x2, 0, none⟩) 2 2, .int .i64 0, .int .i64 (-1), .int .i64 0], .slice (some ⟨x3, 0, none⟩) 1 1, undef, .agg #[.int .i64 4, .int .i64 0, .slice (some ⟨gb, 0, none⟩) 2 2, .int .i64 0, .int .i64 (-1), .int .i64 0], .slice (some ⟨x4, 0, none⟩) 1 1, undef, undef, undef], defers := [] } V := by
    intro V x1 x2 x3 x4 HB HZ H1 H2 H3 H4 ls hl
    subst hl
    refine wpAnyH_ready (rs := [5]) (by kernel_rfl) (by simp) ?_
    refine AllReadyH.cons (o := { dst := some 9, op := Op.call { callee := Callee.value (Operand.func 59), args := #[Operand.const (Value.int IntKind.i64 2), Operand.tmp 8], argTypes := #[55, 25] }, type := 57, pos := "law.go:20", after := #[{ on := 4, ground := Ground.data }, { on := 3, ground := Ground.chain }], guard := none }) rfl (fun K hK => ?_) AllReadyH.nil
    . go_simp
      go_at_call 59
      refine (wG19 2 _ _ _ V).mono ?_
      rintro e V2 ⟨rfl, hb⟩
      go_wp2_with fail
      refine hK.out _ _ (show (ExS w gB gb) V2 from HB.out.keep hb) (fun hHeld => ?_)
      clear hK K
      simp only [List.setIfInBounds_toArray, List.set_cons_zero, List.set_cons_succ]
      exact h3_0123 _ x1 x2 x3 x4 (hide hHeld) (hide (kp hb HZ.out)) (hide (kp hb H1.out)) (hide (kp hb H2.out)) (hide (kp hb H3.out)) (hide (kp hb H4.out)) _ (by kernel_rfl)
  have h3_012 : ∀ (V : World) (x1 x2 x3 : Nat), Hid (ExS w gB gb V) -> Hid (V.heap[gZ]? = some (.cells #[.int .i64 0, .int .i64 0, .slice none 0 0] 24 (0, 0))) -> Hid (V.heap[x1]? = some (.cells #[.int .i64 0] 3 (0, 0))) -> Hid (V.heap[x2]? = some (.cells #[.int .i64 0, .int .i64 1] 3 (0, 0))) -> Hid (V.heap[x3]? = some (.cells #[.int .i64 2] 3 (0, 0))) -> ∀ ls, ls = #[true, true, true, true, true, true, true, false, false, false, false, false] -> wpAnyH Tryd.prog .any exO (NQ Q) (ExS w gB gb) 5 ls { tmps := #[.pointer (some ⟨gZ, 0, none⟩), .pointer (some ⟨gB, 0, none⟩), .slice (some ⟨gb, 0, none⟩) 2 2, .agg #[.int .i64 4, .int .i64 0, .slice (some ⟨gb, 0, none⟩) 2 2, .int .i64 0, .int .i64 (-1), .int .i64 0], .slice (some ⟨x1, 0, none⟩) 1 1, .agg #[.int .i64 1, .int .i64 2, .slice (some ⟨x1, 0, none⟩) 1 1, .int .i64 0, .int .i64 (-1), .int .i64 0], .slice (some ⟨x2, 0, none⟩) 2 2, .agg #[.int .i64 1, .int .i64 11, .slice (some ⟨x2, 0, none⟩) 2 2, .int .i64 0, .int .i64 (-1), .int .i64 0], .slice (some ⟨x3, 0, none⟩) 1 1, .agg #[.int .i64 1, .int .i64 2, .slice (some ⟨x3, 0, none⟩) 1 1, .int .i64 0, .int .i64 (-1), .int .i64 0], .agg #[.int .i64 4, .int .i64 0, .slice (some ⟨gb, 0, none⟩) 2 2, .int .i64 0, .int .i64 (-1), .int .i64 0], undef, undef, undef, undef], defers := [] } V := by
    intro V x1 x2 x3 HB HZ H1 H2 H3 ls hl
    subst hl
    refine wpAnyH_ready (rs := [7]) (by kernel_rfl) (by simp) ?_
    refine AllReadyH.cons (o := { dst := some 11, op := Op.buildSlice 25 1 #[(0, Operand.const (Value.int IntKind.i64 2))], type := 25, pos := "law.go:20", after := #[], guard := none }) rfl (fun K hK => ?_) AllReadyH.nil
    . go_simp
      refine hK.out _ _ (show (ExS w gB gb) _ from HB.out.keep (bnew V (.cells #[.int .i64 2] 3))) (fun hHeld => ?_)
      clear hK K
      simp only [List.setIfInBounds_toArray, List.set_cons_zero, List.set_cons_succ]
      exact h3_0123 _ x1 x2 x3 V.heap.size (hide hHeld) (hide (kp (bnew V (.cells #[.int .i64 2] 3)) HZ.out)) (hide (kp (bnew V (.cells #[.int .i64 2] 3)) H1.out)) (hide (kp (bnew V (.cells #[.int .i64 2] 3)) H2.out)) (hide (kp (bnew V (.cells #[.int .i64 2] 3)) H3.out)) (hide (heap_alloc_new V _)) _ (by kernel_rfl)
  have h1_0123 : ∀ (V : World) (x1 x2 x3 x4 : Nat), Hid (ExS w gB gb V) -> Hid (V.heap[gZ]? = some (.cells #[.int .i64 0, .int .i64 0, .slice none 0 0] 24 (0, 0))) -> Hid (V.heap[x1]? = some (.cells #[.int .i64 0] 3 (0, 0))) -> Hid (V.heap[x2]? = some (.cells #[.int .i64 0, .int .i64 1] 3 (0, 0))) -> Hid (V.heap[x3]? = some (.cells #[.int .i64 2] 3 (0, 0))) -> Hid (V.heap[x4]? = some (.cells #[.int .i64 2] 3 (0, 0))) -> ∀ ls, ls = #[true, true, true, false, true, false, true, true, false, false, false, false] -> wpAnyH Tryd.prog .any exO (NQ Q) (ExS w gB gb) 6 ls { tmps := #[.pointer (some ⟨gZ, 0, none⟩), .pointer (some ⟨gB, 0, none⟩), .slice (some ⟨gb, 0, none⟩) 2 2, .agg #[.int .i64 4, .int .i64 0, .slice (some ⟨gb, 0, none⟩) 2 2, .int .i64 0, .int .i64 (-1), .int .i64 0], .slice (some ⟨x1, 0, none⟩) 1 1, .agg #[.int .i64 1, .int .i64 2, .slice (some ⟨x1, 0, none⟩) 1 1, .int .i64 0, .int .i64 (-1), .int .i64 0], .slice (some ⟨x2, 0, none⟩) 2 2, undef, .slice (some ⟨x3, 0, none⟩) 1 1, undef, .agg #[.int .i64 4, .int .i64 0, .slice (some ⟨gb, 0, none⟩) 2 2, .int .i64 0, .int .i64 (-1), .int .i64 0], .slice (some ⟨x4, 0, none⟩) 1 1, undef, undef, undef], defers := [] } V := by
    intro V x1 x2 x3 x4 HB HZ H1 H2 H3 H4 ls hl
    subst hl
    refine wpAnyH_ready (rs := [3]) (by kernel_rfl) (by simp) ?_
    refine AllReadyH.cons (o := { dst := some 7, op := Op.call { callee := Callee.value (Operand.func 59), args := #[Operand.const (Value.int IntKind.i64 11), Operand.tmp 6], argTypes := #[55, 25] }, type := 57, pos := "law.go:20", after := #[{ on := 2, ground := Ground.data }, { on := 1, ground := Ground.chain }], guard := none }) rfl (fun K hK => ?_) AllReadyH.nil
    . go_simp
      go_at_call 59
      refine (wG19 11 _ _ _ V).mono ?_
      rintro e V2 ⟨rfl, hb⟩
      go_wp2_with fail
      refine hK.out _ _ (show (ExS w gB gb) V2 from HB.out.keep hb) (fun hHeld => ?_)
      clear hK K
      simp only [List.setIfInBounds_toArray, List.set_cons_zero, List.set_cons_succ]
      exact h2_0123 _ x1 x2 x3 x4 (hide hHeld) (hide (kp hb HZ.out)) (hide (kp hb H1.out)) (hide (kp hb H2.out)) (hide (kp hb H3.out)) (hide (kp hb H4.out)) _ (by kernel_rfl)
  have h2_012 : ∀ (V : World) (x1 x2 x3 : Nat), Hid (ExS w gB gb V) -> Hid (V.heap[gZ]? = some (.cells #[.int .i64 0, .int .i64 0, .slice none 0 0] 24 (0, 0))) -> Hid (V.heap[x1]? = some (.cells #[.int .i64 0] 3 (0, 0))) -> Hid (V.heap[x2]? = some (.cells #[.int .i64 0, .int .i64 1] 3 (0, 0))) -> Hid (V.heap[x3]? = some (.cells #[.int .i64 2] 3 (0, 0))) -> ∀ ls, ls = #[true, true, true, true, true, false, true, false, false, false, false, false] -> wpAnyH Tryd.prog .any exO (NQ Q) (ExS w gB gb) 6 ls { tmps := #[.pointer (some ⟨gZ, 0, none⟩), .pointer (some ⟨gB, 0, none⟩), .slice (some ⟨gb, 0, none⟩) 2 2, .agg #[.int .i64 4, .int .i64 0, .slice (some ⟨gb, 0, none⟩) 2 2, .int .i64 0, .int .i64 (-1), .int .i64 0], .slice (some ⟨x1, 0, none⟩) 1 1, .agg #[.int .i64 1, .int .i64 2, .slice (some ⟨x1, 0, none⟩) 1 1, .int .i64 0, .int .i64 (-1), .int .i64 0], .slice (some ⟨x2, 0, none⟩) 2 2, .agg #[.int .i64 1, .int .i64 11, .slice (some ⟨x2, 0, none⟩) 2 2, .int .i64 0, .int .i64 (-1), .int .i64 0], .slice (some ⟨x3, 0, none⟩) 1 1, undef, .agg #[.int .i64 4, .int .i64 0, .slice (some ⟨gb, 0, none⟩) 2 2, .int .i64 0, .int .i64 (-1), .int .i64 0], undef, undef, undef, undef], defers := [] } V := by
    intro V x1 x2 x3 HB HZ H1 H2 H3 ls hl
    subst hl
    refine wpAnyH_ready (rs := [5, 7]) (by kernel_rfl) (by simp) ?_
    refine AllReadyH.cons (o := { dst := some 9, op := Op.call { callee := Callee.value (Operand.func 59), args := #[Operand.const (Value.int IntKind.i64 2), Operand.tmp 8], argTypes := #[55, 25] }, type := 57, pos := "law.go:20", after := #[{ on := 4, ground := Ground.data }, { on := 3, ground := Ground.chain }], guard := none }) rfl (fun K hK => ?_) (AllReadyH.cons (o := { dst := some 11, op := Op.buildSlice 25 1 #[(0, Operand.const (Value.int IntKind.i64 2))], type := 25, pos := "law.go:20", after := #[], guard := none }) rfl (fun K hK => ?_) AllReadyH.nil)
    . go_simp
      go_at_call 59
      refine (wG19 2 _ _ _ V).mono ?_
      rintro e V2 ⟨rfl, hb⟩
      go_wp2_with fail
      refine hK.out _ _ (show (ExS w gB gb) V2 from HB.out.keep hb) (fun hHeld => ?_)
      clear hK K
      simp only [List.setIfInBounds_toArray, List.set_cons_zero, List.set_cons_succ]
      exact h3_012 _ x1 x2 x3 (hide hHeld) (hide (kp hb HZ.out)) (hide (kp hb H1.out)) (hide (kp hb H2.out)) (hide (kp hb H3.out)) _ (by kernel_rfl)
    . go_simp
      refine hK.out _ _ (show (ExS w gB gb) _ from HB.out.keep (bnew V (.cells #[.int .i64 2] 3))) (fun hHeld => ?_)
      clear hK K
      simp only [List.setIfInBounds_toArray, List.set_cons_zero, List.set_cons_succ]
      exact h2_0123 _ x1 x2 x3 V.heap.size (hide hHeld) (hide (kp (bnew V (.cells #[.int .i64 2] 3)) HZ.out)) (hide (kp (bnew V (.cells #[.int .i64 2] 3)) H1.out)) (hide (kp (bnew V (.cells #[.int .i64 2] 3)) H2.out)) (hide (kp (bnew V (.cells #[.int .i64 2] 3)) H3.out)) (hide (heap_alloc_new V _)) _ (by kernel_rfl)
  have h2_013 : ∀ (V : World) (x1 x2 x4 : Nat), Hid (ExS w gB gb V) -> Hid (V.heap[gZ]? = some (.cells #[.int .i64 0, .int .i64 0, .slice none 0 0] 24 (0, 0))) -> Hid (V.heap[x1]? = some (.cells #[.int .i64 0] 3 (0, 0))) -> Hid (V.heap[x2]? = some (.cells #[.int .i64 0, .int .i64 1] 3 (0, 0))) -> Hid (V.heap[x4]? = some (.cells #[.int .i64 2] 3 (0, 0))) -> ∀ ls, ls = #[true, true, true, true, false, false, true, true, false, false, false, false] -> wpAnyH Tryd.prog .any exO (NQ Q) (ExS w gB gb) 6 ls { tmps := #[.pointer (some ⟨gZ, 0, none⟩), .pointer (some ⟨gB, 0, none⟩), .slice (some ⟨gb, 0, none⟩) 2 2, .agg #[.int .i64 4, .int .i64 0, .slice (some ⟨gb, 0, none⟩) 2 2, .int .i64 0, .int .i64 (-1), .int .i64 0], .slice (some ⟨x1, 0, none⟩) 1 1, .agg #[.int .i64 1, .int .i64 2, .slice (some ⟨x1, 0, none⟩) 1 1, .int .i64 0, .int .i64 (-1), .int .i64 0], .slice (some ⟨x2, 0, none⟩) 2 2, .agg #[.int .i64 1, .int .i64 11, .slice (some ⟨x2, 0, none⟩) 2 2, .int .i64 0, .int .i64 (-1), .int .i64 0], undef, undef, .agg #[.int .i64 4, .int .i64 0, .slice (some ⟨gb, 0, none⟩) 2 2, .int .i64 0, .int .i64 (-1), .int .i64 0], .slice (some ⟨x4, 0, none⟩) 1 1, undef, undef, undef], defers := [] } V := by
    intro V x1 x2 x4 HB HZ H1 H2 H4 ls hl
    subst hl
    refine wpAnyH_ready (rs := [4]) (by kernel_rfl) (by simp) ?_
    refine AllReadyH.cons (o := { dst := some 8, op := Op.buildSlice 25 1 #[(0, Operand.const (Value.int IntKind.i64 2))], type := 25, pos := "law.go:20", after := #[], guard := none }) rfl (fun K hK => ?_) AllReadyH.nil
    . go_simp
      refine hK.out _ _ (show (ExS w gB gb) _ from HB.out.keep (bnew V (.cells #[.int .i64 2] 3))) (fun hHeld => ?_)
      clear hK K
      simp only [List.setIfInBounds_toArray, List.set_cons_zero, List.set_cons_succ]
      exact h2_0123 _ x1 x2 V.heap.size x4 (hide hHeld) (hide (kp (bnew V (.cells #[.int .i64 2] 3)) HZ.out)) (hide (kp (bnew V (.cells #[.int .i64 2] 3)) H1.out)) (hide (kp (bnew V (.cells #[.int .i64 2] 3)) H2.out)) (hide (heap_alloc_new V _)) (hide (kp (bnew V (.cells #[.int .i64 2] 3)) H4.out)) _ (by kernel_rfl)
  have h0_0123 : ∀ (V : World) (x1 x2 x3 x4 : Nat), Hid (ExS w gB gb V) -> Hid (V.heap[gZ]? = some (.cells #[.int .i64 0, .int .i64 0, .slice none 0 0] 24 (0, 0))) -> Hid (V.heap[x1]? = some (.cells #[.int .i64 0] 3 (0, 0))) -> Hid (V.heap[x2]? = some (.cells #[.int .i64 0, .int .i64 1] 3 (0, 0))) -> Hid (V.heap[x3]? = some (.cells #[.int .i64 2] 3 (0, 0))) -> Hid (V.heap[x4]? = some (.cells #[.int .i64 2] 3 (0, 0))) -> ∀ ls, ls = #[true, false, true, false, true, false, true, true, false, false, false, false] -> wpAnyH Tryd.prog .any exO (NQ Q) (ExS w gB gb) 7 ls { tmps := #[.pointer (some ⟨gZ, 0, none⟩), .pointer (some ⟨gB, 0, none⟩), .slice (some ⟨gb, 0, none⟩) 2 2, .agg #[.int .i64 4, .int .i64 0, .slice (some ⟨gb, 0, none⟩) 2 2, .int .i64 0, .int .i64 (-1), .int .i64 0], .slice (some ⟨x1, 0, none⟩) 1 1, undef, .slice (some ⟨x2, 0, none⟩) 2 2, undef, .slice (some ⟨x3, 0, none⟩) 1 1, undef, .agg #[.int .i64 4, .int .i64 0, .slice (some ⟨gb, 0, none⟩) 2 2, .int .i64 0, .int .i64 (-1), .int .i64 0], .slice (some ⟨x4, 0, none⟩) 1 1, undef, undef, undef], defers := [] } V := by
    intro V x1 x2 x3 x4 HB HZ H1 H2 H3 H4 ls hl
    subst hl
    refine wpAnyH_ready (rs := [1]) (by kernel_rfl) (by simp) ?_
    refine AllReadyH.cons (o := { dst := some 5, op := Op.call { callee := Callee.value (Operand.func 59), args := #[Operand.const (Value.int IntKind.i64 2), Operand.tmp 4], argTypes := #[55, 25] }, type := 57, pos := "law.go:20", after := #[{ on := 0, ground := Ground.data }], guard := none }) rfl (fun K hK => ?_) AllReadyH.nil
    . go_simp
      go_at_call 59
      refine (wG19 2 _ _ _ V).mono ?_
      rintro e V2 ⟨rfl, hb⟩
      go_wp2_with fail
      refine hK.out _ _ (show (ExS w gB gb) V2 from HB.out.keep hb) (fun hHeld => ?_)
      clear hK K
      simp only [List.setIfInBounds_toArray, List.set_cons_zero, List.set_cons_succ]
      exact h1_0123 _ x1 x2 x3 x4 (hide hHeld) (hide (kp hb HZ.out)) (hide (kp hb H1.out)) (hide (kp hb H2.out)) (hide (kp hb H3.out)) (hide (kp hb H4.out)) _ (by kernel_rfl)
  have h1_012 : ∀ (V : World) (x1 x2 x3 : Nat), Hid (ExS w gB gb V) -> Hid (V.heap[gZ]? = some (.cells #[.int .i64 0, .int .i64 0, .slice none 0 0] 24 (0, 0))) -> Hid (V.heap[x1]? = some (.cells #[.int .i64 0] 3 (0, 0))) -> Hid (V.heap[x2]? = some (.cells #[.int .i64 0, .int .i64 1] 3 (0, 0))) -> Hid (V.heap[x3]? = some (.cells #[.int .i64 2] 3 (0, 0))) -> ∀ ls, ls = #[true, true, true, false, true, false, true, false, false, false, false, false] -> wpAnyH Tryd.prog .any exO (NQ Q) (ExS w gB gb) 7 ls { tmps := #[.pointer (some ⟨gZ, 0, none⟩), .pointer (some ⟨gB, 0, none⟩), .slice (some ⟨gb, 0, none⟩) 2 2, .agg #[.int .i64 4, .int .i64 0, .slice (some ⟨gb, 0, none⟩) 2 2, .int .i64 0, .int .i64 (-1), .int .i64 0], .slice (some ⟨x1, 0, none⟩) 1 1, .agg #[.int .i64 1, .int .i64 2, .slice (some ⟨x1, 0, none⟩) 1 1, .int .i64 0, .int .i64 (-1), .int .i64 0], .slice (some ⟨x2, 0, none⟩) 2 2, undef, .slice (some ⟨x3, 0, none⟩) 1 1, undef, .agg #[.int .i64 4, .int .i64 0, .slice (some ⟨gb, 0, none⟩) 2 2, .int .i64 0, .int .i64 (-1), .int .i64 0], undef, undef, undef, undef], defers := [] } V := by
    intro V x1 x2 x3 HB HZ H1 H2 H3 ls hl
    subst hl
    refine wpAnyH_ready (rs := [3, 7]) (by kernel_rfl) (by simp) ?_
    refine AllReadyH.cons (o := { dst := some 7, op := Op.call { callee := Callee.value (Operand.func 59), args := #[Operand.const (Value.int IntKind.i64 11), Operand.tmp 6], argTypes := #[55, 25] }, type := 57, pos := "law.go:20", after := #[{ on := 2, ground := Ground.data }, { on := 1, ground := Ground.chain }], guard := none }) rfl (fun K hK => ?_) (AllReadyH.cons (o := { dst := some 11, op := Op.buildSlice 25 1 #[(0, Operand.const (Value.int IntKind.i64 2))], type := 25, pos := "law.go:20", after := #[], guard := none }) rfl (fun K hK => ?_) AllReadyH.nil)
    . go_simp
      go_at_call 59
      refine (wG19 11 _ _ _ V).mono ?_
      rintro e V2 ⟨rfl, hb⟩
      go_wp2_with fail
      refine hK.out _ _ (show (ExS w gB gb) V2 from HB.out.keep hb) (fun hHeld => ?_)
      clear hK K
      simp only [List.setIfInBounds_toArray, List.set_cons_zero, List.set_cons_succ]
      exact h2_012 _ x1 x2 x3 (hide hHeld) (hide (kp hb HZ.out)) (hide (kp hb H1.out)) (hide (kp hb H2.out)) (hide (kp hb H3.out)) _ (by kernel_rfl)
    . go_simp
      refine hK.out _ _ (show (ExS w gB gb) _ from HB.out.keep (bnew V (.cells #[.int .i64 2] 3))) (fun hHeld => ?_)
      clear hK K
      simp only [List.setIfInBounds_toArray, List.set_cons_zero, List.set_cons_succ]
      exact h1_0123 _ x1 x2 x3 V.heap.size (hide hHeld) (hide (kp (bnew V (.cells #[.int .i64 2] 3)) HZ.out)) (hide (kp (bnew V (.cells #[.int .i64 2] 3)) H1.out)) (hide (kp (bnew V (.cells #[.int .i64 2] 3)) H2.out)) (hide (kp (bnew V (.cells #[.int .i64 2] 3)) H3.out)) (hide (heap_alloc_new V _)) _ (by kernel_rfl)
  have h1_013 : ∀ (V : World) (x1 x2 x4 : Nat), Hid (ExS w gB gb V) -> Hid (V.heap[gZ]? = some (.cells #[.int .i64 0, .int .i64 0, .slice none 0 0] 24 (0, 0))) -> Hid (V.heap[x1]? = some (.cells #[.int .i64 0] 3 (0, 0))) -> Hid (V.heap[x2]? = some (.cells #[.int .i64 0, .int .i64 1] 3 (0, 0))) -> Hid (V.heap[x4]? = some (.cells #[.int .i64 2] 3 (0, 0))) -> ∀ ls, ls = #[true, true, true, false, false, false, true, true, false, false, false, false] -> wpAnyH Tryd.prog .any exO (NQ Q) (ExS w gB gb) 7 ls { tmps := #[.pointer (some ⟨gZ, 0, none⟩), .pointer (some ⟨gB, 0, none⟩), .slice (some ⟨gb, 0, none⟩) 2 2, .agg #[.int .i64 4, .int .i64 0, .slice (some ⟨gb, 0, none⟩) 2 2, .int .i64 0, .int .i64 (-1), .int .i64 0], .slice (some ⟨x1, 0, none⟩) 1 1, .agg #[.int .i64 1, .int .i64 2, .slice (some ⟨x1, 0, none⟩) 1 1, .int .i64 0, .int .i64 (-1), .int .i64 0], .slice (some ⟨x2, 0, none⟩) 2 2, undef, undef, undef, .agg #[.int .i64 4, .int .i64 0, .slice (some ⟨gb, 0, none⟩) 2 2, .int .i64 0, .int .i64 (-1), .int .i64 0], .slice (some ⟨x4, 0, none⟩) 1 1, undef, undef, undef], defers := [] } V := by
    intro V x1 x2 x4 HB HZ H1 H2 H4 ls hl
    subst hl
    refine wpAnyH_ready (rs := [3, 4]) (by kernel_rfl) (by simp) ?_
    refine AllReadyH.cons (o := { dst := some 7, op := Op.call { callee := Callee.value (Operand.func 59), args := #[Operand.const (Value.int IntKind.i64 11), Operand.tmp 6], argTypes := #[55, 25] }, type := 57, pos := "law.go:20", after := #[{ on := 2, ground := Ground.data }, { on := 1, ground := Ground.chain }], guard := none }) rfl (fun K hK => ?_) (AllReadyH.cons (o := { dst := some 8, op := Op.buildSlice 25 1 #[(0, Operand.const (Value.int IntKind.i64 2))], type := 25, pos := "law.go:20", after := #[], guard := none }) rfl (fun K hK => ?_) AllReadyH.nil)
    . go_simp
      go_at_call 59
      refine (wG19 11 _ _ _ V).mono ?_
      rintro e V2 ⟨rfl, hb⟩
      go_wp2_with fail
      refine hK.out _ _ (show (ExS w gB gb) V2 from HB.out.keep hb) (fun hHeld => ?_)
      clear hK K
      simp only [List.setIfInBounds_toArray, List.set_cons_zero, List.set_cons_succ]
      exact h2_013 _ x1 x2 x4 (hide hHeld) (hide (kp hb HZ.out)) (hide (kp hb H1.out)) (hide (kp hb H2.out)) (hide (kp hb H4.out)) _ (by kernel_rfl)
    . go_simp
      refine hK.out _ _ (show (ExS w gB gb) _ from HB.out.keep (bnew V (.cells #[.int .i64 2] 3))) (fun hHeld => ?_)
      clear hK K
      simp only [List.setIfInBounds_toArray, List.set_cons_zero, List.set_cons_succ]
      exact h1_0123 _ x1 x2 V.heap.size x4 (hide hHeld) (hide (kp (bnew V (.cells #[.int .i64 2] 3)) HZ.out)) (hide (kp (bnew V (.cells #[.int .i64 2] 3)) H1.out)) (hide (kp (bnew V (.cells #[.int .i64 2] 3)) H2.out)) (hide (heap_alloc_new V _)) (hide (kp (bnew V (.cells #[.int .i64 2] 3)) H4.out)) _ (by kernel_rfl)
  have h1_023 : ∀ (V : World) (x1 x3 x4 : Nat), Hid (ExS w gB gb V) -> Hid (V.heap[gZ]? = some (.cells #[.int .i64 0, .int .i64 0, .slice none 0 0] 24 (0, 0))) -> Hid (V.heap[x1]? = some (.cells #[.int .i64 0] 3 (0, 0))) -> Hid (V.heap[x3]? = some (.cells #[.int .i64 2] 3 (0, 0))) -> Hid (V.heap[x4]? = some (.cells #[.int .i64 2] 3 (0, 0))) -> ∀ ls, ls = #[true, true, false, false, true, false, true, true, false, false, false, false] -> wpAnyH Tryd.prog .any exO (NQ Q) (ExS w gB gb) 7 ls { tmps := #[.pointer (some ⟨gZ, 0, none⟩), .pointer (some ⟨gB, 0, none⟩), .slice (some ⟨gb, 0, none⟩) 2 2, .agg #[.int .i64 4, .int .i64 0, .slice (some ⟨gb, 0, none⟩) 2 2, .int .i64 0, .int .i64 (-1), .int .i64 0], .slice (some ⟨x1, 0, none⟩) 1 1, .agg #[.int .i64 1, .int .i64 2, .slice (some ⟨x1, 0, none⟩) 1 1, .int .i64 0, .int .i64 (-1), .int .i64 0], undef, undef, .slice (some ⟨x3, 0, none⟩) 1 1, undef, .agg #[.int .i64 4, .int .i64 0, .slice (some ⟨gb, 0, none⟩) 2 2, .int .i64 0, .int .i64 (-1), .int .i64 0], .slice (some ⟨x4, 0, none⟩) 1 1, undef, undef, undef], defers := [] } V := by
    intro V x1 x3 x4 HB HZ H1 H3 H4 ls hl
    subst hl
    refine wpAnyH_ready (rs := [2]) (by kernel_rfl) (by simp) ?_
    refine AllReadyH.cons (o := { dst := some 6, op := Op.buildSlice 25 2 #[(0, Operand.const (Value.int IntKind.i64 0)), (1, Operand.const (Value.int IntKind.i64 1))], type := 25, pos := "law.go:20", after := #[], guard := none }) rfl (fun K hK => ?_) AllReadyH.nil
    . go_simp
      refine hK.out _ _ (show (ExS w gB gb) _ from HB.out.keep (bnew V (.cells #[.int .i64 0, .int .i64 1] 3))) (fun hHeld => ?_)
      clear hK K
      simp only [List.setIfInBounds_toArray, List.set_cons_zero, List.set_cons_succ]
      exact h1_0123 _ x1 V.heap.size x3 x4 (hide hHeld) (hide (kp (bnew V (.cells #[.int .i64 0, .int .i64 1] 3)) HZ.out)) (hide (kp (bnew V (.cells #[.int .i64 0, .int .i64 1] 3)) H1.out)) (hide (heap_alloc_new V _)) (hide (kp (bnew V (.cells #[.int .i64 0, .int .i64 1] 3)) H3.out)) (hide (kp (bnew V (.cells #[.int .i64 0, .int .i64 1] 3)) H4.out)) _ (by kernel_rfl)
  have h2_01 : ∀ (V : World) (x1 x2 : Nat), Hid (ExS w gB gb V) -> Hid (V.heap[gZ]? = some (.cells #[.int .i64 0, .int .i64 0, .slice none 0 0] 24 (0, 0))) -> Hid (V.heap[x1]? = some (.cells #[.int .i64 0] 3 (0, 0))) -> Hid (V.heap[x2]? = some (.cells #[.int .i64 0, .int .i64 1] 3 (0, 0))) -> ∀ ls, ls = #[true, true, true, true, false, false, true, false, false, false, false, false] -> wpAnyH Tryd.prog .any exO (NQ Q) (ExS w gB gb) 7 ls { tmps := #[.pointer (some ⟨gZ, 0, none⟩), .pointer (some ⟨gB, 0, none⟩), .slice (some ⟨gb, 0, none⟩) 2 2, .agg #[.int .i64 4, .int .i64 0, .slice (some ⟨gb, 0, none⟩) 2 2, .int .i64 0, .int .i64 (-1), .int .i64 0], .slice (some ⟨x1, 0, none⟩) 1 1, .agg #[.int .i64 1, .int .i64 2, .slice (some ⟨x1, 0, none⟩) 1 1, .int .i64 0, .int .i64 (-1), .int .i64 0], .slice (some ⟨x2, 0, none⟩) 2 2, .agg #[.int .i64 1, .int .i64 11, .slice (some ⟨x2, 0, none⟩) 2 2, .int .i64 0, .int .i64 (-1), .int .i64 0], undef, undef, .agg #[.int .i64 4, .int .i64 0, .slice (some ⟨gb, 0, none⟩) 2 2, .int .i64 0, .int .i64 (-1), .int .i64 0], undef, undef, undef, undef], defers := [] } V := by
    intro V x1 x2 HB HZ H1 H2 ls hl
    subst hl
    refine wpAnyH_ready (rs := [4, 7]) (by kernel_rfl) (by simp) ?_
    refine AllReadyH.cons (o := { dst := some 8, op := Op.buildSlice 25 1 #[(0, Operand.const (Value.int IntKind.i64 2))], type := 25, pos := "law.go:20", after := #[], guard := none }) rfl (fun K hK => ?_) (AllReadyH.cons (o := { dst := some 11, op := Op.buildSlice 25 1 #[(0, Operand.const (Value.int IntKind.i64 2))], type := 25, pos := "law.go:20", after := #[], guard := none }) rfl (fun K hK => ?_) AllReadyH.nil)
    . go_simp
      refine hK.out _ _ (show (ExS w gB gb) _ from HB.out.keep (bnew V (.cells #[.int .i64 2] 3))) (fun hHeld => ?_)
      clear hK K
      simp only [List.setIfInBounds_toArray, List.set_cons_zero, List.set_cons_succ]
      exact h2_012 _ x1 x2 V.heap.size (hide hHeld) (hide (kp (bnew V (.cells #[.int .i64 2] 3)) HZ.out)) (hide (kp (bnew V (.cells #[.int .i64 2] 3)) H1.out)) (hide (kp (bnew V (.cells #[.int .i64 2] 3)) H2.out)) (hide (heap_alloc_new V _)) _ (by kernel_rfl)
    . go_simp
      refine hK.out _ _ (show (ExS w gB gb) _ from HB.out.keep (bnew V (.cells #[.int .i64 2] 3))) (fun hHeld => ?_)
      clear hK K
      simp only [List.setIfInBounds_toArray, List.set_cons_zero, List.set_cons_succ]
      exact h2_013 _ x1 x2 V.heap.size (hide hHeld) (hide (kp (bnew V (.cells #[.int .i64 2] 3)) HZ.out)) (hide (kp (bnew V (.cells #[.int .i64 2] 3)) H1.out)) (hide (kp (bnew V (.cells #[.int .i64 2] 3)) H2.out)) (hide (heap_alloc_new V _)) _ (by kernel_rfl)
  have h0_012 : ∀ (V : World) (x1 x2 x3 : Nat), Hid (ExS w gB gb V) -> Hid (V.heap[gZ]? = some (.cells #[.int .i64 0, .int .i64 0, .slice none 0 0] 24 (0, 0))) -> Hid (V.heap[x1]? = some (.cells #[.int .i64 0] 3 (0, 0))) -> Hid (V.heap[x2]? = some (.cells #[.int .i64 0, .int .i64 1] 3 (0, 0))) -> Hid (V.heap[x3]? = some (.cells #[.int .i64 2] 3 (0, 0))) -> ∀ ls, ls = #[true, false, true, false, true, false, true, false, false, false, false, false] -> wpAnyH Tryd.prog .any exO (NQ Q) (ExS w gB gb) 8 ls { tmps := #[.pointer (some ⟨gZ, 0, none⟩), .pointer (some ⟨gB, 0, none⟩), .slice (some ⟨gb, 0, none⟩) 2 2, .agg #[.int .i64 4, .int .i64 0, .slice (some ⟨gb, 0, none⟩) 2 2, .int .i64 0, .int .i64 (-1), .int .i64 0], .slice (some ⟨x1, 0, none⟩) 1 1, undef, .slice (some ⟨x2, 0, none⟩) 2 2, undef, .slice (some ⟨x3, 0, none⟩) 1 1, undef, .agg #[.int .i64 4, .int .i64 0, .slice (some ⟨gb, 0, none⟩) 2 2, .int .i64 0, .int .i64 (-1), .int .i64 0], undef, undef, undef, undef], defers := [] } V := by
    intro V x1 x2 x3 HB HZ H1 H2 H3 ls hl
    subst hl
    refine wpAnyH_ready (rs := [1, 7]) (by kernel_rfl) (by simp) ?_
    refine AllReadyH.cons (o := { dst := some 5, op := Op.call { callee := Callee.value (Operand.func 59), args := #[Operand.const (Value.int IntKind.i64 2), Operand.tmp 4], argTypes := #[55, 25] }, type := 57, pos := "law.go:20", after := #[{ on := 0, ground := Ground.data }], guard := none }) rfl (fun K hK => ?_) (AllReadyH.cons (o := { dst := some 11, op := Op.buildSlice 25 1 #[(0, Operand.const (Value.int IntKind.i64 2))], type := 25, pos := "law.go:20", after := #[], guard := none }) rfl (fun K hK => ?_) AllReadyH.nil)
    . go_simp
      go_at_call 59
      refine (wG19 2 _ _ _ V).mono ?_
      rintro e V2 ⟨rfl, hb⟩
      go_wp2_with fail
      refine hK.out _ _ (show (ExS w gB gb) V2 from HB.out.keep hb) (fun hHeld => ?_)
      clear hK K
      simp only [List.setIfInBounds_toArray, List.set_cons_zero, List.set_cons_succ]
      exact h1_012 _ x1 x2 x3 (hide hHeld) (hide (kp hb HZ.out)) (hide (kp hb H1.out)) (hide (kp hb H2.out)) (hide (kp hb H3.out)) _ (by kernel_rfl)
    . go_simp
      refine hK.out _ _ (show (ExS w gB gb) _ from HB.out.keep (bnew V (.cells #[.int .i64 2] 3))) (fun hHeld => ?_)
      clear hK K
      simp only [List.setIfInBounds_toArray, List.set_cons_zero, List.set_cons_succ]
      exact h0_0123 _ x1 x2 x3 V.heap.size (hide hHeld) (hide (kp (bnew V (.cells #[.int .i64 2] 3)) HZ.out)) (hide (kp (bnew V (.cells #[.int .i64 2] 3)) H1.out)) (hide (kp (bnew V (.cells #[.int .i64 2] 3)) H2.out)) (hide (kp (bnew V (.cells #[.int .i64 2] 3)) H3.out)) (hide (heap_alloc_new V _)) _ (by kernel_rfl)
  have h0_013 : ∀ (V : World) (x1 x2 x4 : Nat), Hid (ExS w gB gb V) -> Hid (V.heap[gZ]? = some (.cells #[.int .i64 0, .int .i64 0, .slice none 0 0] 24 (0, 0))) -> Hid (V.heap[x1]? = some (.cells #[.int .i64 0] 3 (0, 0))) -> Hid (V.heap[x2]? = some (.cells #[.int .i64 0, .int .i64 1] 3 (0, 0))) -> Hid (V.heap[x4]? = some (.cells #[.int .i64 2] 3 (0, 0))) -> ∀ ls, ls = #[true, false, true, false, false, false, true, true, false, false, false, false] -> wpAnyH Tryd.prog .any exO (NQ Q) (ExS w gB gb) 8 ls { tmps := #[.pointer (some ⟨gZ, 0, none⟩), .pointer (some ⟨gB, 0, none⟩), .slice (some ⟨gb, 0, none⟩) 2 2, .agg #[.int .i64 4, .int .i64 0, .slice (some ⟨gb, 0, none⟩) 2 2, .int .i64 0, .int .i64 (-1), .int .i64 0], .slice (some ⟨x1, 0, none⟩) 1 1, undef, .slice (some ⟨x2, 0, none⟩) 2 2, undef, undef, undef, .agg #[.int .i64 4, .int .i64 0, .slice (some ⟨gb, 0, none⟩) 2 2, .int .i64 0, .int .i64 (-1), .int .i64 0], .slice (some ⟨x4, 0, none⟩) 1 1, undef, undef, undef], defers := [] } V := by
    intro V x1 x2 x4 HB HZ H1 H2 H4 ls hl
    subst hl
    refine wpAnyH_ready (rs := [1, 4]) (by kernel_rfl) (by simp) ?_
    refine AllReadyH.cons (o := { dst := some 5, op := Op.call { callee := Callee.value (Operand.func 59), args := #[Operand.const (Value.int IntKind.i64 2), Operand.tmp 4], argTypes := #[55, 25] }, type := 57, pos := "law.go:20", after := #[{ on := 0, ground := Ground.data }], guard := none }) rfl (fun K hK => ?_) (AllReadyH.cons (o := { dst := some 8, op := Op.buildSlice 25 1 #[(0, Operand.const (Value.int IntKind.i64 2))], type := 25, pos := "law.go:20", after := #[], guard := none }) rfl (fun K hK => ?_) AllReadyH.nil)
    . go_simp
      go_at_call 59
      refine (wG19 2 _ _ _ V).mono ?_
      rintro e V2 ⟨rfl, hb⟩
      go_wp2_with fail
      refine hK.out _ _ (show (ExS w gB gb) V2 from HB.out.keep hb) (fun hHeld => ?_)
      clear hK K
      simp only [List.setIfInBounds_toArray, List.set_cons_zero, List.set_cons_succ]
      exact h1_013 _ x1 x2 x4 (hide hHeld) (hide (kp hb HZ.out)) (hide (kp hb H1.out)) (hide (kp hb H2.out)) (hide (kp hb H4.out)) _ (by kernel_rfl)
    . go_simp
      refine hK.out _ _ (show (ExS w gB gb) _ from HB.out.keep (bnew V (.cells #[.int .i64 2] 3))) (fun hHeld => ?_)
      clear hK K
      simp only [List.setIfInBounds_toArray, List.set_cons_zero, List.set_cons_succ]
      exact h0_0123 _ x1 x2 V.heap.size x4 (hide hHeld) (hide (kp (bnew V (.cells #[.int .i64 2] 3)) HZ.out)) (hide (kp (bnew V (.cells #[.int .i64 2] 3)) H1.out)) (hide (kp (bnew V (.cells #[.int .i64 2] 3)) H2.out)) (hide (heap_alloc_new V _)) (hide (kp (bnew V (.cells #[.int .i64 2] 3)) H4.out)) _ (by kernel_rfl)
  have h0_023 : ∀ (V : World) (x1 x3 x4 : Nat), Hid (ExS w gB gb V) -> Hid (V.heap[gZ]? = some (.cells #[.int .i64 0, .int .i64 0, .slice none 0 0] 24 (0, 0))) -> Hid (V.heap[x1]? = some (.cells #[.int .i64 0] 3 (0, 0))) -> Hid (V.heap[x3]? = some (.cells #[.int .i64 2] 3 (0, 0))) -> Hid (V.heap[x4]? = some (.cells #[.int .i64 2] 3 (0, 0))) -> ∀ ls, ls = #[true, false, false, false, true, false, true, true, false, false, false, false] -> wpAnyH Tryd.prog .any exO (NQ Q) (ExS w gB gb) 8 ls { tmps := #[.pointer (some ⟨gZ, 0, none⟩), .pointer (some ⟨gB, 0, none⟩), .slice (some ⟨gb, 0, none⟩) 2 2, .agg #[.int .i64 4, .int .i64 0, .slice (some ⟨gb, 0, none⟩) 2 2, .int .i64 0, .int .i64 (-1), .int .i64 0], .slice (some ⟨x1, 0, none⟩) 1 1, undef, undef, undef, .slice (some ⟨x3, 0, none⟩) 1 1, undef, .agg #[.int .i64 4, .int .i64 0, .slice (some ⟨gb, 0, none⟩) 2 2, .int .i64 0, .int .i64 (-1), .int .i64 0], .slice (some ⟨x4, 0, none⟩) 1 1, undef, undef, undef], defers := [] } V := by
    intro V x1 x3 x4 HB HZ H1 H3 H4 ls hl
    subst hl
    refine wpAnyH_ready (rs := [1, 2]) (by kernel_rfl) (by simp) ?_
    refine AllReadyH.cons (o := { dst := some 5, op := Op.call { callee := Callee.value (Operand.func 59), args := #[Operand.const (Value.int IntKind.i64 2), Operand.tmp 4], argTypes := #[55, 25] }, type := 57, pos := "law.go:20", after := #[{ on := 0, ground := Ground.data }], guard := none }) rfl (fun K hK => ?_) (AllReadyH.cons (o := { dst := some 6, op := Op.buildSlice 25 2 #[(0, Operand.const (Value.int IntKind.i64 0)), (1, Operand.const (Value.int IntKind.i64 1))], type := 25, pos := "law.go:20", after := #[], guard := none }) rfl (fun K hK => ?_) AllReadyH.nil)
    . go_simp
      go_at_call 59
      refine (wG19 2 _ _ _ V).mono ?_
      rintro e V2 ⟨rfl, hb⟩
      go_wp2_with fail
      refine hK.out _ _ (show (ExS w gB gb) V2 from HB.out.keep hb) (fun hHeld => ?_)
      clear hK K
      simp only [List.setIfInBounds_toArray, List.set_cons_zero, List.set_cons_succ]
      exact h1_023 _ x1 x3 x4 (hide hHeld) (hide (kp hb HZ.out)) (hide (kp hb H1.out)) (hide (kp hb H3.out)) (hide (kp hb H4.out)) _ (by kernel_rfl)
    . go_simp
      refine hK.out _ _ (show (ExS w gB gb) _ from HB.out.keep (bnew V (.cells #[.int .i64 0, .int .i64 1] 3))) (fun hHeld => ?_)
      clear hK K
      simp only [List.setIfInBounds_toArray, List.set_cons_zero, List.set_cons_succ]
      exact h0_0123 _ x1 V.heap.size x3 x4 (hide hHeld) (hide (kp (bnew V (.cells #[.int .i64 0, .int .i64 1] 3)) HZ.out)) (hide (kp (bnew V (.cells #[.int .i64 0, .int .i64 1] 3)) H1.out)) (hide (heap_alloc_new V _)) (hide (kp (bnew V (.cells #[.int .i64 0, .int .i64 1] 3)) H3.out)) (hide (kp (bnew V (.cells #[.int .i64 0, .int .i64 1] 3)) H4.out)) _ (by kernel_rfl)
  have h0_123 : ∀ (V : World) (x2 x3 x4 : Nat), Hid (ExS w gB gb V) -> Hid (V.heap[gZ]? = some (.cells #[.int .i64 0, .int .i64 0, .slice none 0 0] 24 (0, 0))) -> Hid (V.heap[x2]? = some (.cells #[.int .i64 0, .int .i64 1] 3 (0, 0))) -> Hid (V.heap[x3]? = some (.cells #[.int .i64 2] 3 (0, 0))) -> Hid (V.heap[x4]? = some (.cells #[.int .i64 2] 3 (0, 0))) -> ∀ ls, ls = #[false, false, true, false, true, false, true, true, false, false, false, false] -> wpAnyH Tryd.prog .any exO (NQ Q) (ExS w gB gb) 8 ls { tmps := #[.pointer (some ⟨gZ, 0, none⟩), .pointer (some ⟨gB, 0, none⟩), .slice (some ⟨gb, 0, none⟩) 2 2, .agg #[.int .i64 4, .int .i64 0, .slice (some ⟨gb, 0, none⟩) 2 2, .int .i64 0, .int .i64 (-1), .int .i64 0], undef, undef, .slice (some ⟨x2, 0, none⟩) 2 2, undef, .slice (some ⟨x3, 0, none⟩) 1 1, undef, .agg #[.int .i64 4, .int .i64 0, .slice (some ⟨gb, 0, none⟩) 2 2, .int .i64 0, .int .i64 (-1), .int .i64 0], .slice (some ⟨x4, 0, none⟩) 1 1, undef, undef, undef], defers := [] } V := by
    intro V x2 x3 x4 HB HZ H2 H3 H4 ls hl
    subst hl
    refine wpAnyH_ready (rs := [0]) (by kernel_rfl) (by simp) ?_
    refine AllReadyH.cons (o := { dst := some 4, op := Op.buildSlice 25 1 #[(0, Operand.const (Value.int IntKind.i64 0))], type := 25, pos := "law.go:20", after := #[], guard := none }) rfl (fun K hK => ?_) AllReadyH.nil
    . go_simp
      refine hK.out _ _ (show (ExS w gB gb) _ from HB.out.keep (bnew V (.cells #[.int .i64 0] 3))) (fun hHeld => ?_)
      clear hK K
      simp only [List.setIfInBounds_toArray, List.set_cons_zero]
      exact h0_0123 _ V.heap.size x2 x3 x4 (hide hHeld) (hide (kp (bnew V (.cells #[.int .i64 0] 3)) HZ.out)) (hide (heap_alloc_new V _)) (hide (kp (bnew V (.cells #[.int .i64 0] 3)) H2.out)) (hide (kp (bnew V (.cells #[.int .i64 0] 3)) H3.out)) (hide (kp (bnew V (.cells #[.int .i64 0] 3)) H4.out)) _ (by kernel_rfl)
  have h1_01 : ∀ (V : World) (x1 x2 : Nat), Hid (ExS w gB gb V) -> Hid (V.heap[gZ]? = some (.cells #[.int .i64 0, .int .i64 0, .slice none 0 0] 24 (0, 0))) -> Hid (V.heap[x1]? = some (.cells #[.int .i64 0] 3 (0, 0))) -> Hid (V.heap[x2]? = some (.cells #[.int .i64 0, .int .i64 1] 3 (0, 0))) -> ∀ ls, ls = #[true, true, true, false, false, false, true, false, false, false, false, false] -> wpAnyH Tryd.prog .any exO (NQ Q) (ExS w gB gb) 8 ls { tmps := #[.pointer (some ⟨gZ, 0, none⟩), .pointer (some ⟨gB, 0, none⟩), .slice (some ⟨gb, 0, none⟩) 2 2, .agg #[.int .i64 4, .int .i64 0, .slice (some ⟨gb, 0, none⟩) 2 2, .int .i64 0, .int .i64 (-1), .int .i64 0], .slice (some ⟨x1, 0, none⟩) 1 1, .agg #[.int .i64 1, .int .i64 2, .slice (some ⟨x1, 0, none⟩) 1 1, .int .i64 0, .int .i64 (-1), .int .i64 0], .slice (some ⟨x2, 0, none⟩) 2 2, undef, undef, undef, .agg #[.int .i64 4, .int .i64 0, .slice (some ⟨gb, 0, none⟩) 2 2, .int .i64 0, .int .i64 (-1), .int .i64 0], undef, undef, undef, undef], defers := [] } V := by
    intro V x1 x2 HB HZ H1 H2 ls hl
    subst hl
    refine wpAnyH_ready (rs := [3, 4, 7]) (by kernel_rfl) (by simp) ?_
    refine AllReadyH.cons (o := { dst := some 7, op := Op.call { callee := Callee.value (Operand.func 59), args := #[Operand.const (Value.int IntKind.i64 11), Operand.tmp 6], argTypes := #[55, 25] }, type := 57, pos := "law.go:20", after := #[{ on := 2, ground := Ground.data }, { on := 1, ground := Ground.chain }], guard := none }) rfl (fun K hK => ?_) (AllReadyH.cons (o := { dst := some 8, op := Op.buildSlice 25 1 #[(0, Operand.const (Value.int IntKind.i64 2))], type := 25, pos := "law.go:20", after := #[], guard := none }) rfl (fun K hK => ?_) (AllReadyH.cons (o := { dst := some 11, op := Op.buildSlice 25 1 #[(0, Operand.const (Value.int IntKind.i64 2))], type := 25, pos := "law.go:20", after := #[], guard := none }) rfl (fun K hK => ?_) AllReadyH.nil))
    . go_simp
      go_at_call 59
      refine (wG19 11 _ _ _ V).mono ?_
      rintro e V2 ⟨rfl, hb⟩
      go_wp2_with fail
      refine hK.out _ _ (show (ExS w gB gb) V2 from HB.out.keep hb) (fun hHeld => ?_)
      clear hK K
      simp only [List.setIfInBounds_toArray, List.set_cons_zero, List.set_cons_succ]
      exact h2_01 _ x1 x2 (hide hHeld) (hide (kp hb HZ.out)) (hide (kp hb H1.out)) (hide (kp hb H2.out)) _ (by kernel_rfl)
    . go_simp
      refine hK.out _ _ (show (ExS w gB gb) _ from HB.out.keep (bnew V (.cells #[.int .i64 2] 3))) (fun hHeld => ?_)
      clear hK K
      simp only [List.setIfInBounds_toArray, List.set_cons_zero, List.set_cons_succ]
      exact h1_012 _ x1 x2 V.heap.size (hide hHeld) (hide (kp (bnew V (.cells #[.int .i64 2] 3)) HZ.out)) (hide (kp (bnew V (.cells #[.int .i64 2] 3)) H1.out)) (hide (kp (bnew V (.cells #[.int .i64 2] 3)) H2.out)) (hide (heap_alloc_new V _)) _ (by kernel_rfl)
    . go_simp
      refine hK.out _ _ (show (ExS w gB gb) _ from HB.out.keep (bnew V (.cells #[.int .i64 2] 3))) (fun hHeld => ?_)
      clear hK K
      simp only [List.setIfInBounds_toArray, List.set_cons_zero, List.set_cons_succ]
      exact h1_013 _ x1 x2 V.heap.size (hide hHeld) (hide (kp (bnew V (.cells #[.int .i64 2] 3)) HZ.out)) (hide (kp (bnew V (.cells #[.int .i64 2] 3)) H1.out)) (hide (kp (bnew V (.cells #[.int .i64 2] 3)) H2.out)) (hide (heap_alloc_new V _)) _ (by kernel_rfl)
  have h1_02 : ∀ (V : World) (x1 x3 : Nat), Hid (ExS w gB gb V) -> Hid (V.heap[gZ]? = some (.cells #[.int .i64 0, .int .i64 0, .slice none 0 0] 24 (0, 0))) -> Hid (V.heap[x1]? = some (.cells #[.int .i64 0] 3 (0, 0))) -> Hid (V.heap[x3]? = some (.cells #[.int .i64 2] 3 (0, 0))) -> ∀ ls, ls = #[true, true, false, false, true, false, true, false, false, false, false, false] -> wpAnyH Tryd.prog .any exO (NQ Q) (ExS w gB gb) 8 ls { tmps := #[.pointer (some ⟨gZ, 0, none⟩), .pointer (some ⟨gB, 0, none⟩), .slice (some ⟨gb, 0, none⟩) 2 2, .agg #[.int .i64 4, .int .i64 0, .slice (some ⟨gb, 0, none⟩) 2 2, .int .i64 0, .int .i64 (-1), .int .i64 0], .slice (some ⟨x1, 0, none⟩) 1 1, .agg #[.int .i64 1, .int .i64 2, .slice (some ⟨x1, 0, none⟩) 1 1, .int .i64 0, .int .i64 (-1), .int .i64 0], undef, undef, .slice (some ⟨x3, 0, none⟩) 1 1, undef, .agg #[.int .i64 4, .int .i64 0, .slice (some ⟨gb, 0, none⟩) 2 2, .int .i64 0, .int .i64 (-1), .int .i64 0], undef, undef, undef, undef], defers := [] } V := by
    intro V x1 x3 HB HZ H1 H3 ls hl
    subst hl
    refine wpAnyH_ready (rs := [2, 7]) (by kernel_rfl) (by simp) ?_
    refine AllReadyH.cons (o := { dst := some 6, op := Op.buildSlice 25 2 #[(0, Operand.const (Value.int IntKind.i64 0)), (1, Operand.const (Value.int IntKind.i64 1))], type := 25, pos := "law.go:20", after := #[], guard := none }) rfl (fun K hK => ?_) (AllReadyH.cons (o := { dst := some 11, op := Op.buildSlice 25 1 #[(0, Operand.const (Value.int IntKind.i64 2))], type := 25, pos := "law.go:20", after := #[], guard := none }) rfl (fun K hK => ?_) AllReadyH.nil)
    . go_simp
      refine hK.out _ _ (show (ExS w gB gb) _ from HB.out.keep (bnew V (.cells #[.int .i64 0, .int .i64 1] 3))) (fun hHeld => ?_)
      clear hK K
      simp only [List.setIfInBounds_toArray, List.set_cons_zero, List.set_cons_succ]
      exact h1_012 _ x1 V.heap.size x3 (hide hHeld) (hide (kp (bnew V (.cells #[.int .i64 0, .int .i64 1] 3)) HZ.out)) (hide (kp (bnew V (.cells #[.int .i64 0, .int .i64 1] 3)) H1.out)) (hide (heap_alloc_new V _)) (hide (kp (bnew V (.cells #[.int .i64 0, .int .i64 1] 3)) H3.out)) _ (by kernel_rfl)
    . go_simp
      refine hK.out _ _ (show (ExS w gB gb) _ from HB.out.keep (bnew V (.cells #[.int .i64 2] 3))) (fun hHeld => ?_)
      clear hK K
      simp only [List.setIfInBounds_toArray, List.set_cons_zero, List.set_cons_succ]
      exact h1_023 _ x1 x3 V.heap.size (hide hHeld) (hide (kp (bnew V (.cells #[.int .i64 2] 3)) HZ.out)) (hide (kp (bnew V (.cells #[.int .i64 2] 3)) H1.out)) (hide (kp (bnew V (.cells #[.int .i64 2] 3)) H3.out)) (hide (heap_alloc_new V _)) _ (by kernel_rfl)
  have h1_03 : ∀ (V : World) (x1 x4 : Nat), Hid (ExS w gB gb V) -> Hid (V.heap[gZ]? = some (.cells #[.int .i64 0, .int .i64 0, .slice none 0 0] 24 (0, 0))) -> Hid (V.heap[x1]? = some (.cells #[.int .i64 0] 3 (0, 0))) -> Hid (V.heap[x4]? = some (.cells #[.int .i64 2] 3 (0, 0))) -> ∀ ls, ls = #[true, true, false, false, false, false, true, true, false, false, false, false] -> wpAnyH Tryd.prog .any exO (NQ Q) (ExS w gB gb) 8 ls { tmps := #[.pointer (some ⟨gZ, 0, none⟩), .pointer (some ⟨gB, 0, none⟩), .slice (some ⟨gb, 0, none⟩) 2 2, .agg #[.int .i64 4, .int .i64 0, .slice (some ⟨gb, 0, none⟩) 2 2, .int .i64 0, .int .i64 (-1), .int .i64 0], .slice (some ⟨x1, 0, none⟩) 1 1, .agg #[.int .i64 1, .int .i64 2, .slice (some ⟨x1, 0, none⟩) 1 1, .int .i64 0, .int .i64 (-1), .int .i64 0], undef, undef, undef, undef, .agg #[.int .i64 4, .int .i64 0, .slice (some ⟨gb, 0, none⟩) 2 2, .int .i64 0, .int .i64 (-1), .int .i64 0], .slice (some ⟨x4, 0, none⟩) 1 1, undef, undef, undef], defers := [] } V := by
    intro V x1 x4 HB HZ H1 H4 ls hl
    subst hl
    refine wpAnyH_ready (rs := [2, 4]) (by kernel_rfl) (by simp) ?_
    refine AllReadyH.cons (o := { dst := some 6, op := Op.buildSlice 25 2 #[(0, Operand.const (Value.int IntKind.i64 0)), (1, Operand.const (Value.int IntKind.i64 1))], type := 25, pos := "law.go:20", after := #[], guard := none }) rfl (fun K hK => ?_) (AllReadyH.cons (o := { dst := some 8, op := Op.buildSlice 25 1 #[(0, Operand.const (Value.int IntKind.i64 2))], type := 25, pos := "law.go:20", after := #[], guard := none }) rfl (fun K hK => ?_) AllReadyH.nil)
    . go_simp
      refine hK.out _ _ (show (ExS w gB gb) _ from HB.out.keep (bnew V (.cells #[.int .i64 0, .int .i64 1] 3))) (fun hHeld => ?_)
      clear hK K
      simp only [List.setIfInBounds_toArray, List.set_cons_zero, List.set_cons_succ]
      exact h1_013 _ x1 V.heap.size x4 (hide hHeld) (hide (kp (bnew V (.cells #[.int .i64 0, .int .i64 1] 3)) HZ.out)) (hide (kp (bnew V (.cells #[.int .i64 0, .int .i64 1] 3)) H1.out)) (hide (heap_alloc_new V _)) (hide (kp (bnew V (.cells #[.int .i64 0, .int .i64 1] 3)) H4.out)) _ (by kernel_rfl)
    . go_simp
      refine hK.out _ _ (show (ExS w gB gb) _ from HB.out.keep (bnew V (.cells #[.int .i64 2] 3))) (fun hHeld => ?_)
      clear hK K
      simp only [List.setIfInBounds_toArray, List.set_cons_zero, List.set_cons_succ]
      exact h1_023 _ x1 V.heap.size x4 (hide hHeld) (hide (kp (bnew V (.cells #[.int .i64 2] 3)) HZ.out)) (hide (kp (bnew V (.cells #[.int .i64 2] 3)) H1.out)) (hide (heap_alloc_new V _)) (hide (kp (bnew V (.cells #[.int .i64 2] 3)) H4.out)) _ (by kernel_rfl)
  have h0_01 : ∀ (V : World) (x1 x2 : Nat), Hid (ExS w gB gb V) -> Hid (V.heap[gZ]? = some (.cells #[.int .i64 0, .int .i64 0, .slice none 0 0] 24 (0, 0))) -> Hid (V.heap[x1]? = some (.cells #[.int .i64 0] 3 (0, 0))) -> Hid (V.heap[x2]? = some (.cells #[.int .i64 0, .int .i64 1] 3 (0, 0))) -> ∀ ls, ls = #[true, false, true, false, false, false, true, false, false, false, false, false] -> wpAnyH Tryd.prog .any exO (NQ Q) (ExS w gB gb) 9 ls { tmps := #[.pointer (some ⟨gZ, 0, none⟩), .pointer (some ⟨gB, 0, none⟩), .slice (some ⟨gb, 0, none⟩) 2 2, .agg #[.int .i64 4, .int .i64 0, .slice (some ⟨gb, 0, none⟩) 2 2, .int .i64 0, .int .i64 (-1), .int .i64 0], .slice (some ⟨x1, 0, none⟩) 1 1, undef, .slice (some ⟨x2, 0, none⟩) 2 2, undef, undef, undef, .agg #[.int .i64 4, .int .i64 0, .slice (some ⟨gb, 0, none⟩) 2 2, .int .i64 0, .int .i64 (-1), .int .i64 0], undef, undef, undef, undef], defers := [] } V := by
    intro V x1 x2 HB HZ H1 H2 ls hl
    subst hl
    refine wpAnyH_ready (rs := [1, 4, 7]) (by kernel_rfl) (by simp) ?_
    refine AllReadyH.cons (o := { dst := some 5, op := Op.call { callee := Callee.value (Operand.func 59), args := #[Operand.const (Value.int IntKind.i64 2), Operand.tmp 4], argTypes := #[55, 25] }, type := 57, pos := "law.go:20", after := #[{ on := 0, ground := Ground.data }], guard := none }) rfl (fun K hK => ?_) (AllReadyH.cons (o := { dst := some 8, op := Op.buildSlice 25 1 #[(0, Operand.const (Value.int IntKind.i64 2))], type := 25, pos := "law.go:20", after := #[], guard := none }) rfl (fun K hK => ?_) (AllReadyH.cons (o := { dst := some 11, op := Op.buildSlice 25 1 #[(0, Operand.const (Value.int IntKind.i64 2))], type := 25, pos := "law.go:20", after := #[], guard := none }) rfl (fun K hK => ?_) AllReadyH.nil))
    . go_simp
      go_at_call 59
      refine (wG19 2 _ _ _ V).mono ?_
      rintro e V2 ⟨rfl, hb⟩
      go_wp2_with fail
      refine hK.out _ _ (show (ExS w gB gb) V2 from HB.out.keep hb) (fun hHeld => ?_)
      clear hK K
      simp only [List.setIfInBounds_toArray, List.set_cons_zero, List.set_cons_succ]
      exact h1_01 _ x1 x2 (hide hHeld) (hide (kp hb HZ.out)) (hide (kp hb H1.out)) (hide (kp hb H2.out)) _ (by kernel_rfl)
    . go_simp
      refine hK.out _ _ (show (ExS w gB gb) _ from HB.out.keep (bnew V (.cells #[.int .i64 2] 3))) (fun hHeld => ?_)
      clear hK K
      simp only [List.setIfInBounds_toArray, List.set_cons_zero, List.set_cons_succ]
      exact h0_012 _ x1 x2 V.heap.size (hide hHeld) (hide (kp (bnew V (.cells #[.int .i64 2] 3)) HZ.out)) (hide (kp (bnew V (.cells #[.int .i64 2] 3)) H1.out)) (hide (kp (bnew V (.cells #[.int .i64 2] 3)) H2.out)) (hide (heap_alloc_new V _)) _ (by kernel_rfl)
    . go_simp
      refine hK.out _ _ (show (ExS w gB gb) _ from HB.out.keep (bnew V (.cells #[.int .i64 2] 3))) (fun hHeld => ?_)
      clear hK K
      simp only [List.setIfInBounds_toArray, List.set_cons_zero, List.set_cons_succ]
      exact h0_013 _ x1 x2 V.heap.size (hide hHeld) (hide (kp (bnew V (.cells #[.int .i64 2] 3)) HZ.out)) (hide (kp (bnew V (.cells #[.int .i64 2] 3)) H1.out)) (hide (kp (bnew V (.cells #[.int .i64 2] 3)) H2.out)) (hide (heap_alloc_new V _)) _ (by kernel_rfl)
  have h0_02 : ∀ (V : World) (x1 x3 : Nat), Hid (ExS w gB gb V) -> Hid (V.heap[gZ]? = some (.cells #[.int .i64 0, .int .i64 0, .slice none 0 0] 24 (0, 0))) -> Hid (V.heap[x1]? = some (.cells #[.int .i64 0] 3 (0, 0))) -> Hid (V.heap[x3]? = some (.cells #[.int .i64 2] 3 (0, 0))) -> ∀ ls, ls = #[true, false, false, false, true, false, true, false, false, false, false, false] -> wpAnyH Tryd.prog .any exO (NQ Q) (ExS w gB gb) 9 ls { tmps := #[.pointer (some ⟨gZ, 0, none⟩), .pointer (some ⟨gB, 0, none⟩), .slice (some ⟨gb, 0, none⟩) 2 2, .agg #[.int .i64 4, .int .i64 0, .slice (some ⟨gb, 0, none⟩) 2 2, .int .i64 0, .int .i64 (-1), .int .i64 0], .slice (some ⟨x1, 0, none⟩) 1 1, undef, undef, undef, .slice (some ⟨x3, 0, none⟩) 1 1, undef, .agg #[.int .i64 4, .int .i64 0, .slice (some ⟨gb, 0, none⟩) 2 2, .int .i64 0, .int .i64 (-1), .int .i64 0], undef, undef, undef, undef], defers := [] } V := by
    intro V x1 x3 HB HZ H1 H3 ls hl
    subst hl
    refine wpAnyH_ready (rs := [1, 2, 7]) (by kernel_rfl) (by simp) ?_
    refine AllReadyH.cons (o := { dst := some 5, op := Op.call { callee := Callee.value (Operand.func 59), args := #[Operand.const (Value.int IntKind.i64 2), Operand.tmp 4], argTypes := #[55, 25] }, type := 57, pos := "law.go:20", after := #[{ on := 0, ground := Ground.data }], guard := none }) rfl (fun K hK => ?_) (AllReadyH.cons (o := { dst := some 6, op := Op.buildSlice 25 2 #[(0, Operand.const (Value.int IntKind.i64 0)), (1, Operand.const (Value.int IntKind.i64 1))], type := 25, pos := "law.go:20", after := #[], guard := none }) rfl (fun K hK => ?_) (AllReadyH.cons (o := { dst := some 11, op := Op.buildSlice 25 1 #[(0, Operand.const (Value.int IntKind.i64 2))], type := 25, pos := "law.go:20", after := #[], guard := none }) rfl (fun K hK => ?_) AllReadyH.nil))
    . go_simp
      go_at_call 59
      refine (wG19 2 _ _ _ V).mono ?_
      rintro e V2 ⟨rfl, hb⟩
      go_wp2_with fail
      refine hK.out _ _ (show (ExS w gB gb) V2 from HB.out.keep hb) (fun hHeld => ?_)
      clear hK K
      simp only [List.setIfInBounds_toArray, List.set_cons_zero, List.set_cons_succ]
      exact h1_02 _ x1 x3 (hide hHeld) (hide (kp hb HZ.out)) (hide (kp hb H1.out)) (hide (kp hb H3.out)) _ (by kernel_rfl)
    . go_simp
      refine hK.out _ _ (show (ExS w gB gb) _ from HB.out.keep (bnew V (.cells #[.int .i64 0, .int .i64 1] 3))) (fun hHeld => ?_)
      clear hK K
      simp only [List.setIfInBounds_toArray, List.set_cons_zero, List.set_cons_succ]
      exact h0_012 _ x1 V.heap.size x3 (hide hHeld) (hide (kp (bnew V (.cells #[.int .i64 0, .int .i64 1] 3)) HZ.out)) (hide (kp (bnew V (.cells #[.int .i64 0, .int .i64 1] 3)) H1.out)) (hide (heap_alloc_new V _)) (hide (kp (bnew V (.cells #[.int .i64 0, .int .i64 1] 3)) H3.out)) _ (by kernel_rfl)
    . go_simp
      refine hK.out _ _ (show (ExS w gB gb) _ from HB.out.keep (bnew V (.cells #[.int .i64 2] 3))) (fun hHeld => ?_)
      clear hK K
      simp only [List.setIfInBounds_toArray, List.set_cons_zero, List.set_cons_succ]
      exact h0_023 _ x1 x3 V.heap.size (hide hHeld) (hide (kp (bnew V (.cells #[.int .i64 2] 3)) HZ.out)) (hide (kp (bnew V (.cells #[.int .i64 2] 3)) H1.out)) (hide (kp (bnew V (.cells #[.int .i64 2] 3)) H3.out)) (hide (heap_alloc_new V _)) _ (by kernel_rfl)
  have h0_03 : ∀ (V : World) (x1 x4 : Nat), Hid (ExS w gB gb V) -> Hid (V.heap[gZ]? = some (.cells #[.int .i64 0, .int .i64 0, .slice none 0 0] 24 (0, 0))) -> Hid (V.heap[x1]? = some (.cells #[.int .i64 0] 3 (0, 0))) -> Hid (V.heap[x4]? = some (.cells #[.int .i64 2] 3 (0, 0))) -> ∀ ls, ls = #[true, false, false, false, false, false, true, true, false, false, false, false] -> wpAnyH Tryd.prog .any exO (NQ Q) (ExS w gB gb) 9 ls { tmps := #[.pointer (some ⟨gZ, 0, none⟩), .pointer (some ⟨gB, 0, none⟩), .slice (some ⟨gb, 0, none⟩) 2 2, .agg #[.int .i64 4, .int .i64 0, .slice (some ⟨gb, 0, none⟩) 2 2, .int .i64 0, .int .i64 (-1), .int .i64 0], .slice (some ⟨x1, 0, none⟩) 1 1, undef, undef, undef, undef, undef, .agg #[.int .i64 4, .int .i64 0, .slice (some ⟨gb, 0, none⟩) 2 2, .int .i64 0, .int .i64 (-1), .int .i64 0], .slice (some ⟨x4, 0, none⟩) 1 1, undef, undef, undef], defers := [] } V := by
    intro V x1 x4 HB HZ H1 H4 ls hl
    subst hl
    refine wpAnyH_ready (rs := [1, 2, 4]) (by kernel_rfl) (by simp) ?_
    refine AllReadyH.cons (o := { dst := some 5, op := Op.call { callee := Callee.value (Operand.func 59), args := #[Operand.const (Value.int IntKind.i64 2), Operand.tmp 4], argTypes := #[55, 25] }, type := 57, pos := "law.go:20", after := #[{ on := 0, ground := Ground.data }], guard := none }) rfl (fun K hK => ?_) (AllReadyH.cons (o := { dst := some 6, op := Op.buildSlice 25 2 #[(0, Operand.const (Value.int IntKind.i64 0)), (1, Operand.const (Value.int IntKind.i64 1))], type := 25, pos := "law.go:20", after := #[], guard := none }) rfl (fun K hK => ?_) (AllReadyH.cons (o := { dst := some 8, op := Op.buildSlice 25 1 #[(0, Operand.const (Value.int IntKind.i64 2))], type := 25, pos := "law.go:20", after := #[], guard := none }) rfl (fun K hK => ?_) AllReadyH.nil))
    . go_simp
      go_at_call 59
      refine (wG19 2 _ _ _ V).mono ?_
      rintro e V2 ⟨rfl, hb⟩
      go_wp2_with fail
      refine hK.out _ _ (show (ExS w gB gb) V2 from HB.out.keep hb) (fun hHeld => ?_)
      clear hK K
      simp only [List.setIfInBounds_toArray, List.set_cons_zero, List.set_cons_succ]
      exact h1_03 _ x1 x4 (hide hHeld) (hide (kp hb HZ.out)) (hide (kp hb H1.out)) (hide (kp hb H4.out)) _ (by kernel_rfl)
    . go_simp
      refine hK.out _ _ (show (ExS w gB gb) _ from HB.out.keep (bnew V (.cells #[.int .i64 0, .int .i64 1] 3))) (fun hHeld => ?_)
      clear hK K
      simp only [List.setIfInBounds_toArray, List.set_cons_zero, List.set_cons_succ]
      exact h0_013 _ x1 V.heap.size x4 (hide hHeld) (hide (kp (bnew V (.cells #[.int .i64 0, .int .i64 1] 3)) HZ.out)) (hide (kp (bnew V (.cells #[.int .i64 0, .int .i64 1] 3)) H1.out)) (hide (heap_alloc_new V _)) (hide (kp (bnew V (.cells #[.int .i64 0, .int .i64 1] 3)) H4.out)) _ (by kernel_rfl)
    . go_simp
      refine hK.out _ _ (show (ExS w gB gb) _ from HB.out.keep (bnew V (.cells #[.int .i64 2] 3))) (fun hHeld => ?_)
      clear hK K
      simp only [List.setIfInBounds_toArray, List.set_cons_zero, List.set_cons_succ]
      exact h0_023 _ x1 V.heap.size x4 (hide hHeld) (hide (kp (bnew V (.cells #[.int .i64 2] 3)) HZ.out)) (hide (kp (bnew V (.cells #[.int .i64 2] 3)) H1.out)) (hide (heap_alloc_new V _)) (hide (kp (bnew V (.cells #[.int .i64 2] 3)) H4.out)) _ (by kernel_rfl)
  have h0_12 : ∀ (V : World) (x2 x3 : Nat), Hid (ExS w gB gb V) -> Hid (V.heap[gZ]? = some (.cells #[.int .i64 0, .int .i64 0, .slice none 0 0] 24 (0, 0))) -> Hid (V.heap[x2]? = some (.cells #[.int .i64 0, .int .i64 1] 3 (0, 0))) -> Hid (V.heap[x3]? = some (.cells #[.int .i64 2] 3 (0, 0))) -> ∀ ls, ls = #[false, false, true, false, true, false, true, false, false, false, false, false] -> wpAnyH Tryd.prog .any exO (NQ Q) (ExS w gB gb) 9 ls { tmps := #[.pointer (some ⟨gZ, 0, none⟩), .pointer (some ⟨gB, 0, none⟩), .slice (some ⟨gb, 0, none⟩) 2 2, .agg #[.int .i64 4, .int .i64 0, .slice (some ⟨gb, 0, none⟩) 2 2, .int .i64 0, .int .i64 (-1), .int .i64 0], undef, undef, .slice (some ⟨x2, 0, none⟩) 2 2, undef, .slice (some ⟨x3, 0, none⟩) 1 1, undef, .agg #[.int .i64 4, .int .i64 0, .slice (some ⟨gb, 0, none⟩) 2 2, .int .i64 0, .int .i64 (-1), .int .i64 0], undef, undef, undef, undef], defers := [] } V := by
    intro V x2 x3 HB HZ H2 H3 ls hl
    subst hl
    refine wpAnyH_ready (rs := [0, 7]) (by kernel_rfl) (by simp) ?_
    refine AllReadyH.cons (o := { dst := some 4, op := Op.buildSlice 25 1 #[(0, Operand.const (Value.int IntKind.i64 0))], type := 25, pos := "law.go:20", after := #[], guard := none }) rfl (fun K hK => ?_) (AllReadyH.cons (o := { dst := some 11, op := Op.buildSlice 25 1 #[(0, Operand.const (Value.int IntKind.i64 2))], type := 25, pos := "law.go:20", after := #[], guard := none }) rfl (fun K hK => ?_) AllReadyH.nil)
    . go_simp
      refine hK.out _ _ (show (ExS w gB gb) _ from HB.out.keep (bnew V (.cells #[.int .i64 0] 3))) (fun hHeld => ?_)
      clear hK K
      simp only [List.setIfInBounds_toArray, List.set_cons_zero]
      exact h0_012 _ V.heap.size x2 x3 (hide hHeld) (hide (kp (bnew V (.cells #[.int .i64 0] 3)) HZ.out)) (hide (heap_alloc_new V _)) (hide (kp (bnew V (.cells #[.int .i64 0] 3)) H2.out)) (hide (kp (bnew V (.cells #[.int .i64 0] 3)) H3.out)) _ (by kernel_rfl)
    . go_simp
      refine hK.out _ _ (show (ExS w gB gb) _ from HB.out.keep (bnew V (.cells #[.int .i64 2] 3))) (fun hHeld => ?_)
      clear hK K
      simp only [List.setIfInBounds_toArray, List.set_cons_zero, List.set_cons_succ]
      exact h0_123 _ x2 x3 V.heap.size (hide hHeld) (hide (kp (bnew V (.cells #[.int .i64 2] 3)) HZ.out)) (hide (kp (bnew V (.cells #[.int .i64 2] 3)) H2.out)) (hide (kp (bnew V (.cells #[.int .i64 2] 3)) H3.out)) (hide (heap_alloc_new V _)) _ (by kernel_rfl)
  have h0_13 : ∀ (V : World) (x2 x4 : Nat), Hid (ExS w gB gb V) -> Hid (V.heap[gZ]? = some (.cells #[.int .i64 0, .int .i64 0, .slice none 0 0] 24 (0, 0))) -> Hid (V.heap[x2]? = some (.cells #[.int .i64 0, .int .i64 1] 3 (0, 0))) -> Hid (V.heap[x4]? = some (.cells #[.int .i64 2] 3 (0, 0))) -> ∀ ls, ls = #[false, false, true, false, false, false, true, true, false, false, false, false] -> wpAnyH Tryd.prog .any exO (NQ Q) (ExS w gB gb) 9 ls { tmps := #[.pointer (some ⟨gZ, 0, none⟩), .pointer (some ⟨gB, 0, none⟩), .slice (some ⟨gb, 0, none⟩) 2 2, .agg #[.int .i64 4, .int .i64 0, .slice (some ⟨gb, 0, none⟩) 2 2, .int .i64 0, .int .i64 (-1), .int .i64 0], undef, undef, .slice (some ⟨x2, 0, none⟩) 2 2, undef, undef, undef, .agg #[.int .i64 4, .int .i64 0, .slice (some ⟨gb, 0, none⟩) 2 2, .int .i64 0, .int .i64 (-1), .int .i64 0], .slice (some ⟨x4, 0, none⟩) 1 1, undef, undef, undef], defers := [] } V := by
    intro V x2 x4 HB HZ H2 H4 ls hl
    subst hl
    refine wpAnyH_ready (rs := [0, 4]) (by kernel_rfl) (by simp) ?_
    refine AllReadyH.cons (o := { dst := some 4, op := Op.buildSlice 25 1 #[(0, Operand.const (Value.int IntKind.i64 0))], type := 25, pos := "law.go:20", after := #[], guard := none }) rfl (fun K hK => ?_) (AllReadyH.cons (o := { dst := some 8, op := Op.buildSlice 25 1 #[(0, Operand.const (Value.int IntKind.i64 2))], type := 25, pos := "law.go:20", after := #[], guard := none }) rfl (fun K hK => ?_) AllReadyH.nil)
    . go_simp
      refine hK.out _ _ (show (ExS w gB gb) _ from HB.out.keep (bnew V (.cells #[.int .i64 0] 3))) (fun hHeld => ?_)
      clear hK K
      simp only [List.setIfInBounds_toArray, List.set_cons_zero]
      exact h0_013 _ V.heap.size x2 x4 (hide hHeld) (hide (kp (bnew V (.cells #[.int .i64 0] 3)) HZ.out)) (hide (heap_alloc_new V _)) (hide (kp (bnew V (.cells #[.int .i64 0] 3)) H2.out)) (hide (kp (bnew V (.cells #[.int .i64 0] 3)) H4.out)) _ (by kernel_rfl)
    . go_simp
      refine hK.out _ _ (show (ExS w gB gb) _ from HB.out.keep (bnew V (.cells #[.int .i64 2] 3))) (fun hHeld => ?_)
      clear hK K
      simp only [List.setIfInBounds_toArray, List.set_cons_zero, List.set_cons_succ]
      exact h0_123 _ x2 V.heap.size x4 (hide hHeld) (hide (kp (bnew V (.cells #[.int .i64 2] 3)) HZ.out)) (hide (kp (bnew V (.cells #[.int .i64 2] 3)) H2.out)) (hide (heap_alloc_new V _)) (hide (kp (bnew V (.cells #[.int .i64 2] 3)) H4.out)) _ (by kernel_rfl)
  have h0_23 : ∀ (V : World) (x3 x4 : Nat), Hid (ExS w gB gb V) -> Hid (V.heap[gZ]? = some (.cells #[.int .i64 0, .int .i64 0, .slice none 0 0] 24 (0, 0))) -> Hid (V.heap[x3]? = some (.cells #[.int .i64 2] 3 (0, 0))) -> Hid (V.heap[x4]? = some (.cells #[.int .i64 2] 3 (0, 0))) -> ∀ ls, ls = #[false, false, false, false, true, false, true, true, false, false, false, false] -> wpAnyH Tryd.prog .any exO (NQ Q) (ExS w gB gb) 9 ls { tmps := #[.pointer (some ⟨gZ, 0, none⟩), .pointer (some ⟨gB, 0, none⟩), .slice (some ⟨gb, 0, none⟩) 2 2, .agg #[.int .i64 4, .int .i64 0, .slice (some ⟨gb, 0, none⟩) 2 2, .int .i64 0, .int .i64 (-1), .int .i64 0], undef, undef, undef, undef, .slice (some ⟨x3, 0, none⟩) 1 1, undef, .agg #[.int .i64 4, .int .i64 0, .slice (some ⟨gb, 0, none⟩) 2 2, .int .i64 0, .int .i64 (-1), .int .i64 0], .slice (some ⟨x4, 0, none⟩) 1 1, undef, undef, undef], defers := [] } V := by
    intro V x3 x4 HB HZ H3 H4 ls hl
    subst hl
    refine wpAnyH_ready (rs := [0, 2]) (by kernel_rfl) (by simp) ?_
    refine AllReadyH.cons (o := { dst := some 4, op := Op.buildSlice 25 1 #[(0, Operand.const (Value.int IntKind.i64 0))], type := 25, pos := "law.go:20", after := #[], guard := none }) rfl (fun K hK => ?_) (AllReadyH.cons (o := { dst := some 6, op := Op.buildSlice 25 2 #[(0, Operand.const (Value.int IntKind.i64 0)), (1, Operand.const (Value.int IntKind.i64 1))], type := 25, pos := "law.go:20", after := #[], guard := none }) rfl (fun K hK => ?_) AllReadyH.nil)
    . go_simp
      refine hK.out _ _ (show (ExS w gB gb) _ from HB.out.keep (bnew V (.cells #[.int .i64 0] 3))) (fun hHeld => ?_)
      clear hK K
      simp only [List.setIfInBounds_toArray, List.set_cons_zero]
      exact h0_023 _ V.heap.size x3 x4 (hide hHeld) (hide (kp (bnew V (.cells #[.int .i64 0] 3)) HZ.out)) (hide (heap_alloc_new V _)) (hide (kp (bnew V (.cells #[.int .i64 0] 3)) H3.out)) (hide (kp (bnew V (.cells #[.int .i64 0] 3)) H4.out)) _ (by kernel_rfl)
    . go_simp
      refine hK.out _ _ (show (ExS w gB gb) _ from HB.out.keep (bnew V (.cells #[.int .i64 0, .int .i64 1] 3))) (fun hHeld => ?_)
      clear hK K
      simp only [List.setIfInBounds_toArray, List.set_cons_zero, List.set_cons_succ]
      exact h0_123 _ V.heap.size x3 x4 (hide hHeld) (hide (kp (bnew V (.cells #[.int .i64 0, .int .i64 1] 3)) HZ.out)) (hide (heap_alloc_new V _)) (hide (kp (bnew V (.cells #[.int .i64 0, .int .i64 1] 3)) H3.out)) (hide (kp (bnew V (.cells #[.int .i64 0, .int .i64 1] 3)) H4.out)) _ (by kernel_rfl)
  have h1_0 : ∀ (V : World) (x1 : Nat), Hid (ExS w gB gb V) -> Hid (V.heap[gZ]? = some (.cells #[.int .i64 0, .int .i64 0, .slice none 0 0] 24 (0, 0))) -> Hid (V.heap[x1]? = some (.cells #[.int .i64 0] 3 (0, 0))) -> ∀ ls, ls = #[true, true, false, false, false, false, true, false, false, false, false, false] -> wpAnyH Tryd.prog .any exO (NQ Q) (ExS w gB gb) 9 ls { tmps := #[.pointer (some ⟨gZ, 0, none⟩), .pointer (some ⟨gB, 0, none⟩), .slice (some ⟨gb, 0, none⟩) 2 2, .agg #[.int .i64 4, .int .i64 0, .slice (some ⟨gb, 0, none⟩) 2 2, .int .i64 0, .int .i64 (-1), .int .i64 0], .slice (some ⟨x1, 0, none⟩) 1 1, .agg #[.int .i64 1, .int .i64 2, .slice (some ⟨x1, 0, none⟩) 1 1, .int .i64 0, .int .i64 (-1), .int .i64 0], undef, undef, undef, undef, .agg #[.int .i64 4, .int .i64 0, .slice (some ⟨gb, 0, none⟩) 2 2, .int .i64 0, .int .i64 (-1), .int .i64 0], undef, undef, undef, undef], defers := [] } V := by
    intro V x1 HB HZ H1 ls hl
    subst hl
    refine wpAnyH_ready (rs := [2, 4, 7]) (by kernel_rfl) (by simp) ?_
    refine AllReadyH.cons (o := { dst := some 6, op := Op.buildSlice 25 2 #[(0, Operand.const (Value.int IntKind.i64 0)), (1, Operand.const (Value.int IntKind.i64 1))], type := 25, pos := "law.go:20", after := #[], guard := none }) rfl (fun K hK => ?_) (AllReadyH.cons (o := { dst := some 8, op := Op.buildSlice 25 1 #[(0, Operand.const (Value.int IntKind.i64 2))], type := 25, pos := "law.go:20", after := #[], guard := none }) rfl (fun K hK => ?_) (AllReadyH.cons (o := { dst := some 11, op := Op.buildSlice 25 1 #[(0, Operand.const (Value.int IntKind.i64 2))], type := 25, pos := "law.go:20", after := #[], guard := none }) rfl (fun K hK => ?_) AllReadyH.nil))
    . go_simp
      refine hK.out _ _ (show (ExS w gB gb) _ from HB.out.keep (bnew V (.cells #[.int .i64 0, .int .i64 1] 3))) (fun hHeld => ?_)
      clear hK K
      simp only [List.setIfInBounds_toArray, List.set_cons_zero, List.set_cons_succ]
      exact h1_01 _ x1 V.heap.size (hide hHeld) (hide (kp (bnew V (.cells #[.int .i64 0, .int .i64 1] 3)) HZ.out)) (hide (kp (bnew V (.cells #[.int .i64 0, .int .i64 1] 3)) H1.out)) (hide (heap_alloc_new V _)) _ (by kernel_rfl)
    . go_simp
      refine hK.out _ _ (show (ExS w gB gb) _ from HB.out.keep (bnew V (.cells #[.int .i64 2] 3))) (fun hHeld => ?_)
      clear hK K
      simp only [List.setIfInBounds_toArray, List.set_cons_zero, List.set_cons_succ]
      exact h1_02 _ x1 V.heap.size (hide hHeld) (hide (kp (bnew V (.cells #[.int .i64 2] 3)) HZ.out)) (hide (kp (bnew V (.cells #[.int .i64 2] 3)) H1.out)) (hide (heap_alloc_new V _)) _ (by kernel_rfl)
    . go_simp
      refine hK.out _ _ (show (ExS w gB gb) _ from HB.out.keep (bnew V (.cells #[.int .i64 2] 3))) (fun hHeld => ?_)
      clear hK K
      simp only [List.setIfInBounds_toArray, List.set_cons_zero, List.set_cons_succ]
      exact h1_03 _ x1 V.heap.size (hide hHeld) (hide (kp (bnew V (.cells #[.int .i64 2] 3)) HZ.out)) (hide (kp (bnew V (.cells #[.int .i64 2] 3)) H1.out)) (hide (heap_alloc_new V _)) _ (by kernel_rfl)
  have h0_0 : ∀ (V : World) (x1 : Nat), Hid (ExS w gB gb V) -> Hid (V.heap[gZ]? = some (.cells #[.int .i64 0, .int .i64 0, .slice none 0 0] 24 (0, 0))) -> Hid (V.heap[x1]? = some (.cells #[.int .i64 0] 3 (0, 0))) -> ∀ ls, ls = #[true, false, false, false, false, false, true, false, false, false, false, false] -> wpAnyH Tryd.prog .any exO (NQ Q) (ExS w gB gb) 10 ls { tmps := #[.pointer (some ⟨gZ, 0, none⟩), .pointer (some ⟨gB, 0, none⟩), .slice (some ⟨gb, 0, none⟩) 2 2, .agg #[.int .i64 4, .int .i64 0, .slice (some ⟨gb, 0, none⟩) 2 2, .int .i64 0, .int .i64 (-1), .int .i64 0], .slice (some ⟨x1, 0, none⟩) 1 1, undef, undef, undef, undef, undef, .agg #[.int .i64 4, .int .i64 0, .slice (some ⟨gb, 0, none⟩) 2 2, .int .i64 0, .int .i64 (-1), .int .i64 0], undef, undef, undef, undef], defers := [] } V := by
    intro V x1 HB HZ H1 ls hl
    subst hl
    refine wpAnyH_ready (rs := [1, 2, 4, 7]) (by kernel_rfl) (by simp) ?_
    refine AllReadyH.cons (o := { dst := some 5, op := Op.call { callee := Callee.value (Operand.func 59), args := #[Operand.const (Value.int IntKind.i64 2), Operand.tmp 4], argTypes := #[55, 25] }, type := 57, pos := "law.go:20", after := #[{ on := 0, ground := Ground.data }], guard := none }) rfl (fun K hK => ?_) (AllReadyH.cons (o := { dst := some 6, op := Op.buildSlice 25 2 #[(0, Operand.const (Value.int IntKind.i64 0)), (1, Operand.const (Value.int IntKind.i64 1))], type := 25, pos := "law.go:20", after := #[], guard := none }) rfl (fun K hK => ?_) (AllReadyH.cons (o := { dst := some 8, op := Op.buildSlice 25 1 #[(0, Operand.const (Value.int IntKind.i64 2))], type := 25, pos := "law.go:20", after := #[], guard := none }) rfl (fun K hK => ?_) (AllReadyH.cons (o := { dst := some 11, op := Op.buildSlice 25 1 #[(0, Operand.const (Value.int IntKind.i64 2))], type := 25, pos := "law.go:20", after := #[], guard := none }) rfl (fun K hK => ?_) AllReadyH.nil)))
    . go_simp
      go_at_call 59
      refine (wG19 2 _ _ _ V).mono ?_
      rintro e V2 ⟨rfl, hb⟩
      go_wp2_with fail
      refine hK.out _ _ (show (ExS w gB gb) V2 from HB.out.keep hb) (fun hHeld => ?_)
      clear hK K
      simp only [List.setIfInBounds_toArray, List.set_cons_zero, List.set_cons_succ]
      exact h1_0 _ x1 (hide hHeld) (hide (kp hb HZ.out)) (hide (kp hb H1.out)) _ (by kernel_rfl)
    . go_simp
      refine hK.out _ _ (show (ExS w gB gb) _ from HB.out.keep (bnew V (.cells #[.int .i64 0, .int .i64 1] 3))) (fun hHeld => ?_)
      clear hK K
      simp only [List.setIfInBounds_toArray, List.set_cons_zero, List.set_cons_succ]
      exact h0_01 _ x1 V.heap.size (hide hHeld) (hide (kp (bnew V (.cells #[.int .i64 0, .int .i64 1] 3)) HZ.out)) (hide (kp (bnew V (.cells #[.int .i64 0, .int .i64 1] 3)) H1.out)) (hide (heap_alloc_new V _)) _ (by kernel_rfl)
    . go_simp
      refine hK.out _ _ (show (ExS w gB gb) _ from HB.out.keep (bnew V (.cells #[.int .i64 2] 3))) (fun hHeld => ?_)
      clear hK K
      simp only [List.setIfInBounds_toArray, List.set_cons_zero, List.set_cons_succ]
      exact h0_02 _ x1 V.heap.size (hide hHeld) (hide (kp (bnew V (.cells #[.int .i64 2] 3)) HZ.out)) (hide (kp (bnew V (.cells #[.int .i64 2] 3)) H1.out)) (hide (heap_alloc_new V _)) _ (by kernel_rfl)
    . go_simp
      refine hK.out _ _ (show (ExS w gB gb) _ from HB.out.keep (bnew V (.cells #[.int .i64 2] 3))) (fun hHeld => ?_)
      clear hK K
      simp only [List.setIfInBounds_toArray, List.set_cons_zero, List.set_cons_succ]
      exact h0_03 _ x1 V.heap.size (hide hHeld) (hide (kp (bnew V (.cells #[.int .i64 2] 3)) HZ.out)) (hide (kp (bnew V (.cells #[.int .i64 2] 3)) H1.out)) (hide (heap_alloc_new V _)) _ (by kernel_rfl)
  have h0_1 : ∀ (V : World) (x2 : Nat), Hid (ExS w gB gb V) -> Hid (V.heap[gZ]? = some (.cells #[.int .i64 0, .int .i64 0, .slice none 0 0] 24 (0, 0))) -> Hid (V.heap[x2]? = some (.cells #[.int .i64 0, .int .i64 1] 3 (0, 0))) -> ∀ ls, ls = #[false, false, true, false, false, false, true, false, false, false, false, false] -> wpAnyH Tryd.prog .any exO (NQ Q) (ExS w gB gb) 10 ls { tmps := #[.pointer (some ⟨gZ, 0, none⟩), .pointer (some ⟨gB, 0, none⟩), .slice (some ⟨gb, 0, none⟩) 2 2, .agg #[.int .i64 4, .int .i64 0, .slice (some ⟨gb, 0, none⟩) 2 2, .int .i64 0, .int .i64 (-1), .int .i64 0], undef, undef, .slice (some ⟨x2, 0, none⟩) 2 2, undef, undef, undef, .agg #[.int .i64 4, .int .i64 0, .slice (some ⟨gb, 0, none⟩) 2 2, .int .i64 0, .int .i64 (-1), .int .i64 0], undef, undef, undef, undef], defers := [] } V := by
    intro V x2 HB HZ H2 ls hl
    subst hl
    refine wpAnyH_ready (rs := [0, 4, 7]) (by kernel_rfl) (by simp) ?_
    refine AllReadyH.cons (o := { dst := some 4, op := Op.buildSlice 25 1 #[(0, Operand.const (Value.int IntKind.i64 0))], type := 25, pos := "law.go:20", after := #[], guard := none }) rfl (fun K hK => ?_) (AllReadyH.cons (o := { dst := some 8, op := Op.buildSlice 25 1 #[(0, Operand.const (Value.int IntKind.i64 2))], type := 25, pos := "law.go:20", after := #[], guard := none }) rfl (fun K hK => ?_) (AllReadyH.cons (o := { dst := some 11, op := Op.buildSlice 25 1 #[(0, Operand.const (Value.int IntKind.i64 2))], type := 25, pos := "law.go:20", after := #[], guard := none }) rfl (fun K hK => ?_) AllReadyH.nil))
    . go_simp
      refine hK.out _ _ (show (ExS w gB gb) _ from HB.out.keep (bnew V (.cells #[.int .i64 0] 3))) (fun hHeld => ?_)
      clear hK K
      simp only [List.setIfInBounds_toArray, List.set_cons_zero]
      exact h0_01 _ V.heap.size x2 (hide hHeld) (hide (kp (bnew V (.cells #[.int .i64 0] 3)) HZ.out)) (hide (heap_alloc_new V _)) (hide (kp (bnew V (.cells #[.int .i64 0] 3)) H2.out)) _ (by kernel_rfl)
    . go_simp
      refine hK.out _ _ (show (ExS w gB gb) _ from HB.out.keep (bnew V (.cells #[.int .i64 2] 3))) (fun hHeld => ?_)
      clear hK K
      simp only [List.setIfInBounds_toArray, List.set_cons_zero, List.set_cons_succ]
      exact h0_12 _ x2 V.heap.size (hide hHeld) (hide (kp (bnew V (.cells #[.int .i64 2] 3)) HZ.out)) (hide (kp (bnew V (.cells #[.int .i64 2] 3)) H2.out)) (hide (heap_alloc_new V _)) _ (by kernel_rfl)
    . go_simp
      refine hK.out _ _ (show (ExS w gB gb) _ from HB.out.keep (bnew V (.cells #[.int .i64 2] 3))) (fun hHeld => ?_)
      clear hK K
      simp only [List.setIfInBounds_toArray, List.set_cons_zero, List.set_cons_succ]
      exact h0_13 _ x2 V.heap.size (hide hHeld) (hide (kp (bnew V (.cells #[.int .i64 2] 3)) HZ.out)) (hide (kp (bnew V (.cells #[.int .i64 2] 3)) H2.out)) (hide (heap_alloc_new V _)) _ (by kernel_rfl)
  have h0_2 : ∀ (V : World) (x3 : Nat), Hid (ExS w gB gb V) -> Hid (V.heap[gZ]? = some (.cells #[.int .i64 0, .int .i64 0, .slice none 0 0] 24 (0, 0))) -> Hid (V.heap[x3]? = some (.cells #[.int .i64 2] 3 (0, 0))) -> ∀ ls, ls = #[false, false, false, false, true, false, true, false, false, false, false, false] -> wpAnyH Tryd.prog .any exO (NQ Q) (ExS w gB gb) 10 ls { tmps := #[.pointer (some ⟨gZ, 0, none⟩), .pointer (some ⟨gB, 0, none⟩), .slice (some ⟨gb, 0, none⟩) 2 2, .agg #[.int .i64 4, .int .i64 0, .slice (some ⟨gb, 0, none⟩) 2 2, .int .i64 0, .int .i64 (-1), .int .i64 0], undef, undef, undef, undef, .slice (some ⟨x3, 0, none⟩) 1 1, undef, .agg #[.int .i64 4, .int .i64 0, .slice (some ⟨gb, 0, none⟩) 2 2, .int .i64 0, .int .i64 (-1), .int .i64 0], undef, undef, undef, undef], defers := [] } V := by
    intro V x3 HB HZ H3 ls hl
    subst hl
    refine wpAnyH_ready (rs := [0, 2, 7]) (by kernel_rfl) (by simp) ?_
    refine AllReadyH.cons (o := { dst := some 4, op := Op.buildSlice 25 1 #[(0, Operand.const (Value.int IntKind.i64 0))], type := 25, pos := "law.go:20", after := #[], guard := none }) rfl (fun K hK => ?_) (AllReadyH.cons (o := { dst := some 6, op := Op.buildSlice 25 2 #[(0, Operand.const (Value.int IntKind.i64 0)), (1, Operand.const (Value.int IntKind.i64 1))], type := 25, pos := "law.go:20", after := #[], guard := none }) rfl (fun K hK => ?_) (AllReadyH.cons (o := { dst := some 11, op := Op.buildSlice 25 1 #[(0, Operand.const (Value.int IntKind.i64 2))], type := 25, pos := "law.go:20", after := #[], guard := none }) rfl (fun K hK => ?_) AllReadyH.nil))
    . go_simp
      refine hK.out _ _ (show (ExS w gB gb) _ from HB.out.keep (bnew V (.cells #[.int .i64 0] 3))) (fun hHeld => ?_)
      clear hK K
      simp only [List.setIfInBounds_toArray, List.set_cons_zero]
      exact h0_02 _ V.heap.size x3 (hide hHeld) (hide (kp (bnew V (.cells #[.int .i64 0] 3)) HZ.out)) (hide (heap_alloc_new V _)) (hide (kp (bnew V (.cells #[.int .i64 0] 3)) H3.out)) _ (by kernel_rfl)
    . go_simp
      refine hK.out _ _ (show (ExS w gB gb) _ from HB.out.keep (bnew V (.cells #[.int .i64 0, .int .i64 1] 3))) (fun hHeld => ?_)
      clear hK K
      simp only [List.setIfInBounds_toArray, List.set_cons_zero, List.set_cons_succ]
      exact h0_12 _ V.heap.size x3 (hide hHeld) (hide (kp (bnew V (.cells #[.int .i64 0, .int .i64 1] 3)) HZ.out)) (hide (heap_alloc_new V _)) (hide (kp (bnew V (.cells #[.int .i64 0, .int .i64 1] 3)) H3.out)) _ (by kernel_rfl)
    . go_simp
      refine hK.out _ _ (show (ExS w gB gb) _ from HB.out.keep (bnew V (.cells #[.int .i64 2] 3))) (fun hHeld => ?_)
      clear hK K
      simp only [List.setIfInBounds_toArray, List.set_cons_zero, List.set_cons_succ]
      exact h0_23 _ x3 V.heap.size (hide hHeld) (hide (kp (bnew V (.cells #[.int .i64 2] 3)) HZ.out)) (hide (kp (bnew V (.cells #[.int .i64 2] 3)) H3.out)) (hide (heap_alloc_new V _)) _ (by kernel_rfl)
  have h0_3 : ∀ (V : World) (x4 : Nat), Hid (ExS w gB gb V) -> Hid (V.heap[gZ]? = some (.cells #[.int .i64 0, .int .i64 0, .slice none 0 0] 24 (0, 0))) -> Hid (V.heap[x4]? = some (.cells #[.int .i64 2] 3 (0, 0))) -> ∀ ls, ls = #[false, false, false, false, false, false, true, true, false, false, false, false] -> wpAnyH Tryd.prog .any exO (NQ Q) (ExS w gB gb) 10 ls { tmps := #[.pointer (some ⟨gZ, 0, none⟩), .pointer (some ⟨gB, 0, none⟩), .slice (some ⟨gb, 0, none⟩) 2 2, .agg #[.int .i64 4, .int .i64 0, .slice (some ⟨gb, 0, none⟩) 2 2, .int .i64 0, .int .i64 (-1), .int .i64 0], undef, undef, undef, undef, undef, undef, .agg #[.int .i64 4, .int .i64 0, .slice (some ⟨gb, 0, none⟩) 2 2, .int .i64 0, .int .i64 (-1), .int .i64 0], .slice (some ⟨x4, 0, none⟩) 1 1, undef, undef, undef], defers := [] } V := by
    intro V x4 HB HZ H4 ls hl
    subst hl
    refine wpAnyH_ready (rs := [0, 2, 4]) (by kernel_rfl) (by simp) ?_
    refine AllReadyH.cons (o := { dst := some 4, op := Op.buildSlice 25 1 #[(0, Operand.const (Value.int IntKind.i64 0))], type := 25, pos := "law.go:20", after := #[], guard := none }) rfl (fun K hK => ?_) (AllReadyH.cons (o := { dst := some 6, op := Op.buildSlice 25 2 #[(0, Operand.const (Value.int IntKind.i64 0)), (1, Operand.const (Value.int IntKind.i64 1))], type := 25, pos := "law.go:20", after := #[], guard := none }) rfl (fun K hK => ?_) (AllReadyH.cons (o := { dst := some 8, op := Op.buildSlice 25 1 #[(0, Operand.const (Value.int IntKind.i64 2))], type := 25, pos := "law.go:20", after := #[], guard := none }) rfl (fun K hK => ?_) AllReadyH.nil))
    . go_simp
      refine hK.out _ _ (show (ExS w gB gb) _ from HB.out.keep (bnew V (.cells #[.int .i64 0] 3))) (fun hHeld => ?_)
      clear hK K
      simp only [List.setIfInBounds_toArray, List.set_cons_zero]
      exact h0_03 _ V.heap.size x4 (hide hHeld) (hide (kp (bnew V (.cells #[.int .i64 0] 3)) HZ.out)) (hide (heap_alloc_new V _)) (hide (kp (bnew V (.cells #[.int .i64 0] 3)) H4.out)) _ (by kernel_rfl)
    . go_simp
      refine hK.out _ _ (show (ExS w gB gb) _ from HB.out.keep (bnew V (.cells #[.int .i64 0, .int .i64 1] 3))) (fun hHeld => ?_)
      clear hK K
      simp only [List.setIfInBounds_toArray, List.set_cons_zero, List.set_cons_succ]
      exact h0_13 _ V.heap.size x4 (hide hHeld) (hide (kp (bnew V (.cells #[.int .i64 0, .int .i64 1] 3)) HZ.out)) (hide (heap_alloc_new V _)) (hide (kp (bnew V (.cells #[.int .i64 0, .int .i64 1] 3)) H4.out)) _ (by kernel_rfl)
    . go_simp
      refine hK.out _ _ (show (ExS w gB gb) _ from HB.out.keep (bnew V (.cells #[.int .i64 2] 3))) (fun hHeld => ?_)
      clear hK K
      simp only [List.setIfInBounds_toArray, List.set_cons_zero, List.set_cons_succ]
      exact h0_23 _ V.heap.size x4 (hide hHeld) (hide (kp (bnew V (.cells #[.int .i64 2] 3)) HZ.out)) (hide (heap_alloc_new V _)) (hide (kp (bnew V (.cells #[.int .i64 2] 3)) H4.out)) _ (by kernel_rfl)
  have h0_ : ∀ (V : World), Hid (ExS w gB gb V) -> Hid (V.heap[gZ]? = some (.cells #[.int .i64 0, .int .i64 0, .slice none 0 0] 24 (0, 0))) -> ∀ ls, ls = #[false, false, false, false, false, false, true, false, false, false, false, false] -> wpAnyH Tryd.prog .any exO (NQ Q) (ExS w gB gb) 11 ls { tmps := #[.pointer (some ⟨gZ, 0, none⟩), .pointer (some ⟨gB, 0, none⟩), .slice (some ⟨gb, 0, none⟩) 2 2, .agg #[.int .i64 4, .int .i64 0, .slice (some ⟨gb, 0, none⟩) 2 2, .int .i64 0, .int .i64 (-1), .int .i64 0], undef, undef, undef, undef, undef, undef, .agg #[.int .i64 4, .int .i64 0, .slice (some ⟨gb, 0, none⟩) 2 2, .int .i64 0, .int .i64 (-1), .int .i64 0], undef, undef, undef, undef], defers := [] } V := by
    intro V  HB HZ  ls hl
    subst hl
    refine wpAnyH_ready (rs := [0, 2, 4, 7]) (by kernel_rfl) (by simp) ?_
    refine AllReadyH.cons (o := { dst := some 4, op := Op.buildSlice 25 1 #[(0, Operand.const (Value.int IntKind.i64 0))], type := 25, pos := "law.go:20", after := #[], guard := none }) rfl (fun K hK => ?_) (AllReadyH.cons (o := { dst := some 6, op := Op.buildSlice 25 2 #[(0, Operand.const (Value.int IntKind.i64 0)), (1, Operand.const (Value.int IntKind.i64 1))], type := 25, pos := "law.go:20", after := #[], guard := none }) rfl (fun K hK => ?_) (AllReadyH.cons (o := { dst := some 8, op := Op.buildSlice 25 1 #[(0, Operand.const (Value.int IntKind.i64 2))], type := 25, pos := "law.go:20", after := #[], guard := none }) rfl (fun K hK => ?_) (AllReadyH.cons (o := { dst := some 11, op := Op.buildSlice 25 1 #[(0, Operand.const (Value.int IntKind.i64 2))], type := 25, pos := "law.go:20", after := #[], guard := none }) rfl (fun K hK => ?_) AllReadyH.nil)))
    . go_simp
      refine hK.out _ _ (show (ExS w gB gb) _ from HB.out.keep (bnew V (.cells #[.int .i64 0] 3))) (fun hHeld => ?_)
      clear hK K
      simp only [List.setIfInBounds_toArray, List.set_cons_zero]
      exact h0_0 _ V.heap.size (hide hHeld) (hide (kp (bnew V (.cells #[.int .i64 0] 3)) HZ.out)) (hide (heap_alloc_new V _)) _ (by kernel_rfl)
    . go_simp
      refine hK.out _ _ (show (ExS w gB gb) _ from HB.out.keep (bnew V (.cells #[.int .i64 0, .int .i64 1] 3))) (fun hHeld => ?_)
      clear hK K
      simp only [List.setIfInBounds_toArray, List.set_cons_zero, List.set_cons_succ]
      exact h0_1 _ V.heap.size (hide hHeld) (hide (kp (bnew V (.cells #[.int .i64 0, .int .i64 1] 3)) HZ.out)) (hide (heap_alloc_new V _)) _ (by kernel_rfl)
    . go_simp
      refine hK.out _ _ (show (ExS w gB gb) _ from HB.out.keep (bnew V (.cells #[.int .i64 2] 3))) (fun hHeld => ?_)
      clear hK K
      simp only [List.setIfInBounds_toArray, List.set_cons_zero, List.set_cons_succ]
      exact h0_2 _ V.heap.size (hide hHeld) (hide (kp (bnew V (.cells #[.int .i64 2] 3)) HZ.out)) (hide (heap_alloc_new V _)) _ (by kernel_rfl)
    . go_simp
      refine hK.out _ _ (show (ExS w gB gb) _ from HB.out.keep (bnew V (.cells #[.int .i64 2] 3))) (fun hHeld => ?_)
      clear hK K
      simp only [List.setIfInBounds_toArray, List.set_cons_zero, List.set_cons_succ]
      exact h0_3 _ V.heap.size (hide hHeld) (hide (kp (bnew V (.cells #[.int .i64 2] 3)) HZ.out)) (hide (heap_alloc_new V _)) _ (by kernel_rfl)
  refine wp_region_held_drew (S := (ExS w gB gb)) (by kernel_rfl) (hS0.keep (Below.refl W0.heap.size W0).drew) (fun hHeld => ?_)
  refine take_to (i := 6) (d := 10) (v := opV ⟨4, 0, [1, 2], 0, -1, 0⟩ (some ⟨gb, 0, none⟩) 2) rfl rfl (by kernel_rfl) (by kernel_rfl) (by kernel_rfl) (fun _ _ _ h => h) (Or.inl ⟨by rfl, ?_⟩) (by assumption) ?_
  . intro W hSw
    exact run_load_op hSw.oc
  simp only [Act.put, List.setIfInBounds_toArray, List.set_cons_zero, List.set_cons_succ]
  exact h0_ _ (hide hHeld) (hide (kp (Below.refl W0.heap.size W0).drew hZr)) _ (by kernel_rfl)
end Go.Proofs.YthndpbjplcphpaaDoor.Lay
