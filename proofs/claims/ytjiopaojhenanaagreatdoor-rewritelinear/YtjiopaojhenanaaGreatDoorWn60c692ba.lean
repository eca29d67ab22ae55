import Derived.Test.YtjiopaojhenanaaGreatDoorWn8ab9d3f9
import Derived.Laws.CopyOwn
namespace Go.Proofs.YtjiopaojhenanaaGreatDoor.Oct
end Go.Proofs.YtjiopaojhenanaaGreatDoor.Oct
set_option maxRecDepth 100000
namespace Go.Proofs.YtjiopaojhenanaaGreatDoor.Gt
open Go.RowKit Go.Proofs.YtjiopaojhenanaaGreatDoor.Oct
theorem below_new (w : World) (o : Obj) : Below w.heap.size w (w.alloc o) := (Below.refl _ _).alloc (Nat.le_refl _) _
theorem results_c {P : Program} {fn : Func} {p : Tmp} {ty : TypeId} (h : fn.results = #[.cell p ty]) (tmps : Array Value) (w : World) (g : Nat) (t : TypeId) (cs : Array Value) (fr : Nat × Nat) (d : TypeDesc)
    (hp : tmps.getD p undef = .pointer (some ⟨g, 0, none⟩)) (hg : w.heap[g]? = some (.cells cs t fr))
    (hu : P.underlying ty = some d) (hd : (match d with | .struct _ | .array _ _ => true | _ => false) = true) (hi : (P.info? ty).map (·.size) = some cs.size) :
    (results fn tmps).run P w = .ok (.agg cs) w := by
  have hp' : tmps[p]?.getD undef = .pointer (some ⟨g, 0, none⟩) := by simpa using hp
  simp [results, h, hp', asAddr, run_loadVar_row w g t ty cs fr d hg hu hd hi]
theorem results_ct {P : Program} {fn : Func} {p u : Tmp} {ty : TypeId} (h : fn.results = #[.cell p ty, .tmp u]) (tmps : Array Value) (w : World) (g : Nat) (t : TypeId) (cs : Array Value) (fr : Nat × Nat) (d : TypeDesc)
    (hp : tmps.getD p undef = .pointer (some ⟨g, 0, none⟩)) (hg : w.heap[g]? = some (.cells cs t fr))
    (hu : P.underlying ty = some d) (hd : (match d with | .struct _ | .array _ _ => true | _ => false) = true) (hi : (P.info? ty).map (·.size) = some cs.size) :
    (results fn tmps).run P w = .ok (.tuple #[.agg cs, tmps.getD u undef]) w := by
  have hp' : tmps[p]?.getD undef = .pointer (some ⟨g, 0, none⟩) := by simpa using hp
  simp [results, h, hp', asAddr, run_loadVar_row w g t ty cs fr d hg hu hd hi]
section
variable {P : Program}
theorem run_loadVar_at (w : World) (g off : Nat) (ty : TypeId) (cs : List Value) (d : TypeDesc) (hg : ∀ j v, cs[j]? = some v -> w.cell? ⟨g, off + j, none⟩ = some v)
    (hu : P.underlying ty = some d) (hd : (match d with | .struct _ | .array _ _ => true | _ => false) = true) (hi : (P.info? ty).map (·.size) = some cs.length) :
    (loadVar ty ⟨g, off, none⟩).run P w = .ok (.agg cs.toArray) w := by
  have hl : (loadCells ⟨g, off, none⟩ cs.length).run P w = .ok cs.toArray w :=
    run_loadCells_list (P := P) w ⟨g, off, none⟩ cs (fun j v hv => by
      have hadd : (⟨g, off, none⟩ : Addr).add j = ⟨g, off + j, none⟩ := by unfold Addr.add; split <;> simp_all
      rw [hadd]
      exact hg j v hv)
  cases hq : P.info? ty with
  | none => simp [hq] at hi
  | some i =>
    have hs : i.size = cs.length := by simpa [hq] using hi
    have hagg : (isAgg ty).run P w = .ok true w := by
      unfold isAgg
      rw [Sem.run_bind, run_underlying hu w]
      cases d <;> simp_all
    simp [loadVar, Sem.run_bind, hagg, sizeOf, typeInfo, hq, hs, hl]
theorem wpList_load_at {ops : Array Oper} {rest : List Oper} {o : Oper} {a : Act} {w : World} {Q : Exit -> Act -> World -> Prop} (hgd : o.guard = none) (ty : TypeId) (x : Operand) (ho : o.op = .load ty x)
    (g off : Nat) (hx : a.eval x = .pointer (some ⟨g, off, none⟩)) (cs : List Value) (d : TypeDesc) (hg : ∀ j v, cs[j]? = some v -> w.cell? ⟨g, off + j, none⟩ = some v)
    (hu : P.underlying ty = some d) (hd : (match d with | .struct _ | .array _ _ => true | _ => false) = true) (hi : (P.info? ty).map (·.size) = some cs.length)
    (h : wpList P ops Q rest (a.put o.dst (.agg cs.toArray)) w) : wpList P ops Q (o :: rest) a w :=
  wpList_plain hgd fun K hK => by
    unfold Oper.wp execOp
    simp only [ho, hx, Instr.loadAt, Instr.sureAddr, Sem.run_bind, Sem.run_pure, Result.andThen_ok, run_loadVar_at w g off ty cs d hg hu hd hi]
    exact hK _ _ h
end
def rV (r : Rw) : Value := .agg #[.string ⟨r.nm.toArray⟩, .int .i64 r.q, .int .i64 r.c, .int .i64 r.t, .int .i64 r.v, .int .i64 r.o]
def rO (r : Rw) : Obj := .cells #[.string ⟨r.nm.toArray⟩, .int .i64 r.q, .int .i64 r.c, .int .i64 r.t, .int .i64 r.v, .int .i64 r.o] 152
theorem tab_at (k : Nat) (hk : k < 21) (j : Nat) (v : Value) (hv : (tab.getD k r0).cells[j]? = some v) : tabV[k * 6 + j]? = some v := by
  have key : ∀ (l : List Rw) (k : Nat), k < l.length -> ∀ j v, (l.getD k r0).cells[j]? = some v -> (l.flatMap Rw.cells)[k * 6 + j]? = some v := by
    intro l
    induction l with
    | nil => intro k hk; simp at hk
    | cons a r ih =>
      intro k hk j v hv
      have hl : a.cells.length = 6 := rfl
      cases k with
      | zero =>
        have hv' : a.cells[j]? = some v := by simpa using hv
        rw [List.flatMap_cons, Nat.zero_mul, Nat.zero_add, List.getElem?_append_left ((List.getElem?_eq_some_iff.1 hv').1)]
        exact hv'
      | succ k =>
        rw [List.flatMap_cons, List.getElem?_append_right (by omega), hl, show (k + 1) * 6 + j - 6 = k * 6 + j by omega]
        exact ih k (by simpa using hk) j v hv
  exact key tab k (by simpa [tab] using hk) j v hv
theorem allR (r : Rw) : (#[Value.string ⟨r.nm.toArray⟩, .int .i64 r.q, .int .i64 r.c, .int .i64 r.t, .int .i64 r.v, .int .i64 r.o]).all (·.oneCell') = true := by simp [Value.oneCell']
theorem gRow_in (k : Nat) (hk : k < 21) (w : World) (hT : Tb w) : Calls Tryz.prog 104 #[.int .i64 (k : Int)] w fun e w' => e = .returned (rV (tab.getD k r0)) /\ Below w.heap.size w w' := by
  have hT1 : ∀ o, ∀ j v, (tab.getD k r0).cells[j]? = some v -> (w.alloc o).cell? ⟨1, k * 6 + j, none⟩ = some v := fun o j v hv => hT.below (below_new w o) _ _ (tab_at k hk j v hv)
  have hA : (w.alloc (rO r0)).heap[w.heap.size]? = some (rO r0) := heap_alloc_new _ _
  unfold rO r0 at hA
  generalize hr : tab.getD k r0 = r at *
  have h1 : ¬ (k : Int) < 0 := by omega
  have h2 : ¬ (21 : Int) <= (k : Int) := by omega
  clear hT hr
  go_enter Tryz.func104, Tryz.ntmps104
  go_wp2_with (first
    | refine wpList_load_at rfl _ _ rfl 1 (k * 6) rfl r.cells _ (hT1 _) Tryz.underlying152 rfl (by exact infoR) ?_
    | refine wpList_store_row rfl _ _ _ rfl w.heap.size _ rfl rfl _ _ hA (by exact infoR) (by rfl) (allR r) ?_)
  refine bodyPost_ret (results_c rfl _ _ w.heap.size _ _ _ _ rfl (setRow_heap _ _ _ _ _ _ hA) Tryz.underlying152 rfl (by exact infoR)) rfl ?_
  exact ⟨rfl, below_setRow (below_new _ _) (Nat.le_refl _) _⟩
theorem gRow_out (k : Int) (hk : ¬ (0 <= k /\ k < 21)) (w : World) : Calls Tryz.prog 104 #[.int .i64 k] w fun e w' => e = .returned (rV r0) /\ Below w.heap.size w w' := by
  have hA : (w.alloc (rO r0)).heap[w.heap.size]? = some (rO r0) := heap_alloc_new _ _
  unfold rO r0 at hA
  have hd : (decide (k < 0) || decide (21 <= k)) = true := by
    by_cases h : k < 0
    . simp [h]
    . simp; omega
  by_cases h : k < 0
  . go_enter Tryz.func104, Tryz.ntmps104
    go_wp2_with (refine wpList_store_row rfl _ _ _ rfl w.heap.size _ rfl rfl _ _ hA (by exact infoR) (by rfl) (allR r0) ?_)
    refine bodyPost_ret (results_c rfl _ _ w.heap.size _ _ _ _ rfl (setRow_heap _ _ _ _ _ _ hA) Tryz.underlying152 rfl (by exact infoR)) rfl ?_
    exact ⟨rfl, below_setRow (below_new _ _) (Nat.le_refl _) _⟩
  . have h2 : 21 <= k := by omega
    go_enter Tryz.func104, Tryz.ntmps104
    go_wp2_with (refine wpList_store_row rfl _ _ _ rfl w.heap.size _ rfl rfl _ _ hA (by exact infoR) (by rfl) (allR r0) ?_)
    refine bodyPost_ret (results_c rfl _ _ w.heap.size _ _ _ _ rfl (setRow_heap _ _ _ _ _ _ hA) Tryz.underlying152 rfl (by exact infoR)) rfl ?_
    exact ⟨rfl, below_setRow (below_new _ _) (Nat.le_refl _) _⟩
section
set_option maxRecDepth 100000
variable (n : ByteArray) (q c t v o : Int) (w : World)
theorem fld1 : (Instr.field 152 (.agg #[.string n, .int .i64 q, .int .i64 c, .int .i64 t, .int .i64 v, .int .i64 o]) 1).run Tryz.prog w = .ok (Value.int .i64 q) w := by kernel_rfl
end
theorem gRow (k : Int) (w : World) (hT : Tb w) : Calls Tryz.prog 104 #[.int .i64 k] w fun e w' => e = .returned (rV (rw' k)) /\ Below w.heap.size w w' := by
  unfold rw'
  by_cases h : 0 <= k /\ k < 21
  . rw [if_pos h]
    have := gRow_in k.toNat (by omega) w hT
    rw [Int.toNat_of_nonneg h.1] at this
    exact this
  . rw [if_neg h]
    exact gRow_out k h w
theorem gArity (k : Int) (w : World) (hT : Tb w) : Calls Tryz.prog 98 #[.int .i64 k] w fun e w' => e = .returned (.int .i64 (rw' k).q) /\ Below w.heap.size w w' := by
  have c := fun w hT => gRow k w hT
  generalize rw' k = r at *
  obtain ⟨nm, q, c', t, v, o⟩ := r
  unfold rV at c
  dsimp only at *
  go_enter Tryz.func98, Tryz.ntmps98
  go_wp2_with fail
  refine (c _ hT).mono ?_
  rintro e w1 ⟨rfl, hb⟩
  clear c
  have hf := fld1
  go_wp2_with fail
  go_ret
  exact ⟨rfl, hb⟩
theorem gKnown (k : Int) (w : World) (hT : Tb w) : Calls Tryz.prog 86 #[.int .i64 k] w fun e w' => e = .returned (.bool (decide (0 < (rw' k).q))) /\ Below w.heap.size w w' := by
  have c := fun w hT => gRow k w hT
  generalize rw' k = r at *
  obtain ⟨nm, q, c', t, v, o⟩ := r
  unfold rV at c
  dsimp only at *
  go_enter Tryz.func86, Tryz.ntmps86
  go_wp2_with fail
  refine (c _ hT).mono ?_
  rintro e w1 ⟨rfl, hb⟩
  clear c
  have hf := fld1
  go_wp2_with fail
  go_ret
  exact ⟨rfl, hb⟩
def knB (r : Rw) : Bool := decide (0 < r.q)
end Go.Proofs.YtjiopaojhenanaaGreatDoor.Gt
