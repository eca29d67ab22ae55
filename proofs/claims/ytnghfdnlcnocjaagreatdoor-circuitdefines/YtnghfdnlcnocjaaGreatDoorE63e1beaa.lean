import Derived.Test.YtnghfdnlcnocjaaGreatDoorE7d036bf8
import Derived.Laws.CopyOwn
set_option maxRecDepth 100000
set_option maxHeartbeats 1000000
namespace Go.Proofs.YtnghfdnlcnocjaaGreatDoor.Gt
open Go.RowKit Go.Proofs.YtnghfdnlcnocjaaGreatDoor.Oct
theorem below_new (w : World) (o : Obj) : Below w.heap.size w (w.alloc o) := (Below.refl _ _).alloc (Nat.le_refl _) _
theorem results_c {P : Program} {fn : Func} {p : Tmp} {ty : TypeId} (h : fn.results = #[.cell p ty]) (tmps : Array Value) (w : World) (g : Nat) (t : TypeId) (cs : Array Value) (fr : Nat × Nat) (d : TypeDesc)
    (hp : tmps.getD p undef = .pointer (some ⟨g, 0, none⟩)) (hg : w.heap[g]? = some (.cells cs t fr))
    (hu : P.underlying ty = some d) (hd : (match d with | .struct _ | .array _ _ => true | _ => false) = true) (hi : (P.info? ty).map (·.size) = some cs.size) :
    (results fn tmps).run P w = .ok (.agg cs) w := by
  have hp' : tmps[p]?.getD undef = .pointer (some ⟨g, 0, none⟩) := by simpa using hp
  simp [results, h, hp', asAddr, run_loadVar_row w g t ty cs fr d hg hu hd hi]
theorem results_ct {P : Program} {fn : Func} {p u : Tmp} {ty : TypeId} (h : fn.results = #[.cell p ty, .tmp u]) (tmps : Array Value) (w : World) (g : Nat) (t : TypeId) (cs : Array Value) (fr : Nat × Nat) (d : TypeDesc)
    (hp : tmps.getD p undef = .pointer (some ⟨g, 0, none⟩)) (hg : w.heap[g]? = some (.cells cs t fr))
    (hu : P.underlying ty = some d) (hd : (match d with | .struct _ | .array _ _ => true | _ => false) = true) (hi : (P.info? ty).map (·.size) = some cs.size) :
    (results fn tmps).run P w = .ok (.tuple #[.agg cs, tmps.getD u undef]) w := by
  have hp' : tmps[p]?.getD undef = .pointer (some ⟨g, 0, none⟩) := by simpa using hp
  simp [results, h, hp', asAddr, run_loadVar_row w g t ty cs fr d hg hu hd hi]
section
variable {P : Program}
theorem run_loadVar_at (w : World) (g off : Nat) (ty : TypeId) (cs : List Value) (d : TypeDesc) (hg : ∀ j v, cs[j]? = some v -> w.cell? ⟨g, off + j, none⟩ = some v)
    (hu : P.underlying ty = some d) (hd : (match d with | .struct _ | .array _ _ => true | _ => false) = true) (hi : (P.info? ty).map (·.size) = some cs.length) :
    (loadVar ty ⟨g, off, none⟩).run P w = .ok (.agg cs.toArray) w := by
  have hl : (loadCells ⟨g, off, none⟩ cs.length).run P w = .ok cs.toArray w :=
    run_loadCells_list (P := P) w ⟨g, off, none⟩ cs (fun j v hv => by
      have hadd : (⟨g, off, none⟩ : Addr).add j = ⟨g, off + j, none⟩ := by unfold Addr.add; split <;> simp_all
      rw [hadd]
      exact hg j v hv)
  cases hq : P.info? ty with
  | none => simp [hq] at hi
  | some i =>
    have hs : i.size = cs.length := by simpa [hq] using hi
    have hagg : (isAgg ty).run P w = .ok true w := by
      unfold isAgg
      rw [Sem.run_bind, run_underlying hu w]
      cases d <;> simp_all
    simp [loadVar, Sem.run_bind, hagg, sizeOf, typeInfo, hq, hs, hl]
theorem wpList_load_at {ops : Array Oper} {rest : List Oper} {o : Oper} {a : Act} {w : World} {Q : Exit -> Act -> World -> Prop} (hgd : o.guard = none) (ty : TypeId) (x : Operand) (ho : o.op = .load ty x)
    (g off : Nat) (hx : a.eval x = .pointer (some ⟨g, off, none⟩)) (cs : List Value) (d : TypeDesc) (hg : ∀ j v, cs[j]? = some v -> w.cell? ⟨g, off + j, none⟩ = some v)
    (hu : P.underlying ty = some d) (hd : (match d with | .struct _ | .array _ _ => true | _ => false) = true) (hi : (P.info? ty).map (·.size) = some cs.length)
    (h : wpList P ops Q rest (a.put o.dst (.agg cs.toArray)) w) : wpList P ops Q (o :: rest) a w :=
  wpList_plain hgd fun K hK => by
    unfold Oper.wp execOp
    simp only [ho, hx, Instr.loadAt, Instr.sureAddr, Sem.run_bind, Sem.run_pure, Result.andThen_ok, run_loadVar_at w g off ty cs d hg hu hd hi]
    exact hK _ _ h
end
def rV (r : Rw) : Value := .agg #[.string ⟨r.nm.toArray⟩, .int .i64 r.q, .int .i64 r.c, .int .i64 r.t, .int .i64 r.v, .int .i64 r.o]
def rO (r : Rw) : Obj := .cells #[.string ⟨r.nm.toArray⟩, .int .i64 r.q, .int .i64 r.c, .int .i64 r.t, .int .i64 r.v, .int .i64 r.o] 133
theorem tab_at (k : Nat) (hk : k < 21) (j : Nat) (v : Value) (hv : (tab.getD k r0).cells[j]? = some v) : tabV[k * 6 + j]? = some v := by
  have key : ∀ (l : List Rw) (k : Nat), k < l.length -> ∀ j v, (l.getD k r0).cells[j]? = some v -> (l.flatMap Rw.cells)[k * 6 + j]? = some v := by
    intro l
    induction l with
    | nil => intro k hk; simp at hk
    | cons a r ih =>
      intro k hk j v hv
      have hl : a.cells.length = 6 := rfl
      cases k with
      | zero =>
        have hv' : a.cells[j]? = some v := by simpa using hv
        rw [List.flatMap_cons, Nat.zero_mul, Nat.zero_add, List.getElem?_append_left ((List.getElem?_eq_some_iff.1 hv').1)]
        exact hv'
      | succ k =>
        rw [List.flatMap_cons, List.getElem?_append_right (by omega), hl, show (k + 1) * 6 + j - 6 = k * 6 + j by omega]
        exact ih k (by simpa using hk) j v hv
  exact key tab k (by simpa [tab] using hk) j v hv
theorem allR (r : Rw) : (#[Value.string ⟨r.nm.toArray⟩, .int .i64 r.q, .int .i64 r.c, .int .i64 r.t, .int .i64 r.v, .int .i64 r.o]).all (·.oneCell') = true := by simp [Value.oneCell']
theorem gRow_in (k : Nat) (hk : k < 21) (w : World) (hT : Tb w) : Calls Tryz.prog 71 #[.int .i64 (k : Int)] w fun e w' => e = .returned (rV (tab.getD k r0)) /\ Below w.heap.size w w' := by
  have hT1 : ∀ o, ∀ j v, (tab.getD k r0).cells[j]? = some v -> (w.alloc o).cell? ⟨1, k * 6 + j, none⟩ = some v := fun o j v hv => hT.below (below_new w o) _ _ (tab_at k hk j v hv)
  have hA : (w.alloc (rO r0)).heap[w.heap.size]? = some (rO r0) := heap_alloc_new _ _
  unfold rO r0 at hA
  generalize hr : tab.getD k r0 = r at *
  have h1 : ¬ (k : Int) < 0 := by omega
  have h2 : ¬ (21 : Int) <= (k : Int) := by omega
  clear hT hr
  go_enter Tryz.func71, Tryz.ntmps71
  go_wp2_with (first
    | refine wpList_load_at rfl _ _ rfl 1 (k * 6) rfl r.cells _ (hT1 _) Tryz.underlying133 rfl (by exact infoR) ?_
    | refine wpList_store_row rfl _ _ _ rfl w.heap.size _ rfl rfl _ _ hA (by exact infoR) (by rfl) (allR r) ?_)
  refine bodyPost_ret (results_c rfl _ _ w.heap.size _ _ _ _ rfl (setRow_heap _ _ _ _ _ _ hA) Tryz.underlying133 rfl (by exact infoR)) rfl ?_
  exact ⟨rfl, below_setRow (below_new _ _) (Nat.le_refl _) _⟩
theorem gRow_out (k : Int) (hk : ¬ (0 <= k /\ k < 21)) (w : World) : Calls Tryz.prog 71 #[.int .i64 k] w fun e w' => e = .returned (rV r0) /\ Below w.heap.size w w' := by
  have hA : (w.alloc (rO r0)).heap[w.heap.size]? = some (rO r0) := heap_alloc_new _ _
  unfold rO r0 at hA
  have hd : (decide (k < 0) || decide (21 <= k)) = true := by
    by_cases h : k < 0
    . simp [h]
    . simp; omega
  by_cases h : k < 0
  . go_enter Tryz.func71, Tryz.ntmps71
    go_wp2_with (refine wpList_store_row rfl _ _ _ rfl w.heap.size _ rfl rfl _ _ hA (by exact infoR) (by rfl) (allR r0) ?_)
    refine bodyPost_ret (results_c rfl _ _ w.heap.size _ _ _ _ rfl (setRow_heap _ _ _ _ _ _ hA) Tryz.underlying133 rfl (by exact infoR)) rfl ?_
    exact ⟨rfl, below_setRow (below_new _ _) (Nat.le_refl _) _⟩
  . have h2 : 21 <= k := by omega
    go_enter Tryz.func71, Tryz.ntmps71
    go_wp2_with (refine wpList_store_row rfl _ _ _ rfl w.heap.size _ rfl rfl _ _ hA (by exact infoR) (by rfl) (allR r0) ?_)
    refine bodyPost_ret (results_c rfl _ _ w.heap.size _ _ _ _ rfl (setRow_heap _ _ _ _ _ _ hA) Tryz.underlying133 rfl (by exact infoR)) rfl ?_
    exact ⟨rfl, below_setRow (below_new _ _) (Nat.le_refl _) _⟩
section
set_option maxRecDepth 100000
variable (n : ByteArray) (q c t v o : Int) (w : World)
theorem fld0 : (Instr.field 133 (.agg #[.string n, .int .i64 q, .int .i64 c, .int .i64 t, .int .i64 v, .int .i64 o]) 0).run Tryz.prog w = .ok (Value.string n) w := by kernel_rfl
theorem fld1 : (Instr.field 133 (.agg #[.string n, .int .i64 q, .int .i64 c, .int .i64 t, .int .i64 v, .int .i64 o]) 1).run Tryz.prog w = .ok (Value.int .i64 q) w := by kernel_rfl
theorem fld3 : (Instr.field 133 (.agg #[.string n, .int .i64 q, .int .i64 c, .int .i64 t, .int .i64 v, .int .i64 o]) 3).run Tryz.prog w = .ok (Value.int .i64 t) w := by kernel_rfl
end
theorem gRow (k : Int) (w : World) (hT : Tb w) : Calls Tryz.prog 71 #[.int .i64 k] w fun e w' => e = .returned (rV (rw' k)) /\ Below w.heap.size w w' := by
  unfold rw'
  by_cases h : 0 <= k /\ k < 21
  . rw [if_pos h]
    have := gRow_in k.toNat (by omega) w hT
    rw [Int.toNat_of_nonneg h.1] at this
    exact this
  . rw [if_neg h]
    exact gRow_out k h w
theorem gName (k : Int) (w : World) (hT : Tb w) : Calls Tryz.prog 66 #[.int .i64 k] w fun e w' => e = .returned (.string ⟨(rw' k).nm.toArray⟩) /\ Below w.heap.size w w' := by
  have c := fun w hT => gRow k w hT
  generalize rw' k = r at *
  obtain ⟨nm, q, c', t, v, o⟩ := r
  unfold rV at c
  dsimp only at *
  go_enter Tryz.func66, Tryz.ntmps66
  go_wp2_with fail
  refine (c _ hT).mono ?_
  rintro e w1 ⟨rfl, hb⟩
  clear c
  have hf := fld0
  go_wp2_with fail
  go_ret
  exact ⟨rfl, hb⟩
theorem gArity (k : Int) (w : World) (hT : Tb w) : Calls Tryz.prog 42 #[.int .i64 k] w fun e w' => e = .returned (.int .i64 (rw' k).q) /\ Below w.heap.size w w' := by
  have c := fun w hT => gRow k w hT
  generalize rw' k = r at *
  obtain ⟨nm, q, c', t, v, o⟩ := r
  unfold rV at c
  dsimp only at *
  go_enter Tryz.func42, Tryz.ntmps42
  go_wp2_with fail
  refine (c _ hT).mono ?_
  rintro e w1 ⟨rfl, hb⟩
  clear c
  have hf := fld1
  go_wp2_with fail
  go_ret
  exact ⟨rfl, hb⟩
theorem gKnown (k : Int) (w : World) (hT : Tb w) : Calls Tryz.prog 61 #[.int .i64 k] w fun e w' => e = .returned (.bool (decide (0 < (rw' k).q))) /\ Below w.heap.size w w' := by
  have c := fun w hT => gRow k w hT
  generalize rw' k = r at *
  obtain ⟨nm, q, c', t, v, o⟩ := r
  unfold rV at c
  dsimp only at *
  go_enter Tryz.func61, Tryz.ntmps61
  go_wp2_with fail
  refine (c _ hT).mono ?_
  rintro e w1 ⟨rfl, hb⟩
  clear c
  have hf := fld1
  go_wp2_with fail
  go_ret
  exact ⟨rfl, hb⟩
theorem rw_t (k : Int) : (rw' k).t = 0 ∨ (rw' k).t = 2 ∨ (rw' k).t = 3 ∨ (rw' k).t = 4 ∨ (rw' k).t = 6 := by
  unfold rw'
  by_cases h : 0 <= k /\ k < 21
  . rw [if_pos h]
    have h2 : k.toNat < 21 := by omega
    generalize k.toNat = n at h2
    have := (by decide +kernel : ∀ n : Fin 21, (tab.getD n.1 r0).t = 0 ∨ (tab.getD n.1 r0).t = 2 ∨ (tab.getD n.1 r0).t = 3 ∨ (tab.getD n.1 r0).t = 4 ∨ (tab.getD n.1 r0).t = 6) ⟨n, h2⟩
    exact this
  . rw [if_neg h]; exact .inl rfl
def hvB (r : Rw) : Bool := r.t % 2 == 1
def clB (r : Rw) : Bool := r.t / 2 % 2 == 1
def knB (r : Rw) : Bool := decide (0 < r.q)
theorem own_below {w w' : World} {B e size n : Nat} {ao : Option Addr} {m c : Nat} {xs : List Value} (h : w.ownsRow B e size (.slice ao m c) n xs) (hb : Below w.heap.size w w') : w'.ownsRow B e size (.slice ao m c) n xs := by
  refine ⟨h.1, ?_⟩
  rcases h.2 with h0 | ⟨g, cap, cur, hv, hbg, hg, h1⟩
  . exact .inl h0
  . exact .inr ⟨g, cap, cur, hv, hbg, (hb.block g (Array.getElem?_eq_some_iff.1 hg).1).trans hg, h1⟩
theorem gHalving (k : Int) (w : World) (hT : Tb w) : Calls Tryz.prog 43 #[.int .i64 k] w fun e w' => e = .returned (.bool (hvB (rw' k))) /\ Below w.heap.size w w' := by
  have c := fun w hT => gRow k w hT
  have ht := rw_t k
  generalize rw' k = r at *
  obtain ⟨nm, q, c', t, v, o⟩ := r
  unfold rV at c
  unfold hvB
  dsimp only at *
  rcases ht with rfl | rfl | rfl | rfl | rfl
  all_goals
    go_enter Tryz.func43, Tryz.ntmps43
    go_wp2_with fail
    refine (c _ hT).mono ?_
    rintro e w1 ⟨rfl, hb⟩
    clear c
    have hf := fld3
    go_wp2_with fail
    go_ret
    exact ⟨rfl, hb⟩
theorem gClifford (k : Int) (w : World) (hT : Tb w) : Calls Tryz.prog 47 #[.int .i64 k] w fun e w' => e = .returned (.bool (clB (rw' k))) /\ Below w.heap.size w w' := by
  have c := fun w hT => gRow k w hT
  have ht := rw_t k
  generalize rw' k = r at *
  obtain ⟨nm, q, c', t, v, o⟩ := r
  unfold rV at c
  unfold clB
  dsimp only at *
  rcases ht with rfl | rfl | rfl | rfl | rfl
  all_goals
    go_enter Tryz.func47, Tryz.ntmps47
    go_wp2_with fail
    refine (c _ hT).mono ?_
    rintro e w1 ⟨rfl, hb⟩
    clear c
    have hf := fld3
    go_wp2_with fail
    go_ret
    exact ⟨rfl, hb⟩
def kl (n : Nat) : List Value := ((List.range n).drop 1).map fun (j : Nat) => Value.int .i64 (j : Int)
theorem kl_succ (n : Nat) (h : 1 <= n) : kl (n + 1) = kl n ++ [.int .i64 (n : Int)] := by
  unfold kl
  rw [List.range_succ, List.drop_append_of_le_length (by simpa using h)]
  simp
theorem kn_in (k : Nat) (h : k < 21) : decide (0 < (rw' (k : Int)).q) = decide (1 <= k) := by
  have := (by decide +kernel : ∀ n : Fin 21, decide (0 < (rw' (n.1 : Int)).q) = decide (1 <= n.1)) ⟨k, h⟩
  exact this
theorem gKinds (w : World) (hT : Tb w) : Calls Tryz.prog 41 #[] w fun e w' => ∃ g c, e = .returned (.slice (some ⟨g, 0, none⟩) 20 c) /\ w'.ownsRow w.heap.size 31 1 (.slice (some ⟨g, 0, none⟩) 20 c) 20 (kl 21) /\ Below w.heap.size w w' := by
  go_enter Tryz.func41, Tryz.ntmps41
  go_wp2_with fail
  go_loopw [1, 3] (fun vl vk wr => ∃ (k c : Nat) (ao : Option Addr), vl = .slice ao (k - 1) c /\ vk = .int .i64 (k : Int) /\ k <= 21 /\ wr.ownsRow w.heap.size 31 1 (.slice ao (k - 1) c) (k - 1) (kl k) /\ Below w.heap.size w wr) (fun _ vk _ => 21 - (Go.RowKit.intOf vk).toNat)
  case atStart => exact ⟨0, 0, none, rfl, rfl, Nat.zero_le _, World.ownsRow_nil w _ _ 1, Below.refl _ _⟩
  case round =>
    obtain ⟨k, c, ao, rfl, rfl, hk, hown, hb⟩ := hrel
    have hTr := hT.below hb
    by_cases hkn : k < 21
    . have hkz : decide ((k : Int) < 21) = true := decide_eq_true (by omega)
      have cK := fun w hT => gKnown (k : Int) w hT
      rw [kn_in k hkn] at cK
      by_cases h1 : 1 <= k
      . rw [decide_eq_true h1] at cK
        have HK : Hid (kl (k + 1) = kl k ++ [.int .i64 (k : Int)]) := hide (kl_succ k h1)
        have hn20 : k - 1 <= 20 := by omega
        have HKK : Hid (k - 1 + 1 = k) := hide (by omega)
        generalize kl k = L at *
        generalize k - 1 = n at *
        go_wp2_with fail
        refine (cK _ hTr).mono ?_
        rintro e w1 ⟨rfl, hb1⟩
        have hown1 := own_below hown hb1
        have hs : w.heap.size <= w1.heap.size := Nat.le_trans hb.size hb1.size
        have hbb := hb.trans (hb1.mono hb.size)
        clear hown hb1 hTr hT
        go_wp2_with (at_builtin; refine wpList_pushV rfl _ _ 89 rfl 31 Tryz.underlying89 _ 8 infoK rfl w.heap.size ao n c L rfl hown1 (.int .i64 (k : Int)) rfl rfl (by omega) (by omega) hs ?_)
        intro g2 c2 w2 hown2 hgrow hat
        have hb2 : Below w.heap.size w w2 := hbb.grown hgrow hs (fun q hq => (hown1.lt q (by rw [ob_eq]; exact hq)).1)
        clear hown1 hgrow hat
        go_wp2_with fail
        have e1 := HKK.out
        rw [e1] at hown2
        exact ⟨⟨k + 1, c2, some ⟨g2, 0, none⟩, by rw [e1]; rfl, by go_num, by omega, by rw [HK.out]; exact hown2, hb2⟩, by simp [Go.RowKit.intOf]; omega⟩
      . obtain rfl : k = 0 := by omega
        rw [decide_eq_false h1] at cK
        go_wp2_with fail
        refine (cK _ hTr).mono ?_
        rintro e w1 ⟨rfl, hb1⟩
        have hown1 := own_below hown hb1
        have hbb := hb.trans (hb1.mono hb.size)
        clear hown hb1 hTr hT
        go_wp2_with fail
        exact ⟨⟨1, c, ao, rfl, rfl, by omega, hown1, hbb⟩, by simp [Go.RowKit.intOf]⟩
    . obtain rfl : k = 21 := by omega
      go_wp2_with fail
      go_ret
      rcases hown.2 with ⟨_, h0⟩ | ⟨g, cap, cur, hv, _⟩
      . exact absurd h0 (by decide)
      . simp only [Value.slice.injEq] at hv
        obtain ⟨rfl, _, _⟩ := hv
        exact ⟨g, c, rfl, hown, hb⟩
end Go.Proofs.YtnghfdnlcnocjaaGreatDoor.Gt
