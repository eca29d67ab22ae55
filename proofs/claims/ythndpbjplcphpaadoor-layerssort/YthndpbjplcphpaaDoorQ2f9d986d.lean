import Derived.Test.YthndpbjplcphpaaDoorQd04e2a10
import Derived.Test.YthndpbjplcphpaaDoorQf3da866a
set_option maxRecDepth 100000
set_option maxHeartbeats 4000000
namespace Go.Proofs.YthndpbjplcphpaaDoor.Lay
open Go.RowKit Go.Shelf Go.Proofs.YthndpbjplcphpaaDoor.Oct Go.Proofs.YthndpbjplcphpaaDoor.Tok Go.Proofs.YthndpbjplcphpaaDoor.Gt Go.Proofs.YthndpbjplcphpaaDoor.Cir
def NsW (w : World) (B : Nat) (ao : Option Addr) (l : List Int) : Prop := l = [] ∨ ∃ g off, ao = some ⟨g, off, none⟩ /\ B <= g /\ ∀ (j : Nat) z, l[j]? = some z -> w.cell? ⟨g, off + j, none⟩ = some (.int .i64 z) /\ w.frozen? ⟨g, off + j, none⟩ = false
theorem NsW.ns {w : World} {B : Nat} {ao : Option Addr} {l : List Int} (h : NsW w B ao l) : Ns w ao l := by
  rcases h with h | ⟨g, off, e, -, h⟩
  . exact .inl h
  . exact .inr ⟨g, off, e, fun j z hz => (h j z hz).1⟩
theorem NsW.base {w : World} {B B' : Nat} {ao : Option Addr} {l : List Int} (h : NsW w B ao l) (hb : B' <= B) : NsW w B' ao l := by
  rcases h with h | ⟨g, off, e, hB, h⟩
  . exact .inl h
  . exact .inr ⟨g, off, e, Nat.le_trans hb hB, h⟩
theorem fz_below {w w' : World} (hb : Below w.heap.size w w') {p : Addr} {v : Value} (h : w.cell? p = some v) : w'.frozen? p = w.frozen? p := by
  unfold World.frozen?
  rw [hb.block p.block (World.block_lt_of_cell? _ _ h)]
theorem NsW.below {w w' : World} {B : Nat} {ao : Option Addr} {l : List Int} (h : NsW w B ao l) (hb : Below w.heap.size w w') : NsW w' B ao l := by
  rcases h with h | ⟨g, off, e, hB, h⟩
  . exact .inl h
  . exact .inr ⟨g, off, e, hB, fun j z hz => ⟨(hb.cell (p := ⟨g, off + j, none⟩) (World.block_lt_of_cell? _ _ (h j z hz).1)).trans (h j z hz).1, (fz_below hb (h j z hz).1).trans (h j z hz).2⟩⟩
theorem own_nsw {w : World} {B c n : Nat} {ao : Option Addr} {l : List Int} (h : w.ownsRow B 3 1 (.slice ao n c) n (l.map (Value.int .i64))) : NsW w B ao l /\ n = l.length := by
  have hl : n = l.length := by have := h.1; simp at this; omega
  refine ⟨?_, hl⟩
  rcases h.2 with ⟨hv, h0⟩ | ⟨g, cap, cur, hv, hbg, hg, h1, h2, h3, h4⟩
  . left
    exact List.eq_nil_of_length_eq_zero (by omega)
  . simp only [Value.slice.injEq] at hv
    obtain ⟨rfl, -, rfl⟩ := hv
    obtain ⟨n1, n2, n3⟩ := own_ns h
    rcases n1 with n1 | ⟨g', off, e, n1⟩
    . exact .inl n1
    . refine .inr ⟨g', off, e, ?_, fun j z hz => ⟨n1 j z hz, ?_⟩⟩
      . simp only [Option.some.injEq, Addr.mk.injEq] at e
        omega
      . simp only [Option.some.injEq, Addr.mk.injEq] at e
        obtain ⟨rfl, rfl, -⟩ := e
        simp [World.frozen?, hg]
theorem rk_nsw {w : World} {B g n : Nat} {f : Nat -> Int} (h : Rk w g 3 n (fun j => .int .i64 (f j))) (hB : B <= g) : NsW w B (some ⟨g, 0, none⟩) ((List.range n).map f) :=
  .inr ⟨g, 0, rfl, hB, fun j z hz => by
    rw [List.getElem?_map] at hz
    have hj : j < n := by
      cases e : (List.range n)[j]? with
      | none => rw [e] at hz; simp at hz
      | some y => have := (List.getElem?_eq_some_iff.1 e).1; simpa using this
    rw [List.getElem?_range hj] at hz
    simp at hz
    subst hz
    rw [Nat.zero_add]
    exact ⟨h.cell j hj, h.frozen j⟩⟩
theorem lBackward (ao : Option Addr) (n k : Nat) (w : World) : Calls Tryd.prog 36 #[.slice ao n k] w fun e w' => e = .returned (.func (.func 55) #[] #[.pointer (some ⟨w.heap.size, 0, none⟩)]) /\ w' = w.alloc (.cells #[.slice ao n k] 22) := by
  go_enter Tryd.func36, Tryd.ntmps36
  go_wp2_with fail
  go_ret
  exact ⟨rfl, rfl⟩
theorem lReverse (w : World) (B : Nat) (ao : Option Addr) (c : Nat) (l : List Int) (hl : l.length <= 1000000) (h : NsW w B ao l) : Calls Tryd.prog 37 #[.slice ao l.length c] w fun e w' => e = .returned (.tuple #[]) /\ NsW w' B ao l.reverse /\ (∀ p : Addr, p.block < B -> w'.heap[p.block]? = w.heap[p.block]?) /\ Below (min B w.heap.size) w w' := by
  rcases h with rfl | ⟨g, off, rfl, hB, h⟩
  . refine (AnyG.slices_Reverse_int_empty Tryd.reverseI ao c w).mono ?_
    rintro e w' ⟨rfl, rfl⟩
    exact ⟨rfl, .inl rfl, fun _ _ => rfl, Below.refl _ _⟩
  . have hH : Sort.Holds (Value.int .i64) w g off l.toArray := fun j hj => by
      have hj' : j < l.length := by simpa using hj
      have := h j _ (List.getElem?_eq_getElem hj')
      rw [getElem!_pos _ j hj]
      simpa using this
    refine (AnyG.slices_Reverse_int Tryd.reverseI g off c l w hH (by omega)).mono ?_
    rintro e w' ⟨rfl, n, rfl⟩
    have hH2 := Sort.holds_putRow (Value.int .i64) (Sort.ahead w n) g off l.toArray l.reverse.toArray (Sort.holds_ahead _ _ _ _ _ _ hH) (by simp)
    have hoth : ∀ b, b ≠ g -> (Sort.putRow (Value.int .i64) (Sort.ahead w n) g off l.reverse.toArray).heap[b]? = w.heap[b]? := fun b hb => by
      unfold Sort.putRow Sort.mapBlock Sort.ahead
      simp [Array.getElem?_modify, Ne.symm hb]
    have hsz : (Sort.putRow (Value.int .i64) (Sort.ahead w n) g off l.reverse.toArray).heap.size = w.heap.size := by
      unfold Sort.putRow Sort.mapBlock Sort.ahead
      simp
    refine ⟨rfl, .inr ⟨g, off, rfl, hB, fun j z hz => ?_⟩, fun p hp => hoth _ (by omega), ?_⟩
    . have hj : j < l.reverse.toArray.size := by simpa using (List.getElem?_eq_some_iff.1 hz).1
      have := hH2 j hj
      rw [getElem!_pos _ j hj] at this
      have e : l.reverse.toArray[j] = z := by
        have := (List.getElem?_eq_some_iff.1 hz).2
        simpa using this
      rw [e] at this
      exact this
    . exact ⟨rfl, rfl, rfl, by rw [hsz]; exact Nat.le_refl _, fun k hk => hoth k (by omega)⟩
def cnR (c : Circ) (l : List Int) (bk : Bool) : List Int := if asE c l = 0 then (if bk then (cn (asM c l) (((List.range c.ops.length).reverse).map fun i => (i, oa c.ops i))).2.reverse else (cn (asM c l) ((List.range c.ops.length).map fun i => (i, oa c.ops i))).2) else []
theorem pl_map {ops : List COp} {w0 : World} (ys : List (It ops w0)) : pl ys = (ys.map It.i).map fun i => (i, oa ops i) := by unfold pl; rw [List.map_map]; rfl
def CnPost (w : World) (c : Circ) (l : List Int) (bk : Bool) (e : Ending) (w' : World) : Prop := ∃ ao cc, e = .returned (.tuple #[.slice ao (cnR c l bk).length cc, .int .i64 (asE c l)]) /\ NsW w' w.heap.size ao (cnR c l bk) /\ Below w.heap.size w w'
theorem run_load_ar {a : Act} {o : Oper} {w : World} {g : Nat} {f : Nat -> Value} {x : Operand} (h : Ar w g 63 f) (ho : o.op = .load 63 x := by rfl) (hx : a.eval x = .pointer (some ⟨g, 0, none⟩) := by rfl) : (execOp a.eval o).run Tryd.prog w = .ok (.value (.agg (av f))) w := by
  unfold execOp
  simp only [ho, hx, Instr.loadAt, Instr.sureAddr, Sem.run_bind, Sem.run_pure, Result.andThen_ok, run_loadVar_row w g 63 63 (av f) (0, 0) _ h Tryd.underlying63 rfl (by rw [av_size]; exact infoM)]
theorem lPast (c : Circ) (ao : Option Addr) (k : Nat) (l : List Int) (aq : Option Addr) (cq : Nat) (hl : l.length <= 1000000000000000) (w : World) (hT : Tb w) (hC : Ci w c ao k) (hN : Ns w aq l) : Calls Tryd.prog 12 #[cV c ao k, .slice aq l.length cq] w (CnPost w c l true) := by
  have c1 := fun V (h : Below w.heap.size w V) => lAsked c ao k l aq cq hl V (hT.below h) (hC.below h) (hN.below h)
  have hok : asE c l = 0 -> (chkC c).2 = 0 := fun e => by
    unfold asE at e
    split at e
    . cases e
    . rename_i h; simpa using h
  have hWk : asE c l = 0 -> (∀ o ∈ c.ops, Wk o) /\ c.ops.length <= 4096 := fun e => by
    obtain ⟨h1, h2, h3, h4, h5, h6⟩ := chkC_ok (hok e)
    exact ⟨fun o ho => may_wk h1 h2 h4 (h6 o ho), h5⟩
  have HO := hide hC.ops
  have HC0 : Hid (asE c l ≠ 0 -> cnR c l true = []) := hide (fun e => by unfold cnR; rw [if_neg e])
  have HCN : Hid (asE c l = 0 -> cnR c l true = (cn (asM c l) (((List.range c.ops.length).reverse).map fun i => (i, oa c.ops i))).2.reverse) := hide (fun e => by unfold cnR; rw [if_pos e]; rfl)
  unfold CnPost
  generalize cnR c l true = R0 at *
  obtain ⟨q, b, ops⟩ := c
  unfold cV at *
  simp only at *
  generalize asE ⟨q, b, ops⟩ l = E at *
  generalize asM ⟨q, b, ops⟩ l = AM at *
  generalize hno : ops.length = no at *
  have HNO := hide hno
  generalize hnl : l.length = n at *
  clear hT hC hN hok hno hnl
  have hb1 := bnew w (.cells #[.int .i64 q, .int .i64 b, .slice ao no k] 24)
  have hm1 : (w.alloc (.cells #[.int .i64 q, .int .i64 b, .slice ao no k] 24)).heap[w.heap.size]? = some (.cells #[.int .i64 q, .int .i64 b, .slice ao no k] 24 (0, 0)) := heap_alloc_new _ _
  have c1' := c1 _ hb1
  obtain ⟨x0, x1, x2, x3⟩ := def_cells hm1
  have hwx : w.heap.size < (w.alloc (.cells #[.int .i64 q, .int .i64 b, .slice ao no k] 24)).heap.size := by simp
  go_enter Tryd.func12, Tryd.ntmps12
  go_upto_region 2 with (first
    | (go_at_call 34; refine c1'.mono ?_; rintro e w2 ⟨rfl, hb2⟩; have hm2 := (hb2.block _ hwx).trans hm1; have hb2' := hb1.trans (hb2.mono hb1.size); clear c1 c1')
    | refine wpList_store_row rfl _ _ _ rfl w2.heap.size _ (by rfl) (by rfl) _ _ (by rw [zeroM]; exact heap_alloc_new w2 _) (by rw [av_size]; exact infoM) (by rw [av_size, av_size]) (av_one fun _ => rfl) ?_)
  try rw [zeroM]
  rw [alloc_setRow]
  obtain ⟨gA, hgA⟩ : ∃ gA, gA = w2.heap.size := ⟨_, rfl⟩
  rw [← hgA]
  have hA3 : Ar (w2.alloc (.cells (av fun x => .bool (AM (x : Int))) 63)) gA 63 (fun x => .bool (AM (x : Int))) := by rw [hgA]; exact heap_alloc_new w2 _
  have hm3 := (Below.heap_alloc w2 (.cells (av fun x => .bool (AM (x : Int))) 63) _ (Array.getElem?_eq_some_iff.1 hm2).1).trans hm2
  have hB3 : Below w.heap.size w (w2.alloc (.cells (av fun x => .bool (AM (x : Int))) 63)) := hb2'.alloc hb2'.size _
  generalize w2.alloc (.cells (av fun x => .bool (AM (x : Int))) 63) = w3 at *
  clear hgA hm1 hm2 hb1 hb2 hb2' hwx x0 x1 x2 x3
  by_cases hE0 : E = 0
  . subst hE0
    have HCZ := hide (HCN.out rfl)
    have HWk := hide (hWk rfl).1
    have HLEN : Hid (ops.length <= 4096) := hide (by rw [HNO.out]; exact (hWk rfl).2)
    clear hWk HC0
    go_upto_region 4 with fail
    refine wp_region_held_drew (S := (fun V : World => V.heap[w.heap.size]? = some (.cells #[.int .i64 q, .int .i64 b, .slice ao no k] 24 (0, 0)) /\ Ar V gA 63 (fun x => .bool (AM (x : Int))) /\ Below w.heap.size w V)) (by kernel_rfl) ⟨hm3, hA3, hB3.drew⟩ (fun hHeld => ?_)
    clear hm3 hA3 hB3
    refine take_to (i := 0) (d := 18) (v := ?_) rfl rfl (by kernel_rfl) (by kernel_rfl) (by kernel_rfl) (fun _ _ _ h => h) (Or.inl ⟨by rfl, ?_⟩) (by assumption) ?_
    rotate_left 1
    . intro W hSw
      obtain ⟨hc1, hc2, hc3⟩ := hSw
      obtain ⟨s0, s1, s2, s3⟩ := def_cells hc1
      go_simp
      with_reducible rfl
    simp only [Act.put, List.setIfInBounds_toArray, List.set_cons_zero, List.set_cons_succ]
    refine take_to (i := 1) (d := 19) (v := ?_) rfl rfl (by kernel_rfl) (by kernel_rfl) (by kernel_rfl) (fun _ _ _ h => h) (Or.inl ⟨by rfl, ?_⟩) (by assumption) ?_
    rotate_left 1
    . intro W hSw
      obtain ⟨hc1, hc2, hc3⟩ := hSw
      obtain ⟨s0, s1, s2, s3⟩ := def_cells hc1
      go_simp
      with_reducible rfl
    simp only [Act.put, List.setIfInBounds_toArray, List.set_cons_zero, List.set_cons_succ]
    refine take_to (i := 3) (d := 21) (v := .agg (av fun x => .bool (AM (x : Int)))) rfl rfl (by kernel_rfl) (by kernel_rfl) (by kernel_rfl) (fun _ _ _ h => h) (Or.inl ⟨by rfl, ?_⟩) (by assumption) ?_
    . intro W hSw
      obtain ⟨hc1, hc2, hc3⟩ := hSw
      exact run_load_ar hc2
    simp only [Act.put, List.setIfInBounds_toArray, List.set_cons_zero, List.set_cons_succ]
    refine wpAnyH_ready (rs := [2]) (by kernel_rfl) (by simp) ?_
    refine AllReadyH.cons (o := { dst := some 20, op := Op.call { callee := Callee.value (Operand.func 36), args := #[Operand.tmp 19], argTypes := #[22] }, type := 68, pos := "layers.go:64", after := #[{ on := 1, ground := Ground.data }], guard := none }) rfl (fun K hK => ?_) AllReadyH.nil
    go_simp
    go_at_call 36
    refine (lBackward ao no k _).mono ?_
    rintro e w4 ⟨rfl, hw4⟩
    have HW4 := hide hw4
    clear hw4
    have hHeld0 := hHeld
    obtain ⟨hc1, hc2, hc3⟩ := hHeld0
    have hb4 : Below w3.drew.heap.size w3.drew w4 := by rw [HW4.out]; exact bnew _ _
    have hB4 : Below w.heap.size w w4 := Below.trans hc3 (hb4.mono hc3.size)
    go_wp2_with fail
    refine hK.out _ _ (show (fun V : World => V.heap[w.heap.size]? = some (.cells #[.int .i64 q, .int .i64 b, .slice ao no k] 24 (0, 0)) /\ Ar V gA 63 (fun x => .bool (AM (x : Int))) /\ Below w.heap.size w V) w4 from ⟨(hb4.block _ (Array.getElem?_eq_some_iff.1 hc1).1).trans hc1, hc2.below hb4, hB4⟩) (fun hHeld => ?_)
    clear hK K
    try simp only [Act.put, List.setIfInBounds_toArray, List.set_cons_zero, List.set_cons_succ]
    have hcell4 : w4.cell? ⟨w3.heap.size, 0, none⟩ = some (.slice ao no k) := by rw [HW4.out]; exact cell_of_row _ _ 0 _ _ _ (heap_alloc_new w3.drew _)
    have hlt4 : w3.heap.size < w4.heap.size := World.block_lt_of_cell? _ _ hcell4
    have hw0 : w.heap.size <= w3.heap.size := hc3.size
    have c5 := lReached ops HWk.out w 55 w3.heap.size AM _ w4 hlt4 hB4 HLEN.out (enters_of Tryd.func55 (by kernel_rfl) rfl) (fun V hV => back_stops Fence.wide 2 trivial rfl (by omega) ops w w3.heap.size ao k HLEN.out HO.out V (hB4.trans (hV.mono hB4.size)) (Nat.lt_of_lt_of_le hlt4 hV.size) ((hV.cell (p := ⟨w3.heap.size, 0, none⟩) hlt4).trans (by rw [HNO.out]; exact hcell4)))
    refine wpAnyH_ready (rs := [4]) (by kernel_rfl) (by simp) ?_
    refine AllReadyH.cons (o := { dst := some 22, op := Op.call { callee := Callee.value (Operand.func 35), args := #[Operand.tmp 20, Operand.tmp 21], argTypes := #[68, 63] }, type := 25, pos := "layers.go:64", after := #[{ on := 2, ground := Ground.data }, { on := 3, ground := Ground.data }, { on := 2, ground := Ground.chain }], guard := none }) rfl (fun K hK => ?_) AllReadyH.nil
    go_simp
    go_at_call 35
    refine c5.mono ?_
    rintro e w5 ⟨ys, a5, k5, hS5, rfl, hO5, hb5⟩
    have hB5 : Below w.heap.size w w5 := hB4.trans (hb5.mono hB4.size)
    obtain ⟨hN5, -⟩ := own_nsw hO5
    have HLR : Hid ((cn AM (pl ys)).2.length <= 4096) := hide (Nat.le_trans (cn_len _ _) (by rw [pl_map, List.length_map, hS5]; simp; exact HLEN.out))
    have HR5 : Hid ((cn AM (pl ys)).2 = (cn AM (((List.range no).reverse).map fun i => (i, oa ops i))).2) := hide (by rw [pl_map, hS5, HNO.out])
    go_wp2_with fail
    refine hK.out _ _ (show (fun V : World => V.heap[w.heap.size]? = some (.cells #[.int .i64 q, .int .i64 b, .slice ao no k] 24 (0, 0)) /\ Ar V gA 63 (fun x => .bool (AM (x : Int))) /\ Below w.heap.size w V) w5 from ⟨(hb5.block _ (Array.getElem?_eq_some_iff.1 hHeld.1).1).trans hHeld.1, hHeld.2.1.below hb5, hB5⟩) (fun hHeld => ?_)
    clear hK K c5
    try simp only [Act.put, List.setIfInBounds_toArray, List.set_cons_zero, List.set_cons_succ]
    have HN5 := hide (hN5.base (Nat.le_trans hw0 (Nat.le_of_lt hlt4)))
    have HB5 := hide hB5
    clear hN5 hO5 hb5 hS5 hB5
    generalize (cn AM (pl ys)).2 = R at *
    refine take_to (i := 5) (d := 8) (v := ?_) rfl rfl (by kernel_rfl) (by kernel_rfl) (by kernel_rfl) (fun _ _ _ h => h) (Or.inl ⟨by rfl, ?_⟩) (by assumption) ?_
    rotate_left 1
    . intro W hSw
      skip
      go_simp
      with_reducible rfl
    simp only [Act.put, List.setIfInBounds_toArray, List.set_cons_zero, List.set_cons_succ]
    refine wpAnyH_done (by kernel_rfl) ?_ _
    have c6 := lReverse w5 w.heap.size a5 k5 R (by have := HLR.out; omega) HN5.out
    go_wp2_with (go_at_call 37; refine c6.mono ?_; rintro e w6 ⟨rfl, hN6, -, hb6⟩; have HN6 := hide hN6; have HB6 := hide hb6; clear hN6 hb6 c6)
    go_ret2
    have hm : min w.heap.size w5.heap.size = w.heap.size := Nat.min_eq_left HB5.out.size
    have hb6 := HB6.out
    rw [hm] at hb6
    exact ⟨a5, k5, by rw [HCZ.out, ← HR5.out, List.length_reverse]; rfl, by rw [HCZ.out, ← HR5.out]; exact HN6.out, HB5.out.trans hb6⟩
  . have e1 : (E == 0) = false := by simpa using hE0
    have HR0 := hide (HC0.out hE0)
    have HB3 := hide hB3
    go_wp2_with fail
    go_ret2
    rw [HR0.out]
    exact ⟨none, 0, rfl, .inl rfl, HB3.out⟩
def orI (a b : Int) : Int := if a = 0 then b else a
theorem lOr2 (g : Nat) (a b : Int) (w : World) (h : w.heap[g]? = some (.cells #[.int .i64 a, .int .i64 b] 3 (0, 0))) : Calls Tryd.prog 63 #[.slice (some ⟨g, 0, none⟩) 2 2] w fun e w' => e = .returned (.int .i64 (orI a b)) /\ w' = w := by
  have h0 := cell_of_row _ _ 0 _ _ _ h
  have h1 := cell_of_row _ _ 1 _ _ _ h
  have hl := (Array.getElem?_eq_some_iff.1 h).1
  simp only [List.getElem?_toArray, List.getElem?_cons_zero, List.getElem?_cons_succ] at h0 h1
  clear h
  have HO : Hid (orI a b = if a = 0 then b else a) := hide rfl
  go_enter Tryd.func63, Tryd.ntmps63
  go_wp2_with fail
  go_loopw [5, 8] (fun _ vi wr => wr = w /\ ∃ i : Nat, i <= 2 /\ vi = .int .i64 (i : Int) /\ (1 <= i -> a = 0) /\ (2 <= i -> b = 0)) (fun _ vi _ => 2 - (intOf vi).toNat)
  case atStart => exact ⟨rfl, 0, Nat.zero_le _, rfl, fun h => by omega, fun h => by omega⟩
  case round =>
    obtain ⟨rfl, i, hi, rfl, ha, hb⟩ := hrel
    match i, hi with
    | 0, _ =>
      clear ha hb
      by_cases e : a = 0
      . subst e
        clear h1
        go_wp2_with fail
        exact ⟨⟨trivial, 1, by omega, by simp, by simp, by simp⟩, by simp [intOf]⟩
      . have e1 : (a == 0) = false := by simpa using e
        have HE := hide e
        clear e h1
        go_wp2_with fail
        go_ret
        rw [HO.out, if_neg HE.out]
        exact ⟨rfl, rfl⟩
    | 1, _ =>
      obtain rfl := ha (Nat.le_refl _)
      clear ha hb
      by_cases e : b = 0
      . subst e
        clear h0
        go_wp2_with fail
        exact ⟨⟨trivial, 2, by omega, by simp, by simp, by simp⟩, by simp [intOf]⟩
      . have e1 : (b == 0) = false := by simpa using e
        clear e h0
        go_wp2_with fail
        go_ret
        rw [HO.out]
        exact ⟨rfl, rfl⟩
    | 2, _ =>
      obtain rfl := ha (by omega)
      obtain rfl := hb (by omega)
      clear ha hb h0 h1
      go_wp2_with fail
      go_ret
      rw [HO.out]
      exact ⟨rfl, rfl⟩
def cfv (ops : List COp) (f : Nat -> Int) (x y : Nat) : Int := orI (Lib.compareInt (f x) (f y)) (Lib.compareInt (ln (oa ops y)) (ln (oa ops x)))
theorem lCmp1 (ops : List COp) (f : Nat -> Int) (n : Nat) (hn : ops.length = n) (gM gR gO : Nat) (ao : Option Addr) (k x y : Nat) (hx : x < n) (hy : y < n) (V : World) (hM : V.heap[gM]? = some (.cells #[.slice (some ⟨gR, 0, none⟩) n n] 25 (0, 0))) (hR : Rk V gR 3 n (fun j => .int .i64 (f j))) (hOb : V.heap[gO]? = some (.cells #[.slice ao n k] 22 (0, 0))) (hO : OpsIn V ao ops) :
    Calls Tryd.prog 62 #[.int .i64 (x : Int), .int .i64 (y : Int), .pointer (some ⟨gM, 0, none⟩), .pointer (some ⟨gO, 0, none⟩)] V fun e w' => e = .returned (.int .i64 (cfv ops f x y)) /\ ∃ cs, w' = V.drew.alloc (.cells cs 3) := by
  obtain ⟨g, off, aq1, cq1, rfl, hgl, hoc1⟩ := hO.at (oa_some (show x < ops.length by omega))
  obtain ⟨g2, off2, aq2, cq2, e2, -, hoc2⟩ := hO.at (oa_some (show y < ops.length by omega))
  simp only [Option.some.injEq, Addr.mk.injEq] at e2
  obtain ⟨rfl, rfl, -⟩ := e2
  have HLx : Hid (∀ W, Below V.heap.size V W -> Calls Tryd.prog 51 #[.pointer (some ⟨g, off + x * 6, none⟩)] W fun e w' => e = .returned (.int .i64 (ln (oa ops x))) /\ w' = W) := hide fun W hW => lLength g (off + x * 6) _ aq1 cq1 W (hoc1.below hW)
  have HLy : Hid (∀ W, Below V.heap.size V W -> Calls Tryd.prog 51 #[.pointer (some ⟨g, off + y * 6, none⟩)] W fun e w' => e = .returned (.int .i64 (ln (oa ops y))) /\ w' = W) := hide fun W hW => lLength g (off + y * 6) _ aq2 cq2 W (hoc2.below hW)
  have HX : Hid (∀ W, Below V.heap.size V W -> W.cell? ⟨gM, 0, none⟩ = some (.slice (some ⟨gR, 0, none⟩) n n) /\ W.cell? ⟨gO, 0, none⟩ = some (.slice (some ⟨g, off, none⟩) n k) /\ W.cell? ⟨gR, x, none⟩ = some (.int .i64 (f x)) /\ W.cell? ⟨gR, y, none⟩ = some (.int .i64 (f y)) /\ gR < W.heap.size /\ g < W.heap.size) := hide (fun W hW => by
    have h1 := (hW.block _ (Array.getElem?_eq_some_iff.1 hM).1).trans hM
    have h2 := (hW.block _ (Array.getElem?_eq_some_iff.1 hOb).1).trans hOb
    have h3 := hR.below hW
    exact ⟨cell_of_row _ _ 0 _ _ _ h1, cell_of_row _ _ 0 _ _ _ h2, h3.cell x hx, h3.cell y hy, h3.lt, Nat.lt_of_lt_of_le hgl hW.size⟩)
  have hxn : (x : Int) < (n : Int) := by omega
  have hyn : (y : Int) < (n : Int) := by omega
  clear hM hR hOb hO hoc1 hoc2 hn
  unfold cfv
  go_enter Tryd.func62, Tryd.ntmps62
  go_upto_region 1 with fail
  refine wp_region_held_drew (S := (fun W : World => Below V.heap.size V W)) (by kernel_rfl) (Below.refl V.heap.size V).drew (fun hHeld => ?_)
  refine take_to (i := 0) (d := 7) (v := ?_) rfl rfl (by kernel_rfl) (by kernel_rfl) (by kernel_rfl) (fun _ _ _ h => h) (Or.inl ⟨by rfl, ?_⟩) (by assumption) ?_
  rotate_left 1
  . intro W hSw
    obtain ⟨u0, u1, u2, u3, u4, u5⟩ := HX.out W hSw
    go_simp
    with_reducible rfl
  simp only [Act.put, List.setIfInBounds_toArray, List.set_cons_zero, List.set_cons_succ]
  refine take_to (i := 1) (d := 8) (v := ?_) rfl rfl (by kernel_rfl) (by kernel_rfl) (by kernel_rfl) (fun _ _ _ h => h) (Or.inl ⟨by rfl, ?_⟩) (by assumption) ?_
  rotate_left 1
  . intro W hSw
    obtain ⟨u0, u1, u2, u3, u4, u5⟩ := HX.out W hSw
    go_simp
    with_reducible rfl
  simp only [Act.put, List.setIfInBounds_toArray, List.set_cons_zero, List.set_cons_succ]
  refine take_to (i := 2) (d := 9) (v := ?_) rfl rfl (by kernel_rfl) (by kernel_rfl) (by kernel_rfl) (fun _ _ _ h => h) (Or.inl ⟨by rfl, ?_⟩) (by assumption) ?_
  rotate_left 1
  . intro W hSw
    obtain ⟨u0, u1, u2, u3, u4, u5⟩ := HX.out W hSw
    go_simp
    with_reducible rfl
  simp only [Act.put, List.setIfInBounds_toArray, List.set_cons_zero, List.set_cons_succ]
  refine take_to (i := 3) (d := 10) (v := ?_) rfl rfl (by kernel_rfl) (by kernel_rfl) (by kernel_rfl) (fun _ _ _ h => h) (Or.inl ⟨by rfl, ?_⟩) (by assumption) ?_
  rotate_left 1
  . intro W hSw
    obtain ⟨u0, u1, u2, u3, u4, u5⟩ := HX.out W hSw
    go_simp
    with_reducible rfl
  simp only [Act.put, List.setIfInBounds_toArray, List.set_cons_zero, List.set_cons_succ]
  refine take_to (i := 4) (d := 11) (v := ?_) rfl rfl (by kernel_rfl) (by kernel_rfl) (by kernel_rfl) (fun _ _ _ h => h) (Or.inl ⟨by rfl, ?_⟩) (by assumption) ?_
  rotate_left 1
  . intro W hSw
    obtain ⟨u0, u1, u2, u3, u4, u5⟩ := HX.out W hSw
    go_simp
    with_reducible rfl
  simp only [Act.put, List.setIfInBounds_toArray, List.set_cons_zero, List.set_cons_succ]
  refine take_to (i := 5) (d := 12) (v := ?_) rfl rfl (by kernel_rfl) (by kernel_rfl) (by kernel_rfl) (fun _ _ _ h => h) (Or.inl ⟨by rfl, ?_⟩) (by assumption) ?_
  rotate_left 1
  . intro W hSw
    obtain ⟨u0, u1, u2, u3, u4, u5⟩ := HX.out W hSw
    go_simp
    with_reducible rfl
  simp only [Act.put, List.setIfInBounds_toArray, List.set_cons_zero, List.set_cons_succ]
  refine take_to (i := 6) (d := 13) (v := ?_) rfl rfl (by kernel_rfl) (by kernel_rfl) (by kernel_rfl) (fun _ _ _ h => h) (Or.inl ⟨by rfl, ?_⟩) (by assumption) ?_
  rotate_left 1
  . intro W hSw
    obtain ⟨u0, u1, u2, u3, u4, u5⟩ := HX.out W hSw
    go_simp
    with_reducible rfl
  simp only [Act.put, List.setIfInBounds_toArray, List.set_cons_zero, List.set_cons_succ]
  refine take_to (i := 7) (d := 14) (v := ?_) rfl rfl (by kernel_rfl) (by kernel_rfl) (by kernel_rfl) (fun _ _ _ h => h) (Or.inl ⟨by rfl, ?_⟩) (by assumption) ?_
  rotate_left 1
  . intro W hSw
    obtain ⟨u0, u1, u2, u3, u4, u5⟩ := HX.out W hSw
    go_simp
    with_reducible rfl
  simp only [Act.put, List.setIfInBounds_toArray, List.set_cons_zero, List.set_cons_succ]
  refine take_to (i := 9) (d := 16) (v := ?_) rfl rfl (by kernel_rfl) (by kernel_rfl) (by kernel_rfl) (fun _ _ _ h => h) (Or.inl ⟨by rfl, ?_⟩) (by assumption) ?_
  rotate_left 1
  . intro W hSw
    obtain ⟨u0, u1, u2, u3, u4, u5⟩ := HX.out W hSw
    go_simp
    with_reducible rfl
  simp only [Act.put, List.setIfInBounds_toArray, List.set_cons_zero, List.set_cons_succ]
  refine take_to (i := 10) (d := 17) (v := ?_) rfl rfl (by kernel_rfl) (by kernel_rfl) (by kernel_rfl) (fun _ _ _ h => h) (Or.inl ⟨by rfl, ?_⟩) (by assumption) ?_
  rotate_left 1
  . intro W hSw
    obtain ⟨u0, u1, u2, u3, u4, u5⟩ := HX.out W hSw
    go_simp
    with_reducible rfl
  simp only [Act.put, List.setIfInBounds_toArray, List.set_cons_zero, List.set_cons_succ]
  refine take_to (i := 11) (d := 18) (v := ?_) rfl rfl (by kernel_rfl) (by kernel_rfl) (by kernel_rfl) (fun _ _ _ h => h) (Or.inl ⟨by rfl, ?_⟩) (by assumption) ?_
  rotate_left 1
  . intro W hSw
    obtain ⟨u0, u1, u2, u3, u4, u5⟩ := HX.out W hSw
    go_simp
    with_reducible rfl
  simp only [Act.put, List.setIfInBounds_toArray, List.set_cons_zero, List.set_cons_succ]
  refine take_to (i := 13) (d := 20) (v := ?_) rfl rfl (by kernel_rfl) (by kernel_rfl) (by kernel_rfl) (fun _ _ _ h => h) (Or.inl ⟨by rfl, ?_⟩) (by assumption) ?_
  rotate_left 1
  . intro W hSw
    obtain ⟨u0, u1, u2, u3, u4, u5⟩ := HX.out W hSw
    go_simp
    with_reducible rfl
  simp only [Act.put, List.setIfInBounds_toArray, List.set_cons_zero, List.set_cons_succ]
  refine take_to (i := 14) (d := 21) (v := ?_) rfl rfl (by kernel_rfl) (by kernel_rfl) (by kernel_rfl) (fun _ _ _ h => h) (Or.inl ⟨by rfl, ?_⟩) (by assumption) ?_
  rotate_left 1
  . intro W hSw
    obtain ⟨u0, u1, u2, u3, u4, u5⟩ := HX.out W hSw
    go_simp
    with_reducible rfl
  simp only [Act.put, List.setIfInBounds_toArray, List.set_cons_zero, List.set_cons_succ]
  refine take_to (i := 15) (d := 22) (v := ?_) rfl rfl (by kernel_rfl) (by kernel_rfl) (by kernel_rfl) (fun _ _ _ h => h) (Or.inl ⟨by rfl, ?_⟩) (by assumption) ?_
  rotate_left 1
  . intro W hSw
    obtain ⟨u0, u1, u2, u3, u4, u5⟩ := HX.out W hSw
    go_simp
    with_reducible rfl
  simp only [Act.put, List.setIfInBounds_toArray, List.set_cons_zero, List.set_cons_succ]
  refine wpAnyH_ready (rs := [8]) (by kernel_rfl) (by simp) ?_
  refine AllReadyH.cons (o := { dst := some 15, op := Op.call { callee := Callee.value (Operand.func 64), args := #[Operand.tmp 10, Operand.tmp 14], argTypes := #[3, 3] }, type := 3, pos := "moments.go:80", after := #[{ on := 3, ground := Ground.data }, { on := 7, ground := Ground.data }], guard := none }) rfl (fun K hK => ?_) AllReadyH.nil
  go_simp
  go_at_call 64
  refine (AnyG.cmp_Compare_int Tryd.compareI (f x) (f y) _).mono ?_
  rintro e w9 ⟨rfl, hw9⟩
  obtain rfl := hw9.symm
  go_wp2_with fail
  refine hK.out _ _ (show (fun W : World => Below V.heap.size V W) _ from hHeld) (fun hHeld => ?_)
  clear hK K
  try simp only [Act.put, List.setIfInBounds_toArray, List.set_cons_zero, List.set_cons_succ]
  refine wpAnyH_ready (rs := [12]) (by kernel_rfl) (by simp) ?_
  refine AllReadyH.cons (o := { dst := some 19, op := Op.call { callee := Callee.value (Operand.func 51), args := #[Operand.tmp 18], argTypes := #[82] }, type := 3, pos := "moments.go:80", after := #[{ on := 11, ground := Ground.data }, { on := 8, ground := Ground.chain }], guard := none }) rfl (fun K hK => ?_) AllReadyH.nil
  go_simp
  go_at_call 51
  refine (HLy.out _ hHeld).mono ?_
  rintro e w9 ⟨rfl, hw9⟩
  obtain rfl := hw9.symm
  go_wp2_with fail
  refine hK.out _ _ (show (fun W : World => Below V.heap.size V W) _ from hHeld) (fun hHeld => ?_)
  clear hK K
  try simp only [Act.put, List.setIfInBounds_toArray, List.set_cons_zero, List.set_cons_succ]
  refine wpAnyH_ready (rs := [16]) (by kernel_rfl) (by simp) ?_
  refine AllReadyH.cons (o := { dst := some 23, op := Op.call { callee := Callee.value (Operand.func 51), args := #[Operand.tmp 22], argTypes := #[82] }, type := 3, pos := "moments.go:80", after := #[{ on := 15, ground := Ground.data }, { on := 12, ground := Ground.chain }], guard := none }) rfl (fun K hK => ?_) AllReadyH.nil
  go_simp
  go_at_call 51
  refine (HLx.out _ hHeld).mono ?_
  rintro e w9 ⟨rfl, hw9⟩
  obtain rfl := hw9.symm
  go_wp2_with fail
  refine hK.out _ _ (show (fun W : World => Below V.heap.size V W) _ from hHeld) (fun hHeld => ?_)
  clear hK K
  try simp only [Act.put, List.setIfInBounds_toArray, List.set_cons_zero, List.set_cons_succ]
  refine wpAnyH_ready (rs := [17]) (by kernel_rfl) (by simp) ?_
  refine AllReadyH.cons (o := { dst := some 24, op := Op.call { callee := Callee.value (Operand.func 64), args := #[Operand.tmp 19, Operand.tmp 23], argTypes := #[3, 3] }, type := 3, pos := "moments.go:80", after := #[{ on := 12, ground := Ground.data }, { on := 16, ground := Ground.data }, { on := 16, ground := Ground.chain }], guard := none }) rfl (fun K hK => ?_) AllReadyH.nil
  go_simp
  go_at_call 64
  refine (AnyG.cmp_Compare_int Tryd.compareI (ln (oa ops y)) (ln (oa ops x)) _).mono ?_
  rintro e w9 ⟨rfl, hw9⟩
  obtain rfl := hw9.symm
  go_wp2_with fail
  refine hK.out _ _ (show (fun W : World => Below V.heap.size V W) _ from hHeld) (fun hHeld => ?_)
  clear hK K
  try simp only [Act.put, List.setIfInBounds_toArray, List.set_cons_zero, List.set_cons_succ]
  refine wpAnyH_ready (rs := [18]) (by kernel_rfl) (by simp) ?_
  refine AllReadyH.cons (o := { dst := some 25, op := Op.buildSlice 25 2 #[(0, Operand.tmp 15), (1, Operand.tmp 24)], type := 25, pos := "moments.go:80", after := #[{ on := 8, ground := Ground.data }, { on := 17, ground := Ground.data }], guard := none }) rfl (fun K hK => ?_) AllReadyH.nil
  go_simp
  refine hK.out _ _ (show (fun W : World => Below V.heap.size V W) _ from (hHeld.alloc hHeld.size (.cells #[.int .i64 (Lib.compareInt (f x) (f y)), .int .i64 (Lib.compareInt (ln (oa ops y)) (ln (oa ops x)))] 3))) (fun hHeld => ?_)
  clear hK K
  try simp only [Act.put, List.setIfInBounds_toArray, List.set_cons_zero, List.set_cons_succ]
  refine wpAnyH_ready (rs := [19]) (by kernel_rfl) (by simp) ?_
  refine AllReadyH.cons (o := { dst := some 26, op := Op.call { callee := Callee.value (Operand.func 63), args := #[Operand.tmp 25], argTypes := #[25] }, type := 3, pos := "moments.go:80", after := #[{ on := 18, ground := Ground.data }, { on := 17, ground := Ground.chain }], guard := none }) rfl (fun K hK => ?_) AllReadyH.nil
  go_simp
  go_at_call 63
  refine (lOr2 V.heap.size _ _ _ (heap_alloc_new V.drew (.cells #[.int .i64 (Lib.compareInt (f x) (f y)), .int .i64 (Lib.compareInt (ln (oa ops y)) (ln (oa ops x)))] 3))).mono ?_
  rintro e w9 ⟨rfl, hw9⟩
  obtain rfl := hw9.symm
  go_wp2_with fail
  refine hK.out _ _ (show (fun W : World => Below V.heap.size V W) _ from hHeld) (fun hHeld => ?_)
  clear hK K
  try simp only [Act.put, List.setIfInBounds_toArray, List.set_cons_zero, List.set_cons_succ]
  refine take_to (i := 20) (d := 6) (v := ?_) rfl rfl (by kernel_rfl) (by kernel_rfl) (by kernel_rfl) (fun _ _ _ h => h) (Or.inl ⟨by rfl, ?_⟩) (by assumption) ?_
  rotate_left 1
  . intro W hSw
    obtain ⟨u0, u1, u2, u3, u4, u5⟩ := HX.out W hSw
    go_simp
    with_reducible rfl
  simp only [Act.put, List.setIfInBounds_toArray, List.set_cons_zero, List.set_cons_succ]
  refine wpAnyH_done (by kernel_rfl) ?_ _
  go_wp2_with fail
  go_ret
  exact ⟨rfl, _, rfl⟩
def encF {n : Nat} (i : Fin n) : Value := .int .i64 (i.1 : Int)
theorem sw_block {n : Nat} [Inhabited (Fin n)] {w W : World} {g : Nat} {d : Array (Fin n)} (h : SW (encF (n := n)) w g 0 d W) {b : Nat} (hb : b ≠ g) (hl : b < w.heap.size) : W.heap[b]? = w.heap[b]? := by
  obtain ⟨m, os, rfl⟩ := h
  unfold sortWorld Sort.grow Sort.putRow Sort.mapBlock Sort.ahead
  rw [Array.getElem?_append_left (by simpa using hl)]
  simp [Array.getElem?_modify, Ne.symm hb]
theorem sw_keep {n : Nat} [Inhabited (Fin n)] {w W : World} {g : Nat} {d : Array (Fin n)} (h : SW (encF (n := n)) w g 0 d W) {B : Nat} (hB : B <= g) (hw : B <= w.heap.size) : Below B w W := by
  have hs := h.le
  have hk := fun b (hb : b < B) => sw_block h (b := b) (by omega) (by omega)
  obtain ⟨m, os, rfl⟩ := h
  exact ⟨rfl, rfl, rfl, hs, fun k hk' => hk k hk'⟩
theorem cmpLays (ops : List COp) (f : Nat -> Int) (n : Nat) [Inhabited (Fin n)] (hn : ops.length = n) (gM gR gO gL : Nat) (ao : Option Addr) (k : Nat) (w : World) (hM : w.heap[gM]? = some (.cells #[.slice (some ⟨gR, 0, none⟩) n n] 25 (0, 0))) (hR : Rk w gR 3 n (fun j => .int .i64 (f j))) (hOb : w.heap[gO]? = some (.cells #[.slice ao n k] 22 (0, 0))) (h1 : gM ≠ gL) (h2 : gR ≠ gL) (h3 : gO ≠ gL) (B : Nat) (hBo : ∀ V, Below B w V -> OpsIn V ao ops) (hB : B <= gL) (hBw : B <= w.heap.size) :
    CmpLays1 Tryd.prog 62 #[.pointer (some ⟨gM, 0, none⟩), .pointer (some ⟨gO, 0, none⟩)] (encF (n := n)) (fun x y => cfv ops f x.1 y.1) gL 0 n w := by
  intro m os dk hs x y
  have hS : SW (encF (n := n)) w gL 0 dk (sortWorld encF w gL 0 m dk os) := ⟨m, os, rfl⟩
  have kM := (sw_block hS h1 (Array.getElem?_eq_some_iff.1 hM).1).trans hM
  have kO := (sw_block hS h3 (Array.getElem?_eq_some_iff.1 hOb).1).trans hOb
  have kR := hR.of_block (sw_block hS h2 hR.lt)
  refine (lCmp1 ops f n hn gM gR gO ao k x.1 y.1 x.2 y.2 _ kM kR kO (hBo _ (sw_keep hS hB hBw))).mono ?_
  rintro e w' ⟨rfl, cs, rfl⟩
  exact ⟨rfl, 1, #[.cells cs 3], by rw [Sort.alloc_eq_grow]; rfl⟩
theorem lStable (n : Nat) [Inhabited (Fin n)] (h20 : n < 20) (gL gf : Nat) (cb : Array Value) (cf : Fin n -> Fin n -> Int) (d : Array (Fin n)) (hd : d.size = n) (w : World) (eg : ∀ args w, (callFunc gf args).run Tryd.prog w = .ok (.enter gf args) w) (hcmp : CmpLays1 Tryd.prog gf cb (encF (n := n)) cf gL 0 n w) (hH : Sort.Holds (encF (n := n)) w gL 0 d) (hblk : gL < w.heap.size) :
    Calls Tryd.prog 74 #[.slice (some ⟨gL, 0, none⟩) n n, .int .i64 (n : Int), .func (.func gf) #[] cb] w fun e w' => e = .returned (.tuple #[]) /\ SW (encF (n := n)) w gL 0 (Sort.insertionSort (ltOf cf) d 0 n) w' := by
  have hR : Row1 (encF (n := n)) w gL 0 d := ⟨fun _ => rfl, hH, hblk⟩
  have c1 := Any.insertionSortCmpFunc_s Tryd.insertI (encF (n := n)) cf gf cb gL 0 n 0 n d d w w eg (by rw [hd]; exact hcmp) hR rfl (SW.start hH) (Nat.zero_le _) (by omega) (by omega)
  rw [hd] at c1
  have d1 : decide ((20 : Int) <= (n : Int)) = false := decide_eq_false (by omega)
  have d2 : decide ((20 : Int) < (n : Int)) = false := decide_eq_false (by omega)
  clear hcmp hH hR hd eg
  go_enter Tryd.func74, Tryd.ntmps74
  go_wp2_with fail
  go_loopw [7, 8] (fun v7 v8 wr => wr = w /\ v7 = .int .i64 0 /\ v8 = .int .i64 20) (fun _ _ _ => 0)
  case atStart => exact ⟨rfl, rfl, rfl⟩
  case round =>
    obtain ⟨rfl, rfl, rfl⟩ := hrel
    go_wp2_with (go_at_call 82; refine Calls.mono c1 ?_; rintro e w2 ⟨rfl, hS⟩; have HS := hide hS; clear hS)
    go_loopw [6, 7, 8, 9] (fun v6 _ _ _ wx => v6 = .int .i64 20 /\ wx = w2) (fun _ _ _ _ _ => 0)
    case atStart => exact ⟨rfl, rfl⟩
    case round =>
      obtain ⟨rfl, rfl⟩ := hrel
      go_wp2_with fail
      go_end0
      exact ⟨rfl, HS.out⟩
theorem lSortStable (n : Nat) [Inhabited (Fin n)] (h20 : n < 20) (gL gf : Nat) (cb : Array Value) (cf : Fin n -> Fin n -> Int) (d : Array (Fin n)) (hd : d.size = n) (w : World) (eg : ∀ args w, (callFunc gf args).run Tryd.prog w = .ok (.enter gf args) w) (hcmp : CmpLays1 Tryd.prog gf cb (encF (n := n)) cf gL 0 n w) (hH : Sort.Holds (encF (n := n)) w gL 0 d) (hblk : gL < w.heap.size) :
    Calls Tryd.prog 61 #[.slice (some ⟨gL, 0, none⟩) n n, .func (.func gf) #[] cb] w fun e w' => e = .returned (.tuple #[]) /\ SW (encF (n := n)) w gL 0 (Sort.insertionSort (ltOf cf) d 0 n) w' := by
  have c1 := lStable n h20 gL gf cb cf d hd w eg hcmp hH hblk
  clear hcmp hH eg
  go_enter Tryd.func61, Tryd.ntmps61
  go_wp2_with (go_at_call 74; refine Calls.mono c1 ?_; rintro e w2 ⟨rfl, hS⟩; have HS := hide hS; clear hS)
  go_end0
  exact ⟨rfl, HS.out⟩
end Go.Proofs.YthndpbjplcphpaaDoor.Lay
