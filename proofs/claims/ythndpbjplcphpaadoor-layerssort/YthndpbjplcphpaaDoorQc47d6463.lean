import Derived.Test.YthndpbjplcphpaaDoorQ54c82225
import Derived.Test.YthndpbjplcphpaaDoorQ2f9d986d
set_option maxRecDepth 100000
set_option maxHeartbeats 8000000
namespace Go.Proofs.YthndpbjplcphpaaDoor.Lay
open Go.RowKit Go.Shelf Go.Proofs.YthndpbjplcphpaaDoor.Oct Go.Proofs.YthndpbjplcphpaaDoor.Tok Go.Proofs.YthndpbjplcphpaaDoor.Gt Go.Proofs.YthndpbjplcphpaaDoor.Cir
theorem run_app_zero {w : World} {B n c : Nat} {ao : Option Addr} {xs : List Value} (hR : w.ownsRow B 3 1 (.slice ao n c) n xs) (ax : Option Addr) (cx ty : Nat) : (Builtin.append_ #[25, 25] ty #[.slice ao n c, .slice ax 0 cx]).run Tryd.prog w = .ok (.slice ao n c) w := by
  obtain ⟨i0, hi, hz0, hz1, hz2⟩ := info_parts Gt.infoI
  have ht := Tryd.underlying25
  rcases hR.2 with ⟨e, -⟩ | ⟨g, cap, cur, e, _, _, hnc, _⟩
  . simp only [Value.slice.injEq] at e
    obtain ⟨rfl, rfl, rfl⟩ := e
    cases ax <;> simp [Builtin.append_, run_underlying ht, sizeOf, typeInfo, hi, Builtin.lenOf, Builtin.firstCells, loadCells, loadCellsFrom]
  . simp only [Value.slice.injEq] at e
    obtain ⟨rfl, -, rfl⟩ := e
    cases ax <;> simp [Builtin.append_, run_underlying ht, sizeOf, typeInfo, hi, Builtin.lenOf, Builtin.firstCells, loadCells, loadCellsFrom, hnc, storeCells]
theorem app_gen {ops : Array Oper} {rest : List Oper} {o : Oper} {a : Act} {Q : Exit -> Act -> World -> Prop} {w : World} (hgd : o.guard = none) (s x : Operand)
    (ho : o.op = .call { callee := .builtin .append, args := #[s, x], argTypes := #[25, 25] }) {B n c : Nat} {ao : Option Addr} {l : List Int} (hR : w.ownsRow B 3 1 (.slice ao n c) n (l.map (Value.int .i64))) (hB : B <= w.heap.size) (ax : Option Addr) (cx : Nat) (l2 : List Int) (m : Nat) (hm : l2.length = m) (hs : a.eval s = .slice ao n c) (hx : a.eval x = .slice ax m cx) (hN : Ns w ax l2) (hn : n + m <= 1000000000)
    (h : ∀ ao' c' w', w'.ownsRow B 3 1 (.slice ao' (n + m) c') (n + m) ((l ++ l2).map (Value.int .i64)) -> w.grownBy w' (ob ao) -> wpList Tryd.prog ops Q rest (a.put o.dst (.slice ao' (n + m) c')) w') : wpList Tryd.prog ops Q (o :: rest) a w := by
  obtain ⟨i0, hi, hz0, hz1, hz2⟩ := info_parts Gt.infoI
  subst hm
  by_cases h0 : 0 < l2.length
  . have hne : l2 ≠ [] := fun e => by rw [e] at h0; simp at h0
    obtain ⟨g, off, rfl, hc⟩ := hN.resolve_left hne
    refine wpList_append_lies w hgd s x 25 ho B 3 i0 (.int .i64 0) 1 8 Tryd.underlying25 hi hz0 hz1 hz2 rfl (by decide) _ n _ hs hR ⟨g, off, none⟩ l2.length cx (l2.map (Value.int .i64)) hx (by simp) (fun j u hu => ?_) (fun u hu => ?_) h0 (by unfold maxLen; omega) (by omega) hB _ rfl ?_
    . rw [Addr.add_lit]
      rw [List.getElem?_map] at hu
      obtain ⟨z, hz, rfl⟩ := Option.map_eq_some_iff.1 hu
      exact hc j z hz
    . obtain ⟨z, _, rfl⟩ := List.mem_map.1 hu
      rfl
    . intro g2 cap w2 hown2 hgrow hat hlt
      rw [ob_eq] at hgrow
      exact h _ _ w2 (by rw [List.map_append]; exact hown2) hgrow
  . obtain rfl : l2 = [] := List.length_eq_zero_iff.1 (by omega)
    refine wpList_plain hgd fun K hK => ?_
    have hrun := fun ty => run_app_zero hR ax cx ty
    have hx' : a.eval x = .slice ax 0 cx := hx
    unfold Oper.wp execOp
    simp only [ho, resolve, invoke, builtin, Sem.run_bind, Sem.run_pure, Result.andThen_ok, List.map_toArray, List.map_cons, List.map_nil, hs, hx', hrun]
    exact hK _ _ (h ao c w (by rw [List.append_nil]; exact hR) (World.grownBy.refl _ _))
theorem makeB19 (n : Nat) (hn : n <= 4398046511105) (w : World) : (Instr.makeSlice 88 (.int .i64 (n : Int)) (.int .i64 (n : Int))).run Tryd.prog w = .ok (.slice (some ⟨w.heap.size, 0, none⟩) n n) (w.alloc (.cells (madeCells #[.bool false] n) 4)) :=
  run_make_row' 88 4 (.bool false) 1 Tryd.underlying88 (by kernel_rfl) rfl .i64 .i64 n (by omega) (by omega) w
theorem madeB19 (V : World) (n x : Nat) (hx : V.heap.size = x) : Rk (V.alloc (.cells (madeCells #[.bool false] n) 4)) x 4 n (fun _ => .bool false) := by
  subst hx
  obtain ⟨c, h1, h2, h3⟩ := World.rowIs_made V (.bool false) n 4
  exact ⟨c, h1, by omega, h3⟩
def sv (ops : List COp) : (Int -> Bool) -> List Nat -> List Nat
  | _, [] => []
  | M, i :: r => if hit M (oa ops i) then i :: sv ops (fun x => M x || decide (x ∈ wr (oa ops i))) r else sv ops M r
theorem cn_sv (ops : List COp) (M : Int -> Bool) (L : List Nat) : (cn M (L.map fun i => (i, oa ops i))).2 = (sv ops M L).map fun (i : Nat) => (i : Int) := by
  unfold cn
  have key : ∀ (L : List Nat) (M : Int -> Bool) (acc : List Int), ((L.map fun i => (i, oa ops i)).foldl (fun s p => if hit s.1 p.2 then (fun x => s.1 x || decide (x ∈ wr p.2), s.2 ++ [(p.1 : Int)]) else s) (M, acc)).2 = acc ++ (sv ops M L).map fun (i : Nat) => (i : Int) := by
    intro L
    induction L with
    | nil => intro M acc; simp [sv]
    | cons i r ih =>
      intro M acc
      rw [List.map_cons, List.foldl_cons, sv]
      simp only
      split
      . rw [ih]; simp
      . rw [ih]
  have := key L M []
  simpa using this
theorem sv_sub (ops : List COp) : ∀ (L : List Nat) (M : Int -> Bool), ∀ i ∈ sv ops M L, i ∈ L
  | [], _, i, h => by simp [sv] at h
  | a :: r, M, i, h => by
    rw [sv] at h
    split at h
    . rcases List.mem_cons.1 h with rfl | h
      . exact List.mem_cons_self
      . exact List.mem_cons_of_mem _ (sv_sub ops r _ i h)
    . exact List.mem_cons_of_mem _ (sv_sub ops r _ i h)
theorem sv_filter (ops : List COp) : ∀ (L : List Nat) (M : Int -> Bool), L.Nodup -> sv ops M L = L.filter fun i => decide (i ∈ sv ops M L)
  | [], _, _ => rfl
  | a :: r, M, h => by
    rw [List.nodup_cons] at h
    rw [sv]
    split
    . have ih := sv_filter ops r (fun x => M x || decide (x ∈ wr (oa ops a))) h.2
      rw [List.filter_cons, if_pos (by simp)]
      congr 1
      conv => lhs; rw [ih]
      apply List.filter_congr
      intro x hx
      rw [decide_eq_decide, List.mem_cons]
      exact ⟨fun hm => .inr hm, fun hm => hm.resolve_left (fun e => by subst e; exact h.1 hx)⟩
    . have ih := sv_filter ops r M h.2
      rw [List.filter_cons, if_neg (by simp; exact fun hm => h.1 (sv_sub ops r M a hm))]
      exact ih
def posB (bk : Bool) (n t : Nat) : Nat := if bk then n - 1 - t else t
def posL (bk : Bool) (n m : Nat) : List Nat := (List.range m).map (posB bk n)
theorem posL_succ (bk : Bool) (n m : Nat) : posL bk n (m + 1) = posL bk n m ++ [posB bk n m] := by unfold posL; rw [List.range_succ, List.map_append]; rfl
theorem posL_true (n : Nat) : posL true n n = (List.range n).reverse := by
  unfold posL
  apply List.ext_getElem
  . simp
  . intro i h1 h2
    simp [posB]
theorem posL_false (n : Nat) : posL false n n = List.range n := by
  unfold posL
  conv => rhs; rw [← List.map_id (List.range n)]
  apply List.map_congr_left
  intro a _
  rfl
theorem cnR_eq {c : Circ} {l : List Int} (h : asE c l = 0) (bk : Bool) : cnR c l bk = ((List.range c.ops.length).filter fun (k : Nat) => decide ((k : Int) ∈ (cn (asM c l) ((posL bk c.ops.length c.ops.length).map fun i => (i, oa c.ops i))).2)).map fun (i : Nat) => (i : Int) := by
  unfold cnR
  rw [if_pos h]
  have hmem : ∀ (L : List Nat) (k : Nat), (k : Int) ∈ (L.map fun (i : Nat) => (i : Int)) ↔ k ∈ L := fun L k => by
    constructor
    . intro hm
      obtain ⟨y, hy, e⟩ := List.mem_map.1 hm
      rw [show k = y by omega]
      exact hy
    . intro hm; exact List.mem_map.2 ⟨k, hm, rfl⟩
  cases bk with
  | true =>
    rw [if_pos rfl, posL_true, cn_sv, ← List.map_reverse]
    congr 1
    conv => lhs; rw [sv_filter _ _ _ (by rw [List.nodup_iff_pairwise_ne, List.pairwise_reverse]; exact (List.nodup_iff_pairwise_ne.1 List.nodup_range).imp fun h => h.symm)]
    rw [← List.filter_reverse, List.reverse_reverse]
    apply List.filter_congr
    intro x _
    rw [decide_eq_decide, hmem]
  | false =>
    rw [if_neg (by decide), posL_false, cn_sv]
    congr 1
    conv => lhs; rw [sv_filter _ _ _ List.nodup_range]
    apply List.filter_congr
    intro x _
    rw [decide_eq_decide, hmem]
def MtI (mat : List Int) (M : Int -> Bool) : Prop := ∀ x, 0 <= x -> x < 128 -> (ph x ∈ mat ↔ M x = true)
theorem mtI_meet {mat : List Int} {M : Int -> Bool} (h : MtI mat M) {o : COp} (ho : Wk o) : mt mat (wd o) = (wr o).any M := by
  rw [wd_eq ho, Bool.eq_iff_iff]
  unfold mt
  rw [List.any_eq_true, List.any_eq_true]
  constructor
  . rintro ⟨y, h1, h2⟩
    obtain ⟨x, hx, rfl⟩ := List.mem_map.1 (of_decide_eq_true h2)
    have := wr_rng ho x hx
    exact ⟨x, hx, (h x this.1 this.2).1 h1⟩
  . rintro ⟨x, hx, hM⟩
    have := wr_rng ho x hx
    exact ⟨ph x, (h x this.1 this.2).2 hM, decide_eq_true (List.mem_map.2 ⟨x, hx, rfl⟩)⟩
theorem mtI_app {mat : List Int} {M : Int -> Bool} (h : MtI mat M) {o : COp} (ho : Wk o) : MtI (mat ++ wd o) (fun x => M x || decide (x ∈ wr o)) := by
  intro x h0 h1
  rw [wd_eq ho, List.mem_append, Bool.or_eq_true, decide_eq_true_eq, h x h0 h1]
  constructor
  . rintro (hm | hm)
    . exact .inl hm
    . obtain ⟨y, hy, e⟩ := List.mem_map.1 hm
      rw [ph_inj e] at hy
      exact .inr hy
  . rintro (hm | hm)
    . exact .inl hm
    . exact .inr (List.mem_map.2 ⟨x, hm, rfl⟩)
theorem mtI_start {l : List Int} (h : ∀ z ∈ l, 0 <= z /\ z < 64) : MtI l (fun x => decide (x ∈ l)) := by
  intro x h0 h1
  rw [decide_eq_true_eq]
  unfold ph
  split
  . exact Iff.rfl
  . rename_i hx
    constructor
    . intro hm; have := h _ hm; omega
    . intro hm; have := h _ hm; omega
theorem own_rkb {w : World} {B n c g m : Nat} {ao : Option Addr} {xs : List Value} {f : Nat -> Value} (h : w.ownsRow B 3 1 (.slice ao n c) n xs) (hR : Rk w g 4 m f) : ob ao = some g -> False := by
  obtain ⟨cs, h1, -⟩ := hR
  exact own_ne h h1 (by decide)
theorem own_boolset {w : World} {B n c g m : Nat} {ao : Option Addr} {xs : List Value} {f : Nat -> Value} (h : w.ownsRow B 3 1 (.slice ao n c) n xs) (hR : Rk w g 4 m f) (i : Nat) : (w.setCell ⟨g, i, none⟩ (.bool true)).ownsRow B 3 1 (.slice ao n c) n xs :=
  own_of_block h fun k hk => Below.heap_setCell _ _ _ _ (fun e => own_rkb h hR (by rw [← show k = g from e]; exact hk))
theorem in_set {w : World} {g n : Nat} {l : List Int} (h : Rk w g 4 n (fun j => .bool (decide ((j : Int) ∈ l)))) (p : Nat) : Rk (w.setCell ⟨g, p, none⟩ (.bool true)) g 4 n (fun j => .bool (decide ((j : Int) ∈ l ++ [(p : Int)]))) :=
  (h.set p _).congr fun j hj => by
    by_cases e : j = p
    . rw [if_pos e, e]
      simp
    . rw [if_neg e]
      congr 1
      rw [decide_eq_decide, List.mem_append, List.mem_singleton]
      exact ⟨fun h => .inl h, fun h => h.resolve_right (by omega)⟩
theorem flt_snoc (p : Nat -> Bool) (j : Nat) : ((List.range (j + 1)).filter p).map (fun (i : Nat) => (i : Int)) = if p j then ((List.range j).filter p).map (fun (i : Nat) => (i : Int)) ++ [(j : Int)] else ((List.range j).filter p).map (fun (i : Nat) => (i : Int)) := by
  rw [List.range_succ, List.filter_append, List.map_append]
  cases h : p j <;> simp [h]
theorem dCone (c : Circ) (ao : Option Addr) (k : Nat) (l : List Int) (al : Option Addr) (cl : Nat) (bk : Bool) (hl : l.length <= 1000000000000000) (w : World) (hC : Ci w c ao k) (hN : Ns w al l) : Calls Tryd.prog 38 #[cV c ao k, .slice al l.length cl, .bool bk] w (EPost w (cnR c l bk) (asE c l)) := by
  have c1 := fun V (h : Below w.heap.size w V) => eMay c ao k V (hC.below h)
  have c2 := fun V (h : Below w.heap.size w V) => dQubits l al cl c.q hl V (hN.below h)
  have HBR : Hid (∀ i, i < c.ops.length -> ∀ V, Below w.heap.size w V -> Calls Tryd.prog 32 #[cV c ao k, .int .i64 (i : Int)] V fun e w' => e = .returned (.bool (decide ((oa c.ops i).kind = 4))) /\ Below V.heap.size V w') := hide fun i hi V hb => dBar c ao k i hi V (hC.below hb)
  have HOK : Hid (okC c = true -> (∀ o ∈ c.ops, Wk o /\ 0 < o.qs.length) /\ c.ops.length <= 4096) := hide ok_wk
  have hq64 : okC c = true -> c.q <= 64 := fun h => (chkC_ok (by unfold okC at h; simpa using h)).2.1
  rw [show ((chkC c).2 == 0) = okC c from rfl] at c1
  have HE1 : Hid (okC c = false -> asE c l = 80) := hide (fun h => by unfold asE; rw [if_pos (by unfold okC at h; simpa using h)])
  have HE2 : Hid (okC c = true -> apaP l c.q = false -> asE c l = 190) := hide (fun h h2 => by unfold asE; rw [if_neg (by unfold okC at h; simpa using h), h2]; rfl)
  have HE3 : Hid (okC c = true -> apaP l c.q = true -> asE c l = 0) := hide (fun h h2 => by unfold asE; rw [if_neg (by unfold okC at h; simpa using h), h2]; rfl)
  have HC0 : Hid (asE c l ≠ 0 -> cnR c l bk = []) := hide (fun e => by unfold cnR; rw [if_neg e])
  have HCR : Hid (asE c l = 0 -> cnR c l bk = ((List.range c.ops.length).filter fun (k : Nat) => decide ((k : Int) ∈ (cn (asM c l) ((posL bk c.ops.length c.ops.length).map fun i => (i, oa c.ops i))).2)).map fun (i : Nat) => (i : Int)) := hide (fun e => cnR_eq e bk)
  have HAM : Hid (asE c l = 0 -> asM c l = fun x => decide (x ∈ l)) := hide (fun e => by funext x; unfold asM; rw [e]; rfl)
  have HNL := hide hN
  have HO := hide hC.ops
  clear hC hN
  generalize asE c l = E at *
  generalize asM c l = AM at *
  generalize cnR c l bk = R at *
  obtain ⟨q, b, ops⟩ := c
  unfold cV at *
  simp only at *
  generalize okC ⟨q, b, ops⟩ = ok at *
  obtain ⟨n, hn⟩ : ∃ n, ops.length = n := ⟨_, rfl⟩
  have HN := hide hn
  rw [hn] at c1 HBR HOK HCR ⊢
  obtain ⟨L, hL⟩ : ∃ L, l.length = L := ⟨_, rfl⟩
  have HLL := hide hL
  rw [hL] at c2 hl ⊢
  clear hn hL
  have hb1 := bnew w (.cells #[.int .i64 q, .int .i64 b, .slice ao n k] 24)
  have hm1 := heap_alloc_new w (.cells #[.int .i64 q, .int .i64 b, .slice ao n k] 24)
  have hsz : w.heap.size < (w.alloc (.cells #[.int .i64 q, .int .i64 b, .slice ao n k] 24)).heap.size := by simp
  go_enter Tryd.func38, Tryd.ntmps38
  go_upto_region 1 with fail
  generalize w.alloc (.cells #[.int .i64 q, .int .i64 b, .slice ao n k] 24) = W1 at *
  have c1' := c1 W1 hb1
  obtain ⟨x0, x1, x2, x3⟩ := def_cells hm1
  cases ok with
  | false =>
    have HEE := hide (HE1.out rfl)
    have HRR : Hid (R = []) := hide (HC0.out (by rw [HEE.out]; decide))
    go_wp2_with (go_at_call 27; refine c1'.mono ?_; rintro e w2 ⟨rfl, hb2⟩; have HB2 := hide (hb1.trans (hb2.mono hb1.size)))
    go_ret2
    rw [HRR.out, HEE.out]
    exact ⟨none, 0, rfl, .inl rfl, by simp, HB2.out⟩
  | true =>
    have hq64 := hq64 rfl
    have HWk := hide (HOK.out rfl).1
    have hn := (HOK.out rfl).2
    have HE2' := hide (HE2.out rfl)
    have HE3' := hide (HE3.out rfl)
    clear HOK HE1 HE2 HE3 c1
    have mq := fun W => makeB19 n (by omega) W
    cases hap : apaP l q with
    | false =>
      rw [hap] at c2
      have HEE := hide (HE2'.out hap)
      have HRR : Hid (R = []) := hide (HC0.out (by rw [HEE.out]; decide))
      go_wp2_with (first
        | (go_at_call 27; refine c1'.mono ?_; rintro e w2 ⟨rfl, hb2⟩; have hB2 := hb1.trans (hb2.mono hb1.size); have hm2 := (hb2.block _ hsz).trans hm1; obtain ⟨y0, y1, y2, y3⟩ := def_cells hm2; have c2' := c2 w2 hB2)
        | (go_at_call 56; refine c2'.mono ?_; rintro e w3 ⟨rfl, hb3⟩; have HB3 := hide (hB2.trans (hb3.mono hB2.size))))
      go_ret2
      rw [HRR.out, HEE.out]
      exact ⟨none, 0, rfl, .inl rfl, by simp, HB3.out⟩
    | true =>
      rw [hap] at c2
      have HEE := hide (HE3'.out hap)
      have HRR := hide (HCR.out HEE.out)
      have HAM' := hide (HAM.out HEE.out)
      have hap2 : l.Nodup /\ ∀ z ∈ l, 0 <= z /\ z < 64 := by
        unfold apaP at hap
        rw [Bool.and_eq_true, decide_eq_true_eq, List.all_eq_true] at hap
        exact ⟨hap.1, fun z hz => by have := hap.2 z hz; unfold wiP at this; simp at this; omega⟩
      have hL64 : L <= 64 := by rw [← HLL.out]; exact nodup_len 64 l hap2.1 (fun x hx => hap2.2 x hx)
      have HST : Hid (MtI l AM) := hide (by rw [HAM'.out]; exact mtI_start hap2.2)
      clear HC0 HCR HAM HE2' HE3' hap hap2
      go_upto_region 6 with (first
        | (go_at_call 27; refine c1'.mono ?_; rintro e w2 ⟨rfl, hb2⟩; have hB2 := hb1.trans (hb2.mono hb1.size); have hm2 := (hb2.block _ hsz).trans hm1; obtain ⟨y0, y1, y2, y3⟩ := def_cells hm2; have c2' := c2 w2 hB2)
        | (go_at_call 56; refine c2'.mono ?_; rintro e w3 ⟨rfl, hb3⟩; have hB3 := hB2.trans (hb3.mono hB2.size); have hm3 := (hb3.block _ (Array.getElem?_eq_some_iff.1 hm2).1).trans hm2)
        | (at_builtin; refine app_gen (w := w3.alloc (.cells #[] 3)) (B := w.heap.size) (l := []) rfl (.tmp 23) (.tmp 24) rfl (World.ownsRow_lit w3 #[] 0 hB3.size (by decide) rfl) (by rw [World.size_alloc]; have := hB3.size; omega) al cl l L HLL.out (by rfl) (by rfl) ((HNL.out.below hB3).below (bnew w3 _)) (by omega) ?_; intro a8 c8 w4 hown hgr))
      have hb34 := bnew w3 (.cells #[] 3)
      have hm34 := (hb34.block _ (Array.getElem?_eq_some_iff.1 hm3).1).trans hm3
      have hO34 : (w3.alloc (.cells #[] 3)).ownsRow w.heap.size 3 1 (.slice (some ⟨w3.heap.size, 0, none⟩) 0 0) 0 [] := World.ownsRow_lit w3 #[] 0 hB3.size (by decide) rfl
      have hm4 := (hgr.block _ (Array.getElem?_eq_some_iff.1 hm34).1 (fun e => own_ne hO34 hm34 (by decide) e.symm)).trans hm34
      have hB34 : Below w.heap.size w (w3.alloc (.cells #[] 3)) := hB3.trans (hb34.mono hB3.size)
      have hB4 : Below w.heap.size w w4 := hB34.grown hgr hB34.size (fun x hx => (own_lt hO34 x hx).1)
      have hO4 : w4.ownsRow w.heap.size 3 1 (.slice a8 L c8) L (l.map (Value.int .i64)) := by
        rw [Nat.zero_add, List.nil_append] at hown
        exact hown
      obtain ⟨v0, v1, v2, v3⟩ := def_cells hm4
      clear hown hgr hb34 hm34 hO34 hB34 c2 c2' hb1 hm1 hb2 hb3 hB2 hB3 hm2 hm3 y0 y1 y2 y3 x0 x1 x2 x3
      try simp only [Nat.zero_add]
      go_wp2_with fail
      obtain ⟨gI, hgI⟩ : ∃ gI, gI = w4.heap.size := ⟨_, rfl⟩
      rw [← hgI]
      have hb5 := bnew w4 (.cells (madeCells #[.bool false] n) 4)
      have hR5 : Rk (w4.alloc (.cells (madeCells #[.bool false] n) 4)) gI 4 n (fun _ => .bool false) := madeB19 w4 n gI hgI.symm
      have hm5 := (hb5.block _ (Array.getElem?_eq_some_iff.1 hm4).1).trans hm4
      have hO5 := own_below hO4 hb5
      have hB5 : Below w.heap.size w (w4.alloc (.cells (madeCells #[.bool false] n) 4)) := hB4.trans (hb5.mono hB4.size)
      have hgw : w.heap.size < gI := by rw [hgI]; exact (Array.getElem?_eq_some_iff.1 hm4).1
      generalize w4.alloc (.cells (madeCells #[.bool false] n) 4) = W5 at *
      clear hgI hb5 hm4 hO4 hB4 v0 v1 v2 v3 mq
      go_loopw [8, 10, 11, 12] (fun v8 vi _ _ wr => ∃ (t : Nat) (mat : List Int) (ml : Nat) (a8 : Option Addr) (c8 : Nat), t <= n /\ vi = .int .i64 (t : Int) /\ v8 = .slice a8 ml c8 /\ Hid (mat.length = ml) /\ ml <= 64 + 65 * t /\ Hid (MtI mat (cn AM ((posL bk n t).map fun i => (i, oa ops i))).1) /\ Hid (wr.ownsRow w.heap.size 3 1 (.slice a8 ml c8) ml (mat.map (Value.int .i64))) /\ Hid (Rk wr gI 4 n (fun j => .bool (decide ((j : Int) ∈ (cn AM ((posL bk n t).map fun i => (i, oa ops i))).2)))) /\ Hid (wr.heap[w.heap.size]? = some (.cells #[.int .i64 q, .int .i64 b, .slice ao n k] 24 (0, 0))) /\ Hid (Below w.heap.size w wr)) (fun _ vi _ _ _ => n - (intOf vi).toNat)
      case atStart => exact ⟨0, l, L, a8, c8, Nat.zero_le _, rfl, rfl, HLL, by omega, HST, hide hO5, hide (hR5.congr fun j _ => by simp [posL, cn]), hide hm5, hide hB5⟩
      case round =>
        clear hR5 hm5 hO5 hB5 HST
        obtain ⟨t, mat, ml, a8, c8, ht, rfl, rfl, HMeq, hml, HMI, HO1, HR1, HM1, HB1⟩ := hrel
        obtain ⟨x0, x1, x2, x3⟩ := def_cells HM1.out
        by_cases h : t < n
        . have hd : decide ((t : Int) < (n : Int)) = true := decide_eq_true (by omega)
          have hkk : (t : Int) < (n : Int) := by omega
          cases bk with
          | true =>
            obtain ⟨p, hp⟩ : ∃ p, p = n - 1 - t := ⟨_, rfl⟩
            have hpn : p < n := by omega
            have hpo : p < ops.length := by rw [HN.out]; exact hpn
            have hpp : (p : Int) < (n : Int) := by omega
            have hpz : (n : Int) - 1 - (t : Int) = (p : Int) := by omega
            have hw1 : IntKind.i64.wrap ((n : Int) - 1) = (n : Int) - 1 := wrapI _ (by omega) (by omega)
            have hw2 : IntKind.i64.wrap ((n : Int) - 1 - (t : Int)) = (p : Int) := by rw [hpz]; exact wrapI _ (by omega) (by omega)
            have HPS : Hid (posL true n (t + 1) = posL true n t ++ [p]) := hide (by rw [posL_succ, hp]; rfl)
            obtain ⟨g, off, aq, cq, rfl, hgl0, hoc0⟩ := HO.out.at (oa_some hpo)
            have hgl : g < wr.heap.size := Nat.lt_of_lt_of_le hgl0 HB1.out.size
            obtain ⟨hwk, hps⟩ := HWk.out _ (List.mem_of_getElem? (oa_some hpo))
            have HC6 := hide (oc_cells6 (hoc0.below HB1.out))
            have c3 := dWires (oa ops p) aq cq hwk hps wr (hoc0.ns.below HB1.out)
            have HMT := hide (mtI_meet HMI.out hwk)
            have HNX : Hid (cn AM ((posL true n (t + 1)).map fun i => (i, oa ops i)) = if hit (cn AM ((posL true n t).map fun i => (i, oa ops i))).1 (oa ops p) then (fun x => (cn AM ((posL true n t).map fun i => (i, oa ops i))).1 x || decide (x ∈ Lay.wr (oa ops p)), (cn AM ((posL true n t).map fun i => (i, oa ops i))).2 ++ [(p : Int)]) else cn AM ((posL true n t).map fun i => (i, oa ops i))) := hide (by rw [HPS.out, List.map_append]; exact cn_snoc _ _ _)
            have HAP := hide (mtI_app HMI.out hwk)
            obtain ⟨st, hst⟩ : ∃ st, st = cn AM ((posL true n t).map fun i => (i, oa ops i)) := ⟨_, rfl⟩
            rw [← hst] at HMI HR1 HMT HNX HAP
            obtain ⟨wl, hwl⟩ : ∃ wl, (wd (oa ops p)).length = wl := ⟨_, rfl⟩
            have HWeq := hide hwl
            have hwl65 : wl <= 65 := by rw [← hwl, wd_eq hwk, List.length_map]; exact wr_len hwk
            unfold WdPost at c3
            simp only [hwl] at c3
            have hc3 : (opV (oa ops p) aq cq) = .agg (opC (oa ops p, .slice aq (oa ops p).qs.length cq)).toArray := rfl
            rw [hc3] at c3
            have HP := hide hp
            clear hc3 hst hoc0 hwl HPS hp
            by_cases e4 : (oa ops p).kind = 4
            . have HNX2 : Hid (cn AM ((posL true n (t + 1)).map fun i => (i, oa ops i)) = st) := hide (by rw [HNX.out, if_neg]; unfold hit; simp [e4])
              have hde : decide ((oa ops p).kind = 4) = true := decide_eq_true e4
              clear HNX HAP e4
              go_wp2_with (first
              | refine wpList_load_at rfl _ _ rfl g (off + p * 6) (by rfl) _ _ HC6.out Tryd.underlying57 rfl (by exact infoO6) ?_
              | (go_at_call 53; refine c3.mono ?_; rintro e w3 ⟨aw, cw, rfl, hOw, hb3⟩; have hm3 := (hb3.block _ (Array.getElem?_eq_some_iff.1 HM1.out).1).trans HM1.out; obtain ⟨z0, z1, z2, z3⟩ := def_cells hm3; have hB3 : Below w.heap.size w w3 := HB1.out.trans (hb3.mono HB1.out.size); have c4 := HBR.out p hpn w3 hB3; rw [hde] at c4; have HO3 := hide (own_below HO1.out hb3); have HR3 := hide (HR1.out.below hb3); have HOW := hide hOw; have HSW := hide HB1.out.size; clear c3 hOw)
              | (go_at_call 32; refine c4.mono ?_; rintro e w4 ⟨rfl, hb4⟩; have hm4 := (hb4.block _ (Array.getElem?_eq_some_iff.1 hm3).1).trans hm3; have hB4 : Below w.heap.size w w4 := hB3.trans (hb4.mono hB3.size); have HO4 := hide (own_below HO3.out hb4); have HR4 := hide (HR3.out.below hb4); have HOW4 := hide (own_below HOW.out hb4); have c5 := dMeet mat (wd (oa ops p)) a8 aw c8 cw (by rw [HMeq.out]; omega) (by rw [HWeq.out]; omega) w4 (own_nsl HO4.out) (own_nsl HOW4.out); rw [HMeq.out, HWeq.out, HMT.out] at c5; clear c4))
              exact ⟨⟨t + 1, mat, ml, a8, c8, by omega, by go_num, rfl, HMeq, by omega, hide (by rw [HNX2.out]; exact HMI.out), HO4, hide (by rw [HNX2.out]; exact HR4.out), hide hm4, hide hB4⟩, by simp [intOf]; omega⟩
            . have hde : decide ((oa ops p).kind = 4) = false := decide_eq_false e4
              cases ha : (Lay.wr (oa ops p)).any st.1 with
              | false =>
                have HNX2 : Hid (cn AM ((posL true n (t + 1)).map fun i => (i, oa ops i)) = st) := hide (by rw [HNX.out, if_neg]; unfold hit; simp [ha])
                rw [ha] at HMT
                clear HNX HAP e4
                go_wp2_with (first
              | refine wpList_load_at rfl _ _ rfl g (off + p * 6) (by rfl) _ _ HC6.out Tryd.underlying57 rfl (by exact infoO6) ?_
              | (go_at_call 53; refine c3.mono ?_; rintro e w3 ⟨aw, cw, rfl, hOw, hb3⟩; have hm3 := (hb3.block _ (Array.getElem?_eq_some_iff.1 HM1.out).1).trans HM1.out; obtain ⟨z0, z1, z2, z3⟩ := def_cells hm3; have hB3 : Below w.heap.size w w3 := HB1.out.trans (hb3.mono HB1.out.size); have c4 := HBR.out p hpn w3 hB3; rw [hde] at c4; have HO3 := hide (own_below HO1.out hb3); have HR3 := hide (HR1.out.below hb3); have HOW := hide hOw; have HSW := hide HB1.out.size; clear c3 hOw)
              | (go_at_call 32; refine c4.mono ?_; rintro e w4 ⟨rfl, hb4⟩; have hm4 := (hb4.block _ (Array.getElem?_eq_some_iff.1 hm3).1).trans hm3; have hB4 : Below w.heap.size w w4 := hB3.trans (hb4.mono hB3.size); have HO4 := hide (own_below HO3.out hb4); have HR4 := hide (HR3.out.below hb4); have HOW4 := hide (own_below HOW.out hb4); have c5 := dMeet mat (wd (oa ops p)) a8 aw c8 cw (by rw [HMeq.out]; omega) (by rw [HWeq.out]; omega) w4 (own_nsl HO4.out) (own_nsl HOW4.out); rw [HMeq.out, HWeq.out, HMT.out] at c5; clear c4)
              | (go_at_call 52; refine c5.mono ?_; rintro e w5 ⟨rfl, hb5⟩; have hm5 := (hb5.block _ (Array.getElem?_eq_some_iff.1 hm4).1).trans hm4; have hB5 : Below w.heap.size w w5 := hB4.trans (hb5.mono hB4.size); have HO5 := hide (own_below HO4.out hb5); have HR5 := hide (HR4.out.below hb5); have HOW5 := hide (own_below HOW4.out hb5); clear c5))
                exact ⟨⟨t + 1, mat, ml, a8, c8, by omega, by go_num, rfl, HMeq, by omega, hide (by rw [HNX2.out]; exact HMI.out), HO5, hide (by rw [HNX2.out]; exact HR5.out), hide hm5, hide hB5⟩, by simp [intOf]; omega⟩
              | true =>
                have HNX2 : Hid (cn AM ((posL true n (t + 1)).map fun i => (i, oa ops i)) = (fun x => st.1 x || decide (x ∈ Lay.wr (oa ops p)), st.2 ++ [(p : Int)])) := hide (by rw [HNX.out, if_pos]; unfold hit; simp [ha, e4])
                rw [ha] at HMT
                clear HNX e4
                go_wp2_with (first
              | refine wpList_load_at rfl _ _ rfl g (off + p * 6) (by rfl) _ _ HC6.out Tryd.underlying57 rfl (by exact infoO6) ?_
              | (go_at_call 53; refine c3.mono ?_; rintro e w3 ⟨aw, cw, rfl, hOw, hb3⟩; have hm3 := (hb3.block _ (Array.getElem?_eq_some_iff.1 HM1.out).1).trans HM1.out; obtain ⟨z0, z1, z2, z3⟩ := def_cells hm3; have hB3 : Below w.heap.size w w3 := HB1.out.trans (hb3.mono HB1.out.size); have c4 := HBR.out p hpn w3 hB3; rw [hde] at c4; have HO3 := hide (own_below HO1.out hb3); have HR3 := hide (HR1.out.below hb3); have HOW := hide hOw; have HSW := hide HB1.out.size; clear c3 hOw)
              | (go_at_call 32; refine c4.mono ?_; rintro e w4 ⟨rfl, hb4⟩; have hm4 := (hb4.block _ (Array.getElem?_eq_some_iff.1 hm3).1).trans hm3; have hB4 : Below w.heap.size w w4 := hB3.trans (hb4.mono hB3.size); have HO4 := hide (own_below HO3.out hb4); have HR4 := hide (HR3.out.below hb4); have HOW4 := hide (own_below HOW.out hb4); have c5 := dMeet mat (wd (oa ops p)) a8 aw c8 cw (by rw [HMeq.out]; omega) (by rw [HWeq.out]; omega) w4 (own_nsl HO4.out) (own_nsl HOW4.out); rw [HMeq.out, HWeq.out, HMT.out] at c5; clear c4)
              | (go_at_call 52; refine c5.mono ?_; rintro e w5 ⟨rfl, hb5⟩; have hm5 := (hb5.block _ (Array.getElem?_eq_some_iff.1 hm4).1).trans hm4; have hB5 : Below w.heap.size w w5 := hB4.trans (hb5.mono hB4.size); have HO5 := hide (own_below HO4.out hb5); have HR5 := hide (HR4.out.below hb5); have HOW5 := hide (own_below HOW4.out hb5); clear c5; have r0 := HR5.out.cell p hpn; have r1 := HR5.out.frozen p; have r2 := HR5.out.lt; have HO6 : Hid ((w5.setCell ⟨gI, p, none⟩ (.bool true)).ownsRow w.heap.size 3 1 (.slice a8 ml c8) ml (mat.map (Value.int .i64))) := hide (own_boolset HO5.out HR5.out p); have HN6 : Hid (Ns (w5.setCell ⟨gI, p, none⟩ (.bool true)) aw (wd (oa ops p))) := hide (own_nsl (own_boolset HOW5.out HR5.out p)); have HM6 : Hid ((w5.setCell ⟨gI, p, none⟩ (.bool true)).heap[w.heap.size]? = some (.cells #[.int .i64 q, .int .i64 b, .slice (some ⟨g, off, none⟩) n k] 24 (0, 0))) := hide ((Below.heap_setCell _ _ _ _ (by simp; omega)).trans hm5); have HB6 : Hid (Below w.heap.size w (w5.setCell ⟨gI, p, none⟩ (.bool true))) := hide (hB5.setCell (p := ⟨gI, p, none⟩) (by simp; omega) _); have HR6 : Hid (Rk (w5.setCell ⟨gI, p, none⟩ (.bool true)) gI 4 n (fun j => .bool (decide ((j : Int) ∈ st.2 ++ [(p : Int)])))) := hide (in_set HR5.out p))
              | (at_builtin; refine app_gen (w := w5.setCell ⟨gI, p, none⟩ (.bool true)) rfl (.tmp 63) (.tmp 64) rfl HO6.out HB6.out.size aw cw (wd (oa ops p)) wl HWeq.out (by rfl) (by rfl) HN6.out (by omega) ?_; intro a9 c9 w9 hown hgr; have HO9 := hide hown; have HG9 := hide hgr; clear hown hgr))
                have hlm : (mat ++ wd (oa ops p)).length = ml + wl := by rw [List.length_append, HMeq.out, HWeq.out]
                have hm9 := (HG9.out.block _ (Array.getElem?_eq_some_iff.1 HM6.out).1 (fun e => own_ne HO6.out HM6.out (by decide) e.symm)).trans HM6.out
                have hR9 : Rk w9 gI 4 n (fun j => .bool (decide ((j : Int) ∈ st.2 ++ [(p : Int)]))) := HR6.out.of_block (HG9.out.block _ HR6.out.lt (fun e => own_rkb HO6.out HR6.out e.symm))
                exact ⟨⟨t + 1, mat ++ wd (oa ops p), ml + wl, a9, c9, by omega, by go_num, rfl, hide hlm, by omega, hide (by rw [HNX2.out]; exact HAP.out), HO9, hide (by rw [HNX2.out]; exact hR9), hide hm9, hide (HB6.out.grown HG9.out HB6.out.size (fun x hx => (own_lt HO6.out x hx).1))⟩, by simp [intOf]; omega⟩
          | false =>
            obtain ⟨p, hp⟩ : ∃ p, p = t := ⟨_, rfl⟩
            have hpn : p < n := by omega
            have hpo : p < ops.length := by rw [HN.out]; exact hpn
            have hpp : (p : Int) < (n : Int) := by omega
            have hpz : (t : Int) = (p : Int) := by omega
            have HPS : Hid (posL false n (t + 1) = posL false n t ++ [p]) := hide (by rw [posL_succ, hp]; rfl)
            obtain ⟨g, off, aq, cq, rfl, hgl0, hoc0⟩ := HO.out.at (oa_some hpo)
            have hgl : g < wr.heap.size := Nat.lt_of_lt_of_le hgl0 HB1.out.size
            obtain ⟨hwk, hps⟩ := HWk.out _ (List.mem_of_getElem? (oa_some hpo))
            have HC6 := hide (oc_cells6 (hoc0.below HB1.out))
            have c3 := dWires (oa ops p) aq cq hwk hps wr (hoc0.ns.below HB1.out)
            have HMT := hide (mtI_meet HMI.out hwk)
            have HNX : Hid (cn AM ((posL false n (t + 1)).map fun i => (i, oa ops i)) = if hit (cn AM ((posL false n t).map fun i => (i, oa ops i))).1 (oa ops p) then (fun x => (cn AM ((posL false n t).map fun i => (i, oa ops i))).1 x || decide (x ∈ Lay.wr (oa ops p)), (cn AM ((posL false n t).map fun i => (i, oa ops i))).2 ++ [(p : Int)]) else cn AM ((posL false n t).map fun i => (i, oa ops i))) := hide (by rw [HPS.out, List.map_append]; exact cn_snoc _ _ _)
            have HAP := hide (mtI_app HMI.out hwk)
            obtain ⟨st, hst⟩ : ∃ st, st = cn AM ((posL false n t).map fun i => (i, oa ops i)) := ⟨_, rfl⟩
            rw [← hst] at HMI HR1 HMT HNX HAP
            obtain ⟨wl, hwl⟩ : ∃ wl, (wd (oa ops p)).length = wl := ⟨_, rfl⟩
            have HWeq := hide hwl
            have hwl65 : wl <= 65 := by rw [← hwl, wd_eq hwk, List.length_map]; exact wr_len hwk
            unfold WdPost at c3
            simp only [hwl] at c3
            have hc3 : (opV (oa ops p) aq cq) = .agg (opC (oa ops p, .slice aq (oa ops p).qs.length cq)).toArray := rfl
            rw [hc3] at c3
            have HP := hide hp
            clear hc3 hst hoc0 hwl HPS hp
            by_cases e4 : (oa ops p).kind = 4
            . have HNX2 : Hid (cn AM ((posL false n (t + 1)).map fun i => (i, oa ops i)) = st) := hide (by rw [HNX.out, if_neg]; unfold hit; simp [e4])
              have hde : decide ((oa ops p).kind = 4) = true := decide_eq_true e4
              clear HNX HAP e4
              go_wp2_with (first
              | refine wpList_load_at rfl _ _ rfl g (off + p * 6) (by rfl) _ _ HC6.out Tryd.underlying57 rfl (by exact infoO6) ?_
              | (go_at_call 53; refine c3.mono ?_; rintro e w3 ⟨aw, cw, rfl, hOw, hb3⟩; have hm3 := (hb3.block _ (Array.getElem?_eq_some_iff.1 HM1.out).1).trans HM1.out; obtain ⟨z0, z1, z2, z3⟩ := def_cells hm3; have hB3 : Below w.heap.size w w3 := HB1.out.trans (hb3.mono HB1.out.size); have c4 := HBR.out p hpn w3 hB3; rw [hde] at c4; have HO3 := hide (own_below HO1.out hb3); have HR3 := hide (HR1.out.below hb3); have HOW := hide hOw; have HSW := hide HB1.out.size; clear c3 hOw)
              | (go_at_call 32; refine c4.mono ?_; rintro e w4 ⟨rfl, hb4⟩; have hm4 := (hb4.block _ (Array.getElem?_eq_some_iff.1 hm3).1).trans hm3; have hB4 : Below w.heap.size w w4 := hB3.trans (hb4.mono hB3.size); have HO4 := hide (own_below HO3.out hb4); have HR4 := hide (HR3.out.below hb4); have HOW4 := hide (own_below HOW.out hb4); have c5 := dMeet mat (wd (oa ops p)) a8 aw c8 cw (by rw [HMeq.out]; omega) (by rw [HWeq.out]; omega) w4 (own_nsl HO4.out) (own_nsl HOW4.out); rw [HMeq.out, HWeq.out, HMT.out] at c5; clear c4))
              exact ⟨⟨t + 1, mat, ml, a8, c8, by omega, by go_num, rfl, HMeq, by omega, hide (by rw [HNX2.out]; exact HMI.out), HO4, hide (by rw [HNX2.out]; exact HR4.out), hide hm4, hide hB4⟩, by simp [intOf]; omega⟩
            . have hde : decide ((oa ops p).kind = 4) = false := decide_eq_false e4
              cases ha : (Lay.wr (oa ops p)).any st.1 with
              | false =>
                have HNX2 : Hid (cn AM ((posL false n (t + 1)).map fun i => (i, oa ops i)) = st) := hide (by rw [HNX.out, if_neg]; unfold hit; simp [ha])
                rw [ha] at HMT
                clear HNX HAP e4
                go_wp2_with (first
              | refine wpList_load_at rfl _ _ rfl g (off + p * 6) (by rfl) _ _ HC6.out Tryd.underlying57 rfl (by exact infoO6) ?_
              | (go_at_call 53; refine c3.mono ?_; rintro e w3 ⟨aw, cw, rfl, hOw, hb3⟩; have hm3 := (hb3.block _ (Array.getElem?_eq_some_iff.1 HM1.out).1).trans HM1.out; obtain ⟨z0, z1, z2, z3⟩ := def_cells hm3; have hB3 : Below w.heap.size w w3 := HB1.out.trans (hb3.mono HB1.out.size); have c4 := HBR.out p hpn w3 hB3; rw [hde] at c4; have HO3 := hide (own_below HO1.out hb3); have HR3 := hide (HR1.out.below hb3); have HOW := hide hOw; have HSW := hide HB1.out.size; clear c3 hOw)
              | (go_at_call 32; refine c4.mono ?_; rintro e w4 ⟨rfl, hb4⟩; have hm4 := (hb4.block _ (Array.getElem?_eq_some_iff.1 hm3).1).trans hm3; have hB4 : Below w.heap.size w w4 := hB3.trans (hb4.mono hB3.size); have HO4 := hide (own_below HO3.out hb4); have HR4 := hide (HR3.out.below hb4); have HOW4 := hide (own_below HOW.out hb4); have c5 := dMeet mat (wd (oa ops p)) a8 aw c8 cw (by rw [HMeq.out]; omega) (by rw [HWeq.out]; omega) w4 (own_nsl HO4.out) (own_nsl HOW4.out); rw [HMeq.out, HWeq.out, HMT.out] at c5; clear c4)
              | (go_at_call 52; refine c5.mono ?_; rintro e w5 ⟨rfl, hb5⟩; have hm5 := (hb5.block _ (Array.getElem?_eq_some_iff.1 hm4).1).trans hm4; have hB5 : Below w.heap.size w w5 := hB4.trans (hb5.mono hB4.size); have HO5 := hide (own_below HO4.out hb5); have HR5 := hide (HR4.out.below hb5); have HOW5 := hide (own_below HOW4.out hb5); clear c5))
                exact ⟨⟨t + 1, mat, ml, a8, c8, by omega, by go_num, rfl, HMeq, by omega, hide (by rw [HNX2.out]; exact HMI.out), HO5, hide (by rw [HNX2.out]; exact HR5.out), hide hm5, hide hB5⟩, by simp [intOf]; omega⟩
              | true =>
                have HNX2 : Hid (cn AM ((posL false n (t + 1)).map fun i => (i, oa ops i)) = (fun x => st.1 x || decide (x ∈ Lay.wr (oa ops p)), st.2 ++ [(p : Int)])) := hide (by rw [HNX.out, if_pos]; unfold hit; simp [ha, e4])
                rw [ha] at HMT
                clear HNX e4
                go_wp2_with (first
              | refine wpList_load_at rfl _ _ rfl g (off + p * 6) (by rfl) _ _ HC6.out Tryd.underlying57 rfl (by exact infoO6) ?_
              | (go_at_call 53; refine c3.mono ?_; rintro e w3 ⟨aw, cw, rfl, hOw, hb3⟩; have hm3 := (hb3.block _ (Array.getElem?_eq_some_iff.1 HM1.out).1).trans HM1.out; obtain ⟨z0, z1, z2, z3⟩ := def_cells hm3; have hB3 : Below w.heap.size w w3 := HB1.out.trans (hb3.mono HB1.out.size); have c4 := HBR.out p hpn w3 hB3; rw [hde] at c4; have HO3 := hide (own_below HO1.out hb3); have HR3 := hide (HR1.out.below hb3); have HOW := hide hOw; have HSW := hide HB1.out.size; clear c3 hOw)
              | (go_at_call 32; refine c4.mono ?_; rintro e w4 ⟨rfl, hb4⟩; have hm4 := (hb4.block _ (Array.getElem?_eq_some_iff.1 hm3).1).trans hm3; have hB4 : Below w.heap.size w w4 := hB3.trans (hb4.mono hB3.size); have HO4 := hide (own_below HO3.out hb4); have HR4 := hide (HR3.out.below hb4); have HOW4 := hide (own_below HOW.out hb4); have c5 := dMeet mat (wd (oa ops p)) a8 aw c8 cw (by rw [HMeq.out]; omega) (by rw [HWeq.out]; omega) w4 (own_nsl HO4.out) (own_nsl HOW4.out); rw [HMeq.out, HWeq.out, HMT.out] at c5; clear c4)
              | (go_at_call 52; refine c5.mono ?_; rintro e w5 ⟨rfl, hb5⟩; have hm5 := (hb5.block _ (Array.getElem?_eq_some_iff.1 hm4).1).trans hm4; have hB5 : Below w.heap.size w w5 := hB4.trans (hb5.mono hB4.size); have HO5 := hide (own_below HO4.out hb5); have HR5 := hide (HR4.out.below hb5); have HOW5 := hide (own_below HOW4.out hb5); clear c5; have r0 := HR5.out.cell p hpn; have r1 := HR5.out.frozen p; have r2 := HR5.out.lt; have HO6 : Hid ((w5.setCell ⟨gI, p, none⟩ (.bool true)).ownsRow w.heap.size 3 1 (.slice a8 ml c8) ml (mat.map (Value.int .i64))) := hide (own_boolset HO5.out HR5.out p); have HN6 : Hid (Ns (w5.setCell ⟨gI, p, none⟩ (.bool true)) aw (wd (oa ops p))) := hide (own_nsl (own_boolset HOW5.out HR5.out p)); have HM6 : Hid ((w5.setCell ⟨gI, p, none⟩ (.bool true)).heap[w.heap.size]? = some (.cells #[.int .i64 q, .int .i64 b, .slice (some ⟨g, off, none⟩) n k] 24 (0, 0))) := hide ((Below.heap_setCell _ _ _ _ (by simp; omega)).trans hm5); have HB6 : Hid (Below w.heap.size w (w5.setCell ⟨gI, p, none⟩ (.bool true))) := hide (hB5.setCell (p := ⟨gI, p, none⟩) (by simp; omega) _); have HR6 : Hid (Rk (w5.setCell ⟨gI, p, none⟩ (.bool true)) gI 4 n (fun j => .bool (decide ((j : Int) ∈ st.2 ++ [(p : Int)])))) := hide (in_set HR5.out p))
              | (at_builtin; refine app_gen (w := w5.setCell ⟨gI, p, none⟩ (.bool true)) rfl (.tmp 63) (.tmp 64) rfl HO6.out HB6.out.size aw cw (wd (oa ops p)) wl HWeq.out (by rfl) (by rfl) HN6.out (by omega) ?_; intro a9 c9 w9 hown hgr; have HO9 := hide hown; have HG9 := hide hgr; clear hown hgr))
                have hlm : (mat ++ wd (oa ops p)).length = ml + wl := by rw [List.length_append, HMeq.out, HWeq.out]
                have hm9 := (HG9.out.block _ (Array.getElem?_eq_some_iff.1 HM6.out).1 (fun e => own_ne HO6.out HM6.out (by decide) e.symm)).trans HM6.out
                have hR9 : Rk w9 gI 4 n (fun j => .bool (decide ((j : Int) ∈ st.2 ++ [(p : Int)]))) := HR6.out.of_block (HG9.out.block _ HR6.out.lt (fun e => own_rkb HO6.out HR6.out e.symm))
                exact ⟨⟨t + 1, mat ++ wd (oa ops p), ml + wl, a9, c9, by omega, by go_num, rfl, hide hlm, by omega, hide (by rw [HNX2.out]; exact HAP.out), HO9, hide (by rw [HNX2.out]; exact hR9), hide hm9, hide (HB6.out.grown HG9.out HB6.out.size (fun x hx => (own_lt HO6.out x hx).1))⟩, by simp [intOf]; omega⟩
        . obtain rfl : n = t := by omega
          have hd : decide ((n : Int) < (n : Int)) = false := decide_eq_false (by omega)
          generalize (cn AM ((posL bk n n).map fun i => (i, oa ops i))).2 = sF at *
          clear HMI
          go_wp2_with fail
          go_loopw [13, 14] (fun v13 vj wx => ∃ (j N : Nat) (a9 : Option Addr) (c9 : Nat), j <= n /\ vj = .int .i64 (j : Int) /\ v13 = .slice a9 N c9 /\ N <= j /\ Hid (wx.ownsRow w.heap.size 3 1 (.slice a9 N c9) N ((((List.range j).filter fun (k : Nat) => decide ((k : Int) ∈ sF)).map fun (i : Nat) => (i : Int)).map (Value.int .i64))) /\ Hid (Rk wx gI 4 n (fun j => .bool (decide ((j : Int) ∈ sF)))) /\ Hid (Below w.heap.size w wx)) (fun _ vj _ => n - (intOf vj).toNat)
          case atStart => exact ⟨0, 0, none, 0, Nat.zero_le _, rfl, rfl, Nat.le_refl _, hide (World.ownsRow_nil _ _ _ _), HR1, HB1⟩
          case round =>
            clear HO1 HR1 HM1 HB1 x0 x1 x2 x3
            obtain ⟨j, N, a9, c9, hj, rfl, rfl, hNj, HO1, HR1, HB1⟩ := hrel
            by_cases h2 : j < n
            . have hd2 : decide ((j : Int) < (n : Int)) = true := decide_eq_true (by omega)
              have hkk2 : (j : Int) < (n : Int) := by omega
              have r0 := HR1.out.cell j h2
              have r2 := HR1.out.lt
              have HFS := hide (flt_snoc (fun (k : Nat) => decide ((k : Int) ∈ sF)) j)
              cases hjm : decide ((j : Int) ∈ sF) with
              | true =>
                rw [hjm] at r0
                simp only [hjm, if_true] at HFS
                go_wp2_with (at_builtin; refine app1_list (w := wr) rfl (.tmp 76) (.tmp 78) rfl HO1.out HB1.out.size (j : Int) (by omega) (by rfl) (by rfl) ?_; intro g6 c6 w6 hown hgr hat; have HO6 := hide hown; have HG6 := hide hgr; clear hown hgr hat)
                exact ⟨⟨j + 1, N + 1, some ⟨g6, 0, none⟩, c6, by omega, by go_num, rfl, by omega, hide (by rw [HFS.out]; exact HO6.out), hide (HR1.out.of_block (HG6.out.block _ HR1.out.lt (fun e => own_rkb HO1.out HR1.out e.symm))), hide (HB1.out.grown HG6.out HB1.out.size (fun x hx => (own_lt HO1.out x hx).1))⟩, by simp [intOf]; omega⟩
              | false =>
                rw [hjm] at r0
                simp only [hjm, Bool.false_eq_true, if_false] at HFS
                go_wp2_with fail
                exact ⟨⟨j + 1, N, a9, c9, by omega, by go_num, rfl, by omega, hide (by rw [HFS.out]; exact HO1.out), HR1, HB1⟩, by simp [intOf]; omega⟩
            . obtain rfl : n = j := by omega
              have hd2 : decide ((n : Int) < (n : Int)) = false := decide_eq_false (by omega)
              have HLN : Hid (R.length = N) := hide (by
                have := HO1.out.1
                rw [HRR.out]
                simp at this
                simp
                omega)
              go_wp2_with fail
              go_ret2
              rw [HEE.out]
              refine ⟨a9, c9, by rw [HLN.out]; rfl, ?_, by rw [HLN.out]; omega, HB1.out⟩
              rw [HRR.out]
              exact own_nsl HO1.out
theorem dPast (c : Circ) (ao : Option Addr) (k : Nat) (l : List Int) (al : Option Addr) (cl : Nat) (hl : l.length <= 1000000000000000) (w : World) (hC : Ci w c ao k) (hN : Ns w al l) : Calls Tryd.prog 13 #[cV c ao k, .slice al l.length cl] w (EPost w (cnR c l true) (asE c l)) := by
  have c1 := fun V (h : Below w.heap.size w V) => dCone c ao k l al cl true hl V (hC.below h) (hN.below h)
  clear hC hN
  unfold EPost at c1
  generalize asE c l = E at *
  generalize cnR c l true = R at *
  obtain ⟨q, b, ops⟩ := c
  unfold cV at *
  simp only at *
  generalize ops.length = n at *
  generalize l.length = L at *
  have hb1 := bnew w (.cells #[.int .i64 q, .int .i64 b, .slice ao n k] 24)
  have c1' := c1 _ hb1
  obtain ⟨N, hN⟩ : ∃ N, R.length = N := ⟨_, rfl⟩
  have HN := hide hN
  simp only [hN] at c1'
  clear c1 hN
  go_enter Tryd.func13, Tryd.ntmps13
  go_wp2_with (go_at_call 38; refine c1'.mono ?_; rintro e w2 ⟨a2, c2, rfl, hNs, hl2, hb2⟩; have HNs := hide hNs; have HB2 := hide (hb1.trans (hb2.mono hb1.size)); clear hNs hb2 c1')
  go_ret2
  exact ⟨a2, c2, by rw [HN.out]; rfl, HNs.out, by rw [HN.out]; exact hl2, HB2.out⟩
end Go.Proofs.YthndpbjplcphpaaDoor.Lay
