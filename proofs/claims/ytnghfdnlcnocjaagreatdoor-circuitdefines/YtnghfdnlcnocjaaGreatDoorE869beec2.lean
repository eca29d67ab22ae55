import Derived.Test.YtnghfdnlcnocjaaGreatDoorEf493d381
import Derived.Test.YtnghfdnlcnocjaaGreatDoorE4f3e6e15
set_option maxRecDepth 100000
set_option maxHeartbeats 1000000
namespace Go.Proofs.YtnghfdnlcnocjaaGreatDoor.Cir
open Go.RowKit Go.Shelf Go.Proofs.YtnghfdnlcnocjaaGreatDoor.Oct Go.Proofs.YtnghfdnlcnocjaaGreatDoor.Tok Go.Proofs.YtnghfdnlcnocjaaGreatDoor.Gt
attribute [local go_sem] Oper.semAt_some
theorem cValues1 (l Bs n₀ c : Nat) (ao : Option Addr) (xs : List N64) (hl : xs.length <= 4398046511105) (J Jx : List N64 -> World -> Prop)
    (hY : ∀ pre x W, J pre W -> pre.length < xs.length -> YieldAt Fence.wide (2 - 1) Tryz.prog l #[.int .i64 (x.1 : Int)] W fun e W' =>
      (e = .returned (.bool true) /\ J (pre ++ [x]) W' /\ Below n₀ W W') ∨ (e = .returned (.bool false) /\ Jx (pre ++ [x]) W'))
    (W : World) (hBs : W.cell? ⟨Bs, 0, none⟩ = some (.slice ao xs.length c)) (hI : Isb n₀ W (.slice ao xs.length c) (xs.map (·.1))) (h0 : J [] W) :
    CallsIn Fence.wide 2 Tryz.prog 154 #[.func (.yield l) #[] #[], .pointer (some ⟨Bs, 0, none⟩)] W fun e W' => (∃ v, e = .returned v) /\
      ((∃ ys, ys = xs /\ J ys W') ∨ (∃ pre, pre <+: xs /\ Jx pre W')) := by
  refine callsIn_of_wp Tryz.func154 rfl trivial ?_ rfl
  simp only [Tryz.ntmps154, List.size_toArray, List.length_cons, List.length_nil, Nat.reduceAdd, Nat.reduceSub, Array.replicate_succ, Array.replicate_zero, List.push_toArray, List.append_toArray, List.nil_append, List.cons_append]
  obtain ⟨n, hn⟩ : ∃ n, xs.length = n := ⟨_, rfl⟩
  have HN := hide hn
  rw [hn] at hBs hI hY hl
  clear hn
  gi_wp2
  gi_loopw [7] (fun i wr => ∃ k : Nat, k <= n /\ i = .int .i64 (k : Int) /\ J (xs.take k) wr /\ Below n₀ W wr) (fun i _ => n - (Go.RowKit.intOf i).toNat)
  case atStart => exact ⟨0, Nat.zero_le _, rfl, h0, Below.refl _ _⟩
  case round =>
    obtain ⟨k, hk, rfl, hJs, hnx⟩ := hrel
    by_cases hlt : k < n
    . obtain ⟨x, hx⟩ : ∃ x, xs[k]? = some x := ⟨_, List.getElem?_eq_getElem (by rw [HN.out]; exact hlt)⟩
      have hpl : (xs.take k).length < n := by simp; omega
      obtain ⟨fn, tmps, assign, body, hy, hR⟩ := hY _ x wr hJs hpl
      have hlm : (xs.map (·.1))[k]? = some x.1 := by rw [List.getElem?_map, hx]; rfl
      obtain ⟨g, off, cs, fr, rfl, hc⟩ : ∃ g off cs fr, ao = some ⟨g, off, none⟩ /\ g < n₀ /\ W.heap[g]? = some (.cells cs 3 fr) /\ cs[off + k]? = some (iv x.1) := by
        rcases hI with ⟨e, _⟩ | ⟨g, off, c', cs, fr, hg, h1, h2, h3⟩
        . rw [e] at hlm; simp at hlm
        . simp only [Value.slice.injEq] at h1
          exact ⟨g, off, cs, fr, h1.1, hg, h2, h3 k _ hlm⟩
      have hcx : wr.cell? ⟨g, off + k, none⟩ = some (.int .i64 (x.1 : Int)) := (hnx.cell (p := ⟨g, off + k, none⟩) hc.1).trans ((cell_of_row _ _ _ _ _ _ hc.2.1).trans hc.2.2)
      have htk : xs.take (k + 1) = xs.take k ++ [x] := by
        rw [List.take_add_one, hx]
        rfl
      have Htk := hide htk
      have hdd : decide ((k : Int) < (n : Int)) = true := decide_eq_true (by omega)
      clear htk hc hlm hx
      gi_wp2
      refine hR.mono ?_
      rintro e W3 (⟨rfl, hJ3, hk3⟩ | ⟨rfl, hJx3⟩)
      . gi_wp2
        go_roundw
        case rel => exact ⟨k + 1, by omega, by go_num, by rw [Htk.out]; exact hJ3, hnx.trans hk3⟩
        case measure => simp [Go.RowKit.intOf]; omega
      . gi_wp2
        refine bodyPost_ret (results_none rfl _ _ _) rfl ?_
        exact ⟨⟨_, rfl⟩, .inr ⟨_, by rw [← Htk.out]; exact List.take_prefix _ _, hJx3⟩⟩
    . obtain rfl : n = k := by omega
      gi_wp2
      go_end0
      refine ⟨⟨_, rfl⟩, .inl ⟨_, rfl, ?_⟩⟩
      rw [List.take_of_length_le (by rw [HN.out]; exact Nat.le_refl _)] at hJs
      exact hJs
theorem values_stops (Bs n₀ c : Nat) (ao : Option Addr) (xs : List N64) (hl : xs.length <= 4398046511105) (w : World) (hBs : Bs < w.heap.size) (hn₀ : n₀ <= w.heap.size) (hc : w.cell? ⟨Bs, 0, none⟩ = some (.slice ao xs.length c)) (hI : Isb n₀ w (.slice ao xs.length c) (xs.map (·.1))) :
    SeqStopsK Fence.wide (3 - 1) Tryz.prog 154 #[.pointer (some ⟨Bs, 0, none⟩)] (fun x : N64 => #[.int .i64 (x.1 : Int)]) (Below n₀) (fun ys => ys = xs) (fun pre => pre <+: xs) xs.length w := fun l J Jx W hW _ _ hY h0 =>
  cValues1 l Bs n₀ c ao xs hl J Jx hY W ((hW.cell (p := ⟨Bs, 0, none⟩) hBs).trans hc) (hI.block fun g hg _ _ _ => hW.block g (by omega)) h0
theorem cAt (a : Ag) (k : Nat) (h1 : a.fr <= 4398046511104) (h2 : k <= 4398046511104) (w : World) : Calls Tryz.prog 115 #[agV a, .int .i64 (k : Int)] w fun e w' => e = .returned (.int .i64 (atP k a : Int)) /\ w' = w.alloc (.cells #[.int .i64 (a.fr : Int), .int .i64 (a.sz : Int), .bool a.whole] 184) := by
  obtain ⟨fr, sz, wh⟩ := a
  unfold agV atP
  simp only at h1 ⊢
  cases wh with
  | true =>
    go_enter Tryz.func115, Tryz.ntmps115
    go_wp2_with fail
    go_ret
    exact ⟨by simp, rfl⟩
  | false =>
    go_enter Tryz.func115, Tryz.ntmps115
    go_wp2_with fail
    go_ret
    exact ⟨by simp, rfl⟩
attribute [local go_sem] Oper.semAt_some
def Asb (C : Nat) (w : World) (v : Value) (l : List Ag) : Prop := (l = [] /\ ∃ ao c, v = .slice ao 0 c) ∨ ∃ g off c cs fr, g < C /\ v = .slice (some ⟨g, off, none⟩) l.length c /\ w.heap[g]? = some (.cells cs 184 fr) /\ ∀ j u, (l.flatMap agC)[j]? = some u -> cs[off + j]? = some u
theorem Asb.of_own {w : World} {B : Nat} {ao : Option Addr} {c : Nat} {l : List Ag} (h : w.ownsRow B 184 3 (.slice ao l.length c) l.length (l.flatMap agC)) : Asb w.heap.size w (.slice ao l.length c) l := by
  rcases h.2 with ⟨hv, h0⟩ | ⟨g, cap, cur, hv, hbg, hg, h1, h2, h3, h4⟩
  . exact .inl ⟨List.length_eq_zero_iff.1 h0, ao, c, by rw [h0]⟩
  . refine .inr ⟨g, 0, cap, cur, _, (Array.getElem?_eq_some_iff.1 hg).1, hv, hg, fun j z hj => ?_⟩
    have hlt := (List.getElem?_eq_some_iff.1 hj).1
    have hln := h.1
    rw [← h4, List.getElem?_take, if_pos (by omega)] at hj
    rw [Nat.zero_add]
    simpa using hj
theorem Asb.block {C : Nat} {w w' : World} {v : Value} {l : List Ag} (h : Asb C w v l) (hk : ∀ (g : Nat), g < C -> ∀ (cs : Array Value) (fr : Nat × Nat), w.heap[g]? = some (Obj.cells cs 184 fr) -> w'.heap[g]? = w.heap[g]?) : Asb C w' v l := by
  rcases h with h | ⟨g, off, c, cs, fr, h0, h1, h2, h3⟩
  . exact .inl h
  . exact .inr ⟨g, off, c, cs, fr, h0, h1, (hk g h0 cs fr h2).trans h2, h3⟩
theorem Asb.below {w w' : World} {v : Value} {l : List Ag} {C : Nat} (h : Asb C w v l) (hC : C <= w.heap.size) (hb : Below w.heap.size w w') : Asb C w' v l := h.block fun g hg _ _ _ => hb.block g (by omega)
theorem agC_at (l : List Ag) (k : Nat) (a : Ag) (h : l[k]? = some a) (j : Nat) (u : Value) (hu : (agC a)[j]? = some u) : (l.flatMap agC)[k * 3 + j]? = some u := by
  induction l generalizing k with
  | nil => simp at h
  | cons b r ih =>
    cases k with
    | zero =>
      simp at h
      subst h
      rw [List.flatMap_cons, Nat.zero_mul, Nat.zero_add, List.getElem?_append_left (List.getElem?_eq_some_iff.1 hu).1]
      exact hu
    | succ k =>
      have hl : (agC b).length = 3 := rfl
      rw [List.flatMap_cons, List.getElem?_append_right (by omega), hl, show (k + 1) * 3 + j - 3 = k * 3 + j by omega]
      exact ih k (by simpa using h)
theorem Asb.cells {C : Nat} {w : World} {ao : Option Addr} {n c : Nat} {l : List Ag} (h : Asb C w (.slice ao n c) l) {k : Nat} {a : Ag} (hk : l[k]? = some a) : ∃ g off, ao = some ⟨g, off, none⟩ /\ g < C /\ w.cell? ⟨g, off + k * 3, none⟩ = some (.int .i64 (a.fr : Int)) /\ w.cell? ⟨g, off + k * 3 + 1, none⟩ = some (.int .i64 (a.sz : Int)) /\ w.cell? ⟨g, off + k * 3 + 2, none⟩ = some (.bool a.whole) := by
  rcases h with ⟨e, _⟩ | ⟨g, off, c', cs, fr, hg, h1, h2, h3⟩
  . rw [e] at hk; simp at hk
  . simp only [Value.slice.injEq] at h1
    exact ⟨g, off, h1.1, hg, (cell_of_row _ _ _ _ _ _ h2).trans (h3 _ _ (agC_at l k a hk 0 _ rfl)), (cell_of_row _ _ _ _ _ _ h2).trans (h3 _ _ (agC_at l k a hk 1 _ rfl)), (cell_of_row _ _ _ _ _ _ h2).trans (h3 _ _ (agC_at l k a hk 2 _ rfl))⟩
theorem cCall1 (l Ba Bk n₀ c k : Nat) (ao : Option Addr) (args : List Ag) (xs : List N64) (hx : xs.map (·.1) = args.map (atP k)) (hl : args.length <= 4398046511105) (hfr : ∀ a ∈ args, a.fr <= 4398046511104) (hk : k <= 4398046511104) (hbk : Bk < n₀) (J Jx : List N64 -> World -> Prop)
    (W : World) (hJa : AbidesFrom W.heap.size J) (hnW : n₀ <= W.heap.size)
    (hY : ∀ pre x W, J pre W -> pre.length < xs.length -> YieldAt Fence.wide (2 - 1) Tryz.prog l #[.int .i64 (x.1 : Int)] W fun e W' =>
      (e = .returned (.bool true) /\ J (pre ++ [x]) W' /\ Below n₀ W W') ∨ (e = .returned (.bool false) /\ Jx (pre ++ [x]) W'))
    (hBa : W.cell? ⟨Ba, 0, none⟩ = some (.slice ao args.length c)) (hBk : W.cell? ⟨Bk, 0, none⟩ = some (.int .i64 (k : Int))) (hI : Asb n₀ W (.slice ao args.length c) args) (h0 : J [] W) :
    CallsIn Fence.wide 2 Tryz.prog 142 #[.func (.yield l) #[] #[], .pointer (some ⟨Ba, 0, none⟩), .pointer (some ⟨Bk, 0, none⟩)] W fun e W' => (∃ v, e = .returned v) /\
      ((∃ ys, ys = xs /\ J ys W') ∨ (∃ pre, pre <+: xs /\ Jx pre W')) := by
  refine callsIn_of_wp Tryz.func142 rfl trivial ?_ rfl
  simp only [Tryz.ntmps142, List.size_toArray, List.length_cons, List.length_nil, Nat.reduceAdd, Nat.reduceSub, Array.replicate_succ, Array.replicate_zero, List.push_toArray, List.append_toArray, List.nil_append, List.cons_append]
  obtain ⟨n, hn⟩ : ∃ n, args.length = n := ⟨_, rfl⟩
  have hxn : xs.length = n := by
    have := congrArg List.length hx
    simp at this
    omega
  have HN := hide hn
  have HX := hide hxn
  rw [hn] at hBa hI hl
  rw [hxn] at hY
  clear hn hxn
  gi_wp2
  gi_loopw [8] (fun i wr => ∃ j : Nat, j <= n /\ i = .int .i64 (j : Int) /\ J (xs.take j) wr /\ Below n₀ W wr) (fun i _ => n - (Go.RowKit.intOf i).toNat)
  case atStart => exact ⟨0, Nat.zero_le _, rfl, h0, Below.refl _ _⟩
  case round =>
    obtain ⟨j, hj, rfl, hJs, hnx⟩ := hrel
    by_cases hlt : j < n
    . obtain ⟨a, ha⟩ : ∃ a, args[j]? = some a := ⟨_, List.getElem?_eq_getElem (by rw [HN.out]; exact hlt)⟩
      obtain ⟨x, hx1⟩ : ∃ x, xs[j]? = some x := ⟨_, List.getElem?_eq_getElem (by rw [HX.out]; exact hlt)⟩
      have hxa : x.1 = atP k a := by
        have h1 : (xs.map (·.1))[j]? = some x.1 := by rw [List.getElem?_map, hx1]; rfl
        rw [hx, List.getElem?_map, ha] at h1
        simpa using h1.symm
      have hpl : (xs.take j).length < n := by simp; omega
      obtain ⟨g, off, rfl, hg, k0, k1, k2⟩ := hI.cells ha
      have r0 := (hnx.cell (p := ⟨g, off + j * 3, none⟩) hg).trans k0
      have r1 := (hnx.cell (p := ⟨g, off + j * 3 + 1, none⟩) hg).trans k1
      have r2 := (hnx.cell (p := ⟨g, off + j * 3 + 2, none⟩) hg).trans k2
      have rk : wr.cell? ⟨Bk, 0, none⟩ = some (.int .i64 (k : Int)) := (hnx.cell (p := ⟨Bk, 0, none⟩) hbk).trans hBk
      have hgw : g < wr.heap.size := World.block_lt_of_cell? _ _ r0
      have hbw : Bk < wr.heap.size := World.block_lt_of_cell? _ _ rk
      have c1 := fun V => cAt a k (hfr a (List.mem_of_getElem? ha)) hk V
      have hY1 := fun V (hV : J (xs.take j) V) => hY _ x V hV hpl
      have hJ2 := fun o1 o2 => hJa _ _ ((wr.alloc o1).alloc o2) none (hJa _ _ (wr.alloc o1) none hJs (World.grownBy_alloc _ _ none) (fun r e => by cases e)) (World.grownBy_alloc _ _ none) (fun r e => by cases e)
      have htk : xs.take (j + 1) = xs.take j ++ [x] := by
        rw [List.take_add_one, hx1]
        rfl
      have Htk := hide htk
      have hdd : decide ((j : Int) < (n : Int)) = true := decide_eq_true (by omega)
      have hnW2 : n₀ <= wr.heap.size := Nat.le_trans hnW hnx.size
      rw [← hxa] at c1
      obtain ⟨fr, sz, wh⟩ := a
      unfold agV at c1
      simp only at c1 r0 r1 r2
      obtain ⟨fn, tmps, assign, body, hy, hR⟩ := hY1 _ (hJ2 (.cells #[.int .i64 (fr : Int), .int .i64 (sz : Int), .bool wh] 184) (.cells #[.int .i64 (fr : Int), .int .i64 (sz : Int), .bool wh] 184))
      have hB2 : Below n₀ wr ((wr.alloc (.cells #[.int .i64 (fr : Int), .int .i64 (sz : Int), .bool wh] 184)).alloc (.cells #[.int .i64 (fr : Int), .int .i64 (sz : Int), .bool wh] 184)) := ((Below.refl _ _).alloc hnW2 _).alloc (by simp; omega) _
      clear htk hx1 ha hY hY1 hJ2 k0 k1 k2 hxa
      gi_wp2_with (refine ⟨trivial, ?_⟩; gi_at_call 115; refine (callsIn_wide.2 (c1 _)).mono ?_; rintro e w' ⟨rfl, rfl⟩)
      refine hR.mono ?_
      rintro e W3 (⟨rfl, hJ3, hk3⟩ | ⟨rfl, hJx3⟩)
      . gi_wp2
        go_roundw
        case rel => exact ⟨j + 1, by omega, by go_num, by rw [Htk.out]; exact hJ3, (hnx.trans hB2).trans hk3⟩
        case measure => simp [Go.RowKit.intOf]; omega
      . gi_wp2
        refine bodyPost_ret (results_none rfl _ _ _) rfl ?_
        exact ⟨⟨_, rfl⟩, .inr ⟨_, by rw [← Htk.out]; exact List.take_prefix _ _, hJx3⟩⟩
    . obtain rfl : n = j := by omega
      gi_wp2
      go_end0
      refine ⟨⟨_, rfl⟩, .inl ⟨_, rfl, ?_⟩⟩
      rw [List.take_of_length_le (by rw [HX.out]; exact Nat.le_refl _)] at hJs
      exact hJs
theorem call_stops (Ba Bk n₀ c k : Nat) (ao : Option Addr) (args : List Ag) (xs : List N64) (hx : xs.map (·.1) = args.map (atP k)) (hl : args.length <= 4398046511105) (hfr : ∀ a ∈ args, a.fr <= 4398046511104) (hk : k <= 4398046511104) (hba : Ba < n₀) (hbk : Bk < n₀) (w : World) (hn₀ : n₀ <= w.heap.size)
    (hBa : w.cell? ⟨Ba, 0, none⟩ = some (.slice ao args.length c)) (hBk : w.cell? ⟨Bk, 0, none⟩ = some (.int .i64 (k : Int))) (hI : Asb n₀ w (.slice ao args.length c) args) :
    SeqStopsK Fence.wide (3 - 1) Tryz.prog 142 #[.pointer (some ⟨Ba, 0, none⟩), .pointer (some ⟨Bk, 0, none⟩)] (fun x : N64 => #[.int .i64 (x.1 : Int)]) (Below n₀) (fun ys => ys = xs) (fun pre => pre <+: xs) xs.length w := fun l J Jx W hW hJ _ hY h0 =>
  cCall1 l Ba Bk n₀ c k ao args xs hx hl hfr hk hbk J Jx W hJ (Nat.le_trans hn₀ hW.size) hY ((hW.cell (p := ⟨Ba, 0, none⟩) (by show Ba < _; omega)).trans hBa) ((hW.cell (p := ⟨Bk, 0, none⟩) (by show Bk < _; omega)).trans hBk) (hI.below hn₀ hW) h0
theorem hmP_cons (n : Nat) (a : Ag) (r : List Ag) : hmP n (a :: r) = if a.whole then (if n ≠ 0 /\ n ≠ a.sz then none else hmP a.sz r) else hmP n r := rfl
theorem mx1 (n : Nat) : ((max n 1 : Nat) : Int) = max (n : Int) 1 := by omega
theorem infoIs : (Tryz.prog.info? 32).map (fun i => (i.zero, i.size, i.bytes)) = some (some (.slice none 0 0), 1, 24) := by kernel_rfl
def hmV (o : Option Nat) : Value := match o with
  | none => .tuple #[.int .i64 0, .bool false]
  | some n => .tuple #[.int .i64 (n : Int), .bool true]
theorem cHowMany (C c : Nat) (ao : Option Addr) (args : List Ag) (hl : args.length <= 4398046511105) (w : World) (hC : C <= w.heap.size) (hI : Asb C w (.slice ao args.length c) args) :
    Calls Tryz.prog 141 #[.slice ao args.length c] w fun e w' => e = .returned (hmV (hmP 0 args)) /\ Below w.heap.size w w' := by
  obtain ⟨P, hP⟩ : ∃ P, hmP 0 args = P := ⟨_, rfl⟩
  rw [hP]
  have HP := hide hP
  obtain ⟨m, hm⟩ : ∃ m, args.length = m := ⟨_, rfl⟩
  have HM := hide hm
  rw [hm] at hl hI ⊢
  clear hP hm
  go_enter Tryz.func141, Tryz.ntmps141
  go_wp2_with fail
  go_loopw [4, 9] (fun vn vi wr => ∃ i n : Nat, vn = .int .i64 (n : Int) /\ vi = .int .i64 (i : Int) /\ i <= m /\ Hid (hmP n (args.drop i) = P) /\ Below w.heap.size w wr) (fun _ vi _ => m - (Go.RowKit.intOf vi).toNat)
  case atStart => exact ⟨0, 0, rfl, rfl, Nat.zero_le _, HP, Below.refl _ _⟩
  case round =>
    clear HP
    obtain ⟨i, n, rfl, rfl, hi, HP, hb⟩ := hrel
    by_cases h : i < m
    . have hdd : decide ((i : Int) < (m : Int)) = true := decide_eq_true (by omega)
      obtain ⟨a, ha⟩ : ∃ a, args[i]? = some a := ⟨_, List.getElem?_eq_getElem (by rw [HM.out]; exact h)⟩
      have hdr : args.drop i = a :: args.drop (i + 1) := by
        rw [List.drop_eq_getElem_cons (by rw [HM.out]; exact h)]
        rw [List.getElem?_eq_getElem (by rw [HM.out]; exact h)] at ha
        rw [Option.some.inj ha]
      obtain ⟨g, off, rfl, hg, k0, k1, k2⟩ := hI.cells ha
      have r0 := (hb.cell (p := ⟨g, off + i * 3, none⟩) (by show g < _; omega)).trans k0
      have r1 := (hb.cell (p := ⟨g, off + i * 3 + 1, none⟩) (by show g < _; omega)).trans k1
      have r2 := (hb.cell (p := ⟨g, off + i * 3 + 2, none⟩) (by show g < _; omega)).trans k2
      have hP := HP.out
      rw [hdr, hmP_cons] at hP
      obtain ⟨fr, sz, wh⟩ := a
      simp only at r0 r1 r2 hP
      clear k0 k1 k2 hdr ha HP
      cases wh with
      | false =>
        have HP := hide hP
        simp only [Bool.false_eq_true, if_false] at HP
        clear hP
        go_wp2_with fail
        go_roundw
        case rel => exact ⟨i + 1, n, rfl, by go_num, by omega, HP, hb.trans ((bnew _ _).mono hb.size)⟩
        case measure => simp [Go.RowKit.intOf]; omega
      | true =>
        simp only [if_true] at hP
        by_cases hn : n = 0
        . rw [if_neg (by omega)] at hP
          have HP := hide hP
          have e1 : ((n : Int) != 0) = false := by simp; omega
          have e2 : ((n : Int) == 0) = true := by simp; omega
          clear hP
          go_wp2_with fail
          go_roundw
          case rel => exact ⟨i + 1, sz, rfl, by go_num, by omega, HP, hb.trans ((bnew _ _).mono hb.size)⟩
          case measure => simp [Go.RowKit.intOf]; omega
        . have e1 : ((n : Int) != 0) = true := by simp; omega
          have e2 : ((n : Int) == 0) = false := by simp; omega
          by_cases hs : n = sz
          . rw [if_neg (by omega)] at hP
            have HP := hide hP
            have e3 : ((n : Int) != (sz : Int)) = false := by simp; omega
            have e4 : ((n : Int) == (sz : Int)) = true := by simp; omega
            clear hP
            go_wp2_with fail
            go_roundw
            case rel => exact ⟨i + 1, sz, rfl, by go_num, by omega, HP, hb.trans ((bnew _ _).mono hb.size)⟩
            case measure => simp [Go.RowKit.intOf]; omega
          . rw [if_pos ⟨hn, hs⟩] at hP
            have HP := hide hP
            have e3 : ((n : Int) != (sz : Int)) = true := by simp; omega
            have e4 : ((n : Int) == (sz : Int)) = false := by simp; omega
            clear hP
            go_wp2_with fail
            go_ret2
            exact ⟨by rw [← HP.out]; rfl, hb.trans ((bnew _ _).mono hb.size)⟩
    . obtain rfl : m = i := by omega
      have hP := HP.out
      rw [List.drop_eq_nil_of_le (by rw [HM.out]; exact Nat.le_refl _), hmP] at hP
      have HP2 := hide hP
      clear hP HP
      go_wp2_with fail
      go_ret2
      refine ⟨?_, hb⟩
      rw [← HP2.out]
      show _ = Ending.returned (.tuple #[.int .i64 ((max n 1 : Nat) : Int), .bool true])
      rw [mx1]
      rfl
theorem make_is (n : Nat) (hn : n <= 4096) (w : World) : (Instr.makeSlice 199 (.int .i64 (n : Int)) (.int .i64 (n : Int))).run Tryz.prog w = .ok (.slice (some ⟨w.heap.size, 0, none⟩) n n) (w.alloc (.cells (madeCells #[.slice none 0 0] n) 32)) :=
  run_make_row' 199 32 (.slice none 0 0) 24 Tryz.underlying199 infoIs rfl .i64 .i64 n (by omega) (by omega) w
theorem eCall1 : ∀ args w, (callFunc 142 args).run Tryz.prog w = .ok (.enter 142 args) w := enters_of Tryz.func142 (by kernel_rfl) rfl
def Rws (w : World) (g n : Nat) (k : Nat) (f : Nat -> List Nat) : Prop := ∃ cur : Array Value, w.heap[g]? = some (.cells cur 32 (0, 0)) /\ cur.size = n /\ ∀ j, j < k -> ∃ v, cur[j]? = some v /\ Is w v (f j)
theorem Rws.below {w w' : World} {g n k : Nat} {f : Nat -> List Nat} (h : Rws w g n k f) (hb : Below w.heap.size w w') : Rws w' g n k f := by
  obtain ⟨cur, h1, h2, h3⟩ := h
  refine ⟨cur, (hb.block g (Array.getElem?_eq_some_iff.1 h1).1).trans h1, h2, fun j hj => ?_⟩
  obtain ⟨v, e, hi⟩ := h3 j hj
  exact ⟨v, e, hi.below hb⟩
theorem Rws.set {w : World} {g n k : Nat} {f : Nat -> List Nat} (h : Rws w g n k f) (hk : k < n) (v : Value) (hv : Is w v (f k)) : Rws (w.setCell ⟨g, k, none⟩ v) g n (k + 1) f := by
  obtain ⟨cur, h1, h2, h3⟩ := h
  have hno : ∀ (b : Nat) (cs : Array Value) (fr : Nat × Nat), w.heap[b]? = some (Obj.cells cs 3 fr) -> (w.setCell ⟨g, k, none⟩ v).heap[b]? = w.heap[b]? := fun b cs fr hb => Below.heap_setCell _ _ _ _ (fun e => by
    have e' : b = g := e
    rw [e', h1] at hb
    simp at hb)
  refine ⟨cur.set! k v, ?_, by simp [h2], fun j hj => ?_⟩
  . rw [setCell_eq_setRow _ _ k _ _ _ _ h1, setRow_heap _ _ _ _ _ _ h1]
    simp
  . by_cases e : j = k
    . subst e
      exact ⟨v, by simp [h2, hk], hv.block hno⟩
    . obtain ⟨u, e1, hi⟩ := h3 j (by omega)
      exact ⟨u, by rw [Array.set!_eq_setIfInBounds, Array.getElem?_setIfInBounds, if_neg (by omega)]; exact e1, hi.block hno⟩
theorem Rws.cell {w : World} {g n k : Nat} {f : Nat -> List Nat} (h : Rws w g n k f) (j : Nat) (hj : j < n) : (∃ u, w.cell? ⟨g, j, none⟩ = some u) /\ w.frozen? ⟨g, j, none⟩ = false := by
  obtain ⟨cur, h1, h2, _⟩ := h
  refine ⟨⟨cur[j]'(by omega), ?_⟩, by simp [World.frozen?, h1]⟩
  rw [cell_of_row _ _ _ _ _ _ h1]
  exact Array.getElem?_eq_getElem (by omega)
def nx (z : Nat) : N64 := ⟨min z 4611686018427387903, by omega⟩
theorem nx_map (args : List Ag) (k : Nat) (h : ∀ a ∈ args, a.fr <= 64) (hk : k <= 64) : (args.map fun a => nx (atP k a)).map (·.1) = args.map (atP k) := by
  rw [List.map_map]
  refine List.map_congr_left fun a ha => ?_
  show min (atP k a) 4611686018427387903 = atP k a
  have := h a ha
  unfold atP
  split <;> omega
theorem hmP_le : ∀ (l : List Ag) (n : Nat), n <= 64 -> (∀ a ∈ l, a.sz <= 64) -> ∀ m, hmP n l = some m -> m <= 64 /\ 1 <= m
  | [], n, hn, _, m, h => by simp only [hmP, Option.some.injEq] at h; omega
  | a :: r, n, hn, hs, m, h => by
    rw [hmP_cons] at h
    have h2 : ∀ b ∈ r, b.sz <= 64 := fun b hb => hs b (List.mem_cons_of_mem _ hb)
    split at h
    . split at h
      . cases h
      . exact hmP_le r a.sz (hs a (by simp)) h2 m h
    . exact hmP_le r n hn h2 m h
def PRC (args : List Ag) (w : World) (P : Option (List (List Nat))) (e : Ending) (w' : World) : Prop := match P with
  | none => e = .returned (.tuple #[.slice none 0 0, .bool false]) /\ Below w.heap.size w w'
  | some _ => ∃ g n, e = .returned (.tuple #[.slice (some ⟨g, 0, none⟩) n n, .bool true]) /\ hmP 0 args = some n /\ n <= 64 /\ w.heap.size <= g /\ Rws w' g n n (fun k => args.map (atP k)) /\ Below w.heap.size w w'
theorem cRowOfCalls (c : Nat) (ao : Option Addr) (args : List Ag) (hl : args.length <= 4398046511104) (hfr : ∀ a ∈ args, a.fr <= 64) (hsz : ∀ a ∈ args, a.sz <= 64) (w : World) (hI : Asb w.heap.size w (.slice ao args.length c) args) :
    Calls Tryz.prog 121 #[.slice ao args.length c] w (PRC args w (callsP args)) := by
  have c1 := fun o => cHowMany w.heap.size c ao args (by omega) (w.alloc o) (by simp) (hI.below (Nat.le_refl _) (bnew _ _))
  unfold callsP
  cases h1 : hmP 0 args with
  | none =>
    rw [h1] at c1
    unfold hmV at c1
    go_enter Tryz.func121, Tryz.ntmps121
    go_wp2_with (first | (go_at_call 141; refine (c1 _).mono ?_; rintro e w1 ⟨rfl, hb1⟩))
    go_ret2
    exact ⟨rfl, (bnew _ _).trans (hb1.mono (by simp))⟩
  | some n =>
    rw [h1] at c1
    unfold hmV at c1
    simp only at c1 ⊢
    obtain ⟨hn64, hn1⟩ := hmP_le args 0 (by omega) hsz n h1
    have hmk := fun W => make_is n (by omega) W
    obtain ⟨P, hP⟩ : ∃ P : Option (List (List Nat)), P = (if ∀ k, k < n -> (args.map (atP k)).Nodup then some ((List.range n).map fun k => args.map (atP k)) else none) := ⟨_, rfl⟩
    rw [← hP]
    have HP := hide hP
    have H1 := hide h1
    clear hP h1
    go_enter Tryz.func121, Tryz.ntmps121
    go_wp2_with (first | (go_at_call 141; refine (c1 _).mono ?_; rintro e w1 ⟨rfl, hb1⟩))
    have hA : ((w1.alloc (.cells (madeCells #[.slice none 0 0] n) 32))).cell? ⟨w.heap.size, 0, none⟩ = some (.slice ao args.length c) := by
      have hz := hb1.size
      simp only [World.size_alloc] at hz
      exact ((bnew _ _).cell (p := ⟨w.heap.size, 0, none⟩) (by show w.heap.size < _; omega)).trans ((hb1.cell (p := ⟨w.heap.size, 0, none⟩) (by simp)).trans (by simp))
    have hbw : Below w.heap.size w w1 := (bnew _ _).trans (hb1.mono (by simp))
    have hlw : w.heap.size < w1.heap.size := by have := hb1.size; simp at this; omega
    have hR0 : Rws (w1.alloc (.cells (madeCells #[.slice none 0 0] n) 32)) w1.heap.size n 0 (fun k => args.map (atP k)) := ⟨_, heap_alloc_new _ _, size_madeCells _ _, fun j hj => absurd hj (by omega)⟩
    clear hmk c1
    have hb2 : Below w.heap.size w (w1.alloc (.cells (madeCells #[.slice none 0 0] n) 32)) := hbw.trans ((bnew _ _).mono hbw.size)
    generalize (w1.alloc (.cells (madeCells #[.slice none 0 0] n) 32)) = W1 at *
    have hgg : w.heap.size < w1.heap.size := hlw
    clear hb1 hbw
    generalize w1.heap.size = gc at *
    go_loopw [20] (fun v wr => ∃ k : Nat, v = .int .i64 (k : Int) /\ k <= n /\ Hid (∀ j, j < k -> (args.map (atP j)).Nodup) /\ Rws wr gc n k (fun k => args.map (atP k)) /\ wr.cell? ⟨w.heap.size, 0, none⟩ = some (.slice ao args.length c) /\ Below w.heap.size w wr) (fun v _ => n - (Go.RowKit.intOf v).toNat)
    case atStart => exact ⟨0, rfl, Nat.zero_le _, hide (fun j hj => absurd hj (by omega)), hR0, hA, hb2⟩
    case round =>
      clear hR0 hA hb2
      obtain ⟨k, rfl, hk, HD, hR, hA, hb⟩ := hrel
      by_cases h : k < n
      . have hdd : decide ((k : Int) < (n : Int)) = true := decide_eq_true (by omega)
        have hlw0 : w.heap.size < wr.heap.size := World.block_lt_of_cell? _ _ hA
        have hgc : gc < wr.heap.size := by obtain ⟨cur, h1, _⟩ := hR; exact (Array.getElem?_eq_some_iff.1 h1).1
        have hbV : Below wr.heap.size wr (wr.alloc (.cells #[.int .i64 (k : Int)] 3)) := bnew _ _
        have hcV := cell_of_row (wr.alloc (.cells #[.int .i64 (k : Int)] 3)) wr.heap.size 0 _ _ _ (heap_alloc_new wr (.cells #[.int .i64 (k : Int)] 3))
        have c2 : Calls Tryz.prog 118 #[.func (.func 142) #[] #[.pointer (some ⟨w.heap.size, 0, none⟩), .pointer (some ⟨wr.heap.size, 0, none⟩)]] (wr.alloc (.cells #[.int .i64 (k : Int)] 3)).drew (PO1 (wr.alloc (.cells #[.int .i64 (k : Int)] 3)).drew (args.map fun a => nx (atP k a))) := by
          refine cOnce _ _ eCall1 _ (by rw [List.length_map]; exact hl) _ (fun W hW => ?_)
          have hsV : (wr.alloc (.cells #[.int .i64 (k : Int)] 3)).drew.heap.size = wr.heap.size + 1 := by show (wr.alloc _).heap.size = _; simp
          refine call_stops w.heap.size wr.heap.size _ c k ao args _ (nx_map args k hfr (by omega)) (by omega) (fun a ha => by have := hfr a ha; omega) (by omega) (by rw [hsV]; omega) (by rw [hsV]; omega) W hW.size ?_ ?_ ?_
          . exact (hW.cell (p := ⟨w.heap.size, 0, none⟩) (by show w.heap.size < _; rw [hsV]; omega)).trans ((hbV.cell (p := ⟨w.heap.size, 0, none⟩) hlw0).trans hA)
          . exact (hW.cell (p := ⟨wr.heap.size, 0, none⟩) (by show wr.heap.size < _; rw [hsV]; omega)).trans hcV
          . have h0 : Asb w.heap.size wr (.slice ao args.length c) args := hI.below (Nat.le_refl _) hb
            have h1 : Asb w.heap.size W (.slice ao args.length c) args := h0.block fun g hg _ _ _ => (hW.block g (by rw [hsV]; omega)).trans (hbV.block g (by omega))
            rcases h1 with h1 | ⟨g, off, c', cs, fr, h2, h3⟩
            . exact .inl h1
            . exact .inr ⟨g, off, c', cs, fr, by rw [hsV]; omega, h3⟩
        have hneg : wr.heap.size ≠ gc := by omega
        have hR1 := hR.below hbV
        have hAV := (hbV.cell (p := ⟨w.heap.size, 0, none⟩) hlw0).trans hA
        have hbW : Below w.heap.size w (wr.alloc (.cells #[.int .i64 (k : Int)] 3)) := hb.trans (hbV.mono hb.size)
        have hsz1 : (wr.alloc (.cells #[.int .i64 (k : Int)] 3)).heap.size = wr.heap.size + 1 := by simp
        unfold PO1 at c2
        have hxm := nx_map args k hfr (by omega : k <= 64)
        rw [hxm] at c2
        have hxm2 : (args.map fun a => nx (atP k a)).length = args.length := List.length_map ..
        have hxm3 : ((args.map fun a => nx (atP k a)).map fun x => iv x.1) = (args.map (atP k)).map iv := by rw [← hxm]; simp only [List.map_map]; rfl
        rw [hxm2, hxm3] at c2
        clear hxm hxm2 hxm3 hbV hA hR
        by_cases hnd : (args.map (atP k)).Nodup
        . have c3 : Calls Tryz.prog 118 #[.func (.func 142) #[] #[.pointer (some ⟨w.heap.size, 0, none⟩), .pointer (some ⟨wr.heap.size, 0, none⟩)]] (wr.alloc (.cells #[.int .i64 (k : Int)] 3)).drew (fun e w' => ∃ ao' m' c', e = .returned (.tuple #[.slice ao' m' c', .bool true]) /\ Is w' (.slice ao' m' c') (args.map (atP k)) /\ Below (wr.alloc (.cells #[.int .i64 (k : Int)] 3)).heap.size (wr.alloc (.cells #[.int .i64 (k : Int)] 3)) w') := c2.mono (fun e w' h => by
            obtain ⟨hb', h' | h'⟩ := h
            . obtain ⟨_, v, rfl, ho⟩ := h'
              have hvs : ∃ ao m c, v = .slice ao m c := by
                rcases ho.2 with ⟨e, _⟩ | ⟨g, cap, cur, e, _⟩
                . exact ⟨_, _, _, e⟩
                . exact ⟨_, _, _, e⟩
              obtain ⟨ao', m', c', rfl⟩ := hvs
              have hm : m' = args.length := by
                rcases ho.2 with ⟨e, e0⟩ | ⟨g, cap, cur, e, _⟩
                . simp only [Value.slice.injEq] at e; omega
                . simp only [Value.slice.injEq] at e; omega
              refine ⟨ao', m', c', rfl, ?_, ⟨hb'.os, hb'.tape, hb'.output, hb'.size, hb'.block⟩⟩
              rw [hm]
              have := Is.of_own (l := args.map (atP k)) (ao := ao') (c := c') (by rw [List.length_map]; rw [hm] at ho; exact ho)
              rw [List.length_map] at this
              exact this
            . exact absurd hnd h'.1)
          clear c2
          go_wp2_with fail
          generalize (wr.alloc (.cells #[.int .i64 (k : Int)] 3)) = V at *
          obtain ⟨⟨u0, hu0⟩, hf0⟩ := hR1.cell k h
          have HS0 : Hid (V.drew.cell? ⟨wr.heap.size, 0, none⟩ = some (.int .i64 (k : Int))) := hide hcV
          have HS1 : Hid (∀ w', Below V.heap.size V w' -> w'.cell? ⟨wr.heap.size, 0, none⟩ = some (.int .i64 (k : Int))) := hide (fun w' h' => (h'.cell (p := ⟨wr.heap.size, 0, none⟩) (by show wr.heap.size < _; omega)).trans hcV)
          have HS2 : Hid (∀ (w' : World) (u : Value), w'.cell? ⟨wr.heap.size, 0, none⟩ = some (.int .i64 (k : Int)) -> (w'.setCell ⟨gc, k, none⟩ u).cell? ⟨wr.heap.size, 0, none⟩ = some (.int .i64 (k : Int))) := hide (fun w' u h' => (cell_far _ _ _ _ hneg).trans h')
          have HU : Hid (∀ w', Below V.heap.size V w' -> w'.cell? ⟨gc, k, none⟩ = some u0 /\ w'.frozen? ⟨gc, k, none⟩ = false) := hide (fun w' h' => ⟨(h'.cell (p := ⟨gc, k, none⟩) (by show gc < _; omega)).trans hu0, (h'.frozen (p := ⟨gc, k, none⟩) (by show gc < _; omega)).trans hf0⟩)
          clear hu0 hf0 hcV
          go_region_held3 (fun X => X.cell? ⟨wr.heap.size, 0, none⟩ = some (.int .i64 (k : Int)))
            (first | (with_reducible exact HS0.out) | (with_reducible assumption) | (with_reducible exact HS2.out _ _ (by assumption)))
            (first | (go_at_call 118; (with_reducible refine Calls.mono c3 ?_); rintro e w2 ⟨ao', m', c', rfl, hI2, hb2⟩; have hS := HS1.out w2 hb2; obtain ⟨hu2, hf2⟩ := HU.out w2 hb2))
          go_wp2_with fail
          go_roundw
          case rel =>
            refine ⟨k + 1, by go_num, by omega, hide (fun j hj => ?_), (hR1.below hb2).set h _ hI2, (cell_far _ _ _ _ (by show w.heap.size ≠ gc; omega)).trans ((hb2.cell (p := ⟨w.heap.size, 0, none⟩) (by show w.heap.size < _; omega)).trans hAV), (hbW.trans (hb2.mono hbW.size)).setCell (by show w.heap.size <= gc; omega) _⟩
            by_cases e : j = k
            . rw [e]; exact hnd
            . exact HD.out j (by omega)
          case measure => simp [Go.RowKit.intOf]; omega
        . have c3 : Calls Tryz.prog 118 #[.func (.func 142) #[] #[.pointer (some ⟨w.heap.size, 0, none⟩), .pointer (some ⟨wr.heap.size, 0, none⟩)]] (wr.alloc (.cells #[.int .i64 (k : Int)] 3)).drew (fun e w' => e = .returned (.tuple #[.slice none 0 0, .bool false]) /\ Below (wr.alloc (.cells #[.int .i64 (k : Int)] 3)).heap.size (wr.alloc (.cells #[.int .i64 (k : Int)] 3)) w') := c2.mono (fun e w' h => by
            obtain ⟨hb', h' | h'⟩ := h
            . exact absurd h'.1 hnd
            . exact ⟨h'.2, ⟨hb'.os, hb'.tape, hb'.output, hb'.size, hb'.block⟩⟩)
          clear c2
          go_wp2_with fail
          generalize (wr.alloc (.cells #[.int .i64 (k : Int)] 3)) = V at *
          obtain ⟨⟨u0, hu0⟩, hf0⟩ := hR1.cell k h
          have HS0 : Hid (V.drew.cell? ⟨wr.heap.size, 0, none⟩ = some (.int .i64 (k : Int))) := hide hcV
          have HS1 : Hid (∀ w', Below V.heap.size V w' -> w'.cell? ⟨wr.heap.size, 0, none⟩ = some (.int .i64 (k : Int))) := hide (fun w' h' => (h'.cell (p := ⟨wr.heap.size, 0, none⟩) (by show wr.heap.size < _; omega)).trans hcV)
          have HS2 : Hid (∀ (w' : World) (u : Value), w'.cell? ⟨wr.heap.size, 0, none⟩ = some (.int .i64 (k : Int)) -> (w'.setCell ⟨gc, k, none⟩ u).cell? ⟨wr.heap.size, 0, none⟩ = some (.int .i64 (k : Int))) := hide (fun w' u h' => (cell_far _ _ _ _ hneg).trans h')
          have HU : Hid (∀ w', Below V.heap.size V w' -> w'.cell? ⟨gc, k, none⟩ = some u0 /\ w'.frozen? ⟨gc, k, none⟩ = false) := hide (fun w' h' => ⟨(h'.cell (p := ⟨gc, k, none⟩) (by show gc < _; omega)).trans hu0, (h'.frozen (p := ⟨gc, k, none⟩) (by show gc < _; omega)).trans hf0⟩)
          clear hu0 hf0 hcV
          go_region_held3 (fun X => X.cell? ⟨wr.heap.size, 0, none⟩ = some (.int .i64 (k : Int)))
            (first | (with_reducible exact HS0.out) | (with_reducible assumption) | (with_reducible exact HS2.out _ _ (by assumption)))
            (first | (go_at_call 118; (with_reducible refine Calls.mono c3 ?_); rintro e w2 ⟨rfl, hb2⟩; have hS := HS1.out w2 hb2; obtain ⟨hu2, hf2⟩ := HU.out w2 hb2))
          go_wp2_with fail
          go_ret2
          have hno : P = none := by rw [HP.out, if_neg (fun hh => hnd (hh k h))]
          rw [hno]
          exact ⟨rfl, (hbW.trans (hb2.mono hbW.size)).setCell (by show w.heap.size <= gc; omega) _⟩
      . obtain rfl : n = k := by omega
        go_wp2_with fail
        go_ret2
        rw [HP.out, if_pos HD.out]
        exact ⟨gc, n, rfl, H1.out, hn64, by omega, hR, hb⟩
end Go.Proofs.YtnghfdnlcnocjaaGreatDoor.Cir
