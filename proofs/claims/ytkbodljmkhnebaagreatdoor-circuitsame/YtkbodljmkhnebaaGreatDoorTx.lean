/- What args are in a call of a row: an iterator. -/
import Derived.Test.YtkbodljmkhnebaaGreatDoorTw
namespace Go.Proofs.YtkbodljmkhnebaaGreatDoor.Cir
open Go.RowKit Go.Shelf Go.Proofs.YtkbodljmkhnebaaGreatDoor.Oct Go.Proofs.YtkbodljmkhnebaaGreatDoor.Tok Go.Proofs.YtkbodljmkhnebaaGreatDoor.Gt
attribute [local go_sem] Oper.semAt_some

/-- Args that lie in memory below C. -/
def Asb (C : Nat) (w : World) (v : Value) (l : List Ag) : Prop := (l = [] ∧ ∃ ao c, v = .slice ao 0 c) ∨ ∃ g off c cs fr, g < C ∧ v = .slice (some ⟨g, off, none⟩) l.length c ∧ w.heap[g]? = some (.cells cs 230 fr) ∧ ∀ j u, (l.flatMap agC)[j]? = some u → cs[off + j]? = some u
theorem Asb.of_own {w : World} {B : Nat} {ao : Option Addr} {c : Nat} {l : List Ag} (h : w.ownsRow B 230 3 (.slice ao l.length c) l.length (l.flatMap agC)) : Asb w.heap.size w (.slice ao l.length c) l := by
  rcases h.2 with ⟨hv, h0⟩ | ⟨g, cap, cur, hv, hbg, hg, h1, h2, h3, h4⟩
  · exact .inl ⟨List.length_eq_zero_iff.1 h0, ao, c, by rw [h0]⟩
  · refine .inr ⟨g, 0, cap, cur, _, (Array.getElem?_eq_some_iff.1 hg).1, hv, hg, fun j z hj => ?_⟩
    have hlt := (List.getElem?_eq_some_iff.1 hj).1
    have hln := h.1
    rw [← h4, List.getElem?_take, if_pos (by omega)] at hj
    rw [Nat.zero_add]
    simpa using hj
theorem Asb.block {C : Nat} {w w' : World} {v : Value} {l : List Ag} (h : Asb C w v l) (hk : ∀ (g : Nat), g < C → ∀ (cs : Array Value) (fr : Nat × Nat), w.heap[g]? = some (Obj.cells cs 230 fr) → w'.heap[g]? = w.heap[g]?) : Asb C w' v l := by
  rcases h with h | ⟨g, off, c, cs, fr, h0, h1, h2, h3⟩
  · exact .inl h
  · exact .inr ⟨g, off, c, cs, fr, h0, h1, (hk g h0 cs fr h2).trans h2, h3⟩
theorem Asb.below {w w' : World} {v : Value} {l : List Ag} {C : Nat} (h : Asb C w v l) (hC : C ≤ w.heap.size) (hb : Below w.heap.size w w') : Asb C w' v l := h.block fun g hg _ _ _ => hb.block g (by omega)
theorem agC_at (l : List Ag) (k : Nat) (a : Ag) (h : l[k]? = some a) (j : Nat) (u : Value) (hu : (agC a)[j]? = some u) : (l.flatMap agC)[k * 3 + j]? = some u := by
  induction l generalizing k with
  | nil => simp at h
  | cons b r ih =>
    cases k with
    | zero =>
      simp at h
      subst h
      rw [List.flatMap_cons, Nat.zero_mul, Nat.zero_add, List.getElem?_append_left (List.getElem?_eq_some_iff.1 hu).1]
      exact hu
    | succ k =>
      have hl : (agC b).length = 3 := rfl
      rw [List.flatMap_cons, List.getElem?_append_right (by omega), hl, show (k + 1) * 3 + j - 3 = k * 3 + j by omega]
      exact ih k (by simpa using h)
theorem Asb.cells {C : Nat} {w : World} {ao : Option Addr} {n c : Nat} {l : List Ag} (h : Asb C w (.slice ao n c) l) {k : Nat} {a : Ag} (hk : l[k]? = some a) : ∃ g off, ao = some ⟨g, off, none⟩ ∧ g < C ∧ w.cell? ⟨g, off + k * 3, none⟩ = some (.int .i64 (a.fr : Int)) ∧ w.cell? ⟨g, off + k * 3 + 1, none⟩ = some (.int .i64 (a.sz : Int)) ∧ w.cell? ⟨g, off + k * 3 + 2, none⟩ = some (.bool a.whole) := by
  rcases h with ⟨e, _⟩ | ⟨g, off, c', cs, fr, hg, h1, h2, h3⟩
  · rw [e] at hk; simp at hk
  · simp only [Value.slice.injEq] at h1
    exact ⟨g, off, h1.1, hg, (cell_of_row _ _ _ _ _ _ h2).trans (h3 _ _ (agC_at l k a hk 0 _ rfl)), (cell_of_row _ _ _ _ _ _ h2).trans (h3 _ _ (agC_at l k a hk 1 _ rfl)), (cell_of_row _ _ _ _ _ _ h2).trans (h3 _ _ (agC_at l k a hk 2 _ rfl))⟩
set_option maxRecDepth 100000 in
set_option maxHeartbeats 1000000 in
theorem cCall1 (l Ba Bk n₀ c k : Nat) (ao : Option Addr) (args : List Ag) (xs : List N64) (hx : xs.map (·.1) = args.map (atP k)) (hl : args.length ≤ 4398046511105) (hfr : ∀ a ∈ args, a.fr ≤ 4398046511104) (hk : k ≤ 4398046511104) (hbk : Bk < n₀) (J Jx : List N64 → World → Prop)
    (W : World) (hJa : AbidesFrom W.heap.size J) (hnW : n₀ ≤ W.heap.size)
    (hY : ∀ pre x W, J pre W → pre.length < xs.length → YieldAt Fence.wide (2 - 1) Tryz.prog l #[.int .i64 (x.1 : Int)] W fun e W' =>
      (e = .returned (.bool true) ∧ J (pre ++ [x]) W' ∧ Below n₀ W W') ∨ (e = .returned (.bool false) ∧ Jx (pre ++ [x]) W'))
    (hBa : W.cell? ⟨Ba, 0, none⟩ = some (.slice ao args.length c)) (hBk : W.cell? ⟨Bk, 0, none⟩ = some (.int .i64 (k : Int))) (hI : Asb n₀ W (.slice ao args.length c) args) (h0 : J [] W) :
    CallsIn Fence.wide 2 Tryz.prog 211 #[.func (.yield l) #[] #[], .pointer (some ⟨Ba, 0, none⟩), .pointer (some ⟨Bk, 0, none⟩)] W fun e W' => (∃ v, e = .returned v) ∧
      ((∃ ys, ys = xs ∧ J ys W') ∨ (∃ pre, pre <+: xs ∧ Jx pre W')) := by
  refine callsIn_of_wp Tryz.func211 rfl trivial ?_ rfl
  simp only [Tryz.ntmps211, List.size_toArray, List.length_cons, List.length_nil, Nat.reduceAdd, Nat.reduceSub, Array.replicate_succ, Array.replicate_zero, List.push_toArray, List.append_toArray, List.nil_append, List.cons_append]
  obtain ⟨n, hn⟩ : ∃ n, args.length = n := ⟨_, rfl⟩
  have hxn : xs.length = n := by
    have := congrArg List.length hx
    simp at this
    omega
  have HN := hide hn
  have HX := hide hxn
  rw [hn] at hBa hI hl
  rw [hxn] at hY
  clear hn hxn
  gi_wp2
  gi_loopw [8] (fun i wr => ∃ j : Nat, j ≤ n ∧ i = .int .i64 (j : Int) ∧ J (xs.take j) wr ∧ Below n₀ W wr) (fun i _ => n - (Go.RowKit.intOf i).toNat)
  case atStart => exact ⟨0, Nat.zero_le _, rfl, h0, Below.refl _ _⟩
  case round =>
    obtain ⟨j, hj, rfl, hJs, hnx⟩ := hrel
    by_cases hlt : j < n
    · obtain ⟨a, ha⟩ : ∃ a, args[j]? = some a := ⟨_, List.getElem?_eq_getElem (by rw [HN.out]; exact hlt)⟩
      obtain ⟨x, hx1⟩ : ∃ x, xs[j]? = some x := ⟨_, List.getElem?_eq_getElem (by rw [HX.out]; exact hlt)⟩
      have hxa : x.1 = atP k a := by
        have h1 : (xs.map (·.1))[j]? = some x.1 := by rw [List.getElem?_map, hx1]; rfl
        rw [hx, List.getElem?_map, ha] at h1
        simpa using h1.symm
      have hpl : (xs.take j).length < n := by simp; omega
      obtain ⟨g, off, rfl, hg, k0, k1, k2⟩ := hI.cells ha
      have r0 := (hnx.cell (p := ⟨g, off + j * 3, none⟩) hg).trans k0
      have r1 := (hnx.cell (p := ⟨g, off + j * 3 + 1, none⟩) hg).trans k1
      have r2 := (hnx.cell (p := ⟨g, off + j * 3 + 2, none⟩) hg).trans k2
      have rk : wr.cell? ⟨Bk, 0, none⟩ = some (.int .i64 (k : Int)) := (hnx.cell (p := ⟨Bk, 0, none⟩) hbk).trans hBk
      have hgw : g < wr.heap.size := World.block_lt_of_cell? _ _ r0
      have hbw : Bk < wr.heap.size := World.block_lt_of_cell? _ _ rk
      have c1 := fun V => cAt a k (hfr a (List.mem_of_getElem? ha)) hk V
      have hY1 := fun V (hV : J (xs.take j) V) => hY _ x V hV hpl
      have hJ2 := fun o1 o2 => hJa _ _ ((wr.alloc o1).alloc o2) none (hJa _ _ (wr.alloc o1) none hJs (World.grownBy_alloc _ _ none) (fun r e => by cases e)) (World.grownBy_alloc _ _ none) (fun r e => by cases e)
      have htk : xs.take (j + 1) = xs.take j ++ [x] := by
        rw [List.take_add_one, hx1]
        rfl
      have Htk := hide htk
      have hdd : decide ((j : Int) < (n : Int)) = true := decide_eq_true (by omega)
      have hnW2 : n₀ ≤ wr.heap.size := Nat.le_trans hnW hnx.size
      rw [← hxa] at c1
      obtain ⟨fr, sz, wh⟩ := a
      unfold agV at c1
      simp only at c1 r0 r1 r2
      obtain ⟨fn, tmps, assign, body, hy, hR⟩ := hY1 _ (hJ2 (.cells #[.int .i64 (fr : Int), .int .i64 (sz : Int), .bool wh] 230) (.cells #[.int .i64 (fr : Int), .int .i64 (sz : Int), .bool wh] 230))
      have hB2 : Below n₀ wr ((wr.alloc (.cells #[.int .i64 (fr : Int), .int .i64 (sz : Int), .bool wh] 230)).alloc (.cells #[.int .i64 (fr : Int), .int .i64 (sz : Int), .bool wh] 230)) := ((Below.refl _ _).alloc hnW2 _).alloc (by simp; omega) _
      clear htk hx1 ha hY hY1 hJ2 k0 k1 k2 hxa
      gi_wp2_with (refine ⟨trivial, ?_⟩; gi_at_call 178; refine (callsIn_wide.2 (c1 _)).mono ?_; rintro e w' ⟨rfl, rfl⟩)
      refine hR.mono ?_
      rintro e W3 (⟨rfl, hJ3, hk3⟩ | ⟨rfl, hJx3⟩)
      · gi_wp2
        go_roundw
        case rel => exact ⟨j + 1, by omega, by go_num, by rw [Htk.out]; exact hJ3, (hnx.trans hB2).trans hk3⟩
        case measure => simp [Go.RowKit.intOf]; omega
      · gi_wp2
        refine bodyPost_ret (results_none rfl _ _ _) rfl ?_
        exact ⟨⟨_, rfl⟩, .inr ⟨_, by rw [← Htk.out]; exact List.take_prefix _ _, hJx3⟩⟩
    · obtain rfl : n = j := by omega
      gi_wp2
      go_end0
      refine ⟨⟨_, rfl⟩, .inl ⟨_, rfl, ?_⟩⟩
      rw [List.take_of_length_le (by rw [HX.out]; exact Nat.le_refl _)] at hJs
      exact hJs
end Go.Proofs.YtkbodljmkhnebaaGreatDoor.Cir
