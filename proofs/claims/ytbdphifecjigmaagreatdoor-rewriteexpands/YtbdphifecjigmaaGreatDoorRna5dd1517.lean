import Derived.Test.YtbdphifecjigmaaGreatDoorRn04b64b87
namespace Go.Proofs.YtbdphifecjigmaaGreatDoor.Cir
end Go.Proofs.YtbdphifecjigmaaGreatDoor.Cir
namespace Go.Proofs.YtbdphifecjigmaaGreatDoor.Gt
end Go.Proofs.YtbdphifecjigmaaGreatDoor.Gt
namespace Go.Proofs.YtbdphifecjigmaaGreatDoor.Oct
end Go.Proofs.YtbdphifecjigmaaGreatDoor.Oct
namespace Go.Proofs.YtbdphifecjigmaaGreatDoor.Tok
end Go.Proofs.YtbdphifecjigmaaGreatDoor.Tok
set_option maxRecDepth 100000
set_option maxHeartbeats 1000000
namespace Go.Proofs.YtbdphifecjigmaaGreatDoor.Rwt
open Go.RowKit Go.Shelf Go.Proofs.YtbdphifecjigmaaGreatDoor.Oct Go.Proofs.YtbdphifecjigmaaGreatDoor.Tok Go.Proofs.YtbdphifecjigmaaGreatDoor.Gt Go.Proofs.YtbdphifecjigmaaGreatDoor.Cir
theorem app_emp18 {ops : Array Oper} {rest : List Oper} {o : Oper} {a : Act} {Q : Exit -> Act -> World -> Prop} {X : World} (hgd : o.guard = none) (s x : Operand)
    (ho : o.op = .call { callee := .builtin .append, args := #[s, x], argTypes := #[38, 38] }) (pre : List Int) (np : Nat) (hnp : pre.length = np) (cells : Array Value) (hcells : cells = (pre.map (Value.int .i64)).toArray) (H : Nat) (hH : X.heap.size = H) (hs : a.eval s = .slice (some ⟨H, 0, none⟩) np np)
    (ao : Option Addr) (c : Nat) (l : List Int) (n : Nat) (hn : l.length = n) (h0 : 0 < n) (hx : a.eval x = .slice ao n c) (hN : Ns X ao l) (hl : n <= 1000000000) (hp : np <= 1000)
    (h : ∀ ao' c' w', RowO w' X.heap.size (.slice ao' (np + n) c') (pre ++ l) -> Below X.heap.size X w' -> wpList Tryz.prog ops Q rest (a.put o.dst (.slice ao' (np + n) c')) w') : wpList Tryz.prog ops Q (o :: rest) a (X.alloc (.cells cells 3)) := by
  subst hH hn hnp hcells
  have hb : Below X.heap.size X (X.alloc (.cells (pre.map (Value.int .i64)).toArray 3)) := bnew _ _
  obtain ⟨i0, hi, hz0, hz1, hz2⟩ := info_parts Gt.infoI
  have hne : l ≠ [] := fun e => by rw [e] at h0; simp at h0
  obtain ⟨g, off, rfl, hc⟩ := hN.resolve_left hne
  have hown : (X.alloc (.cells (pre.map (Value.int .i64)).toArray 3)).ownsRow X.heap.size 3 1 (.slice (some ⟨X.heap.size, 0, none⟩) pre.length pre.length) pre.length (pre.map (Value.int .i64)) := ⟨by simp, .inr ⟨X.heap.size, pre.length, (pre.map (Value.int .i64)).toArray, rfl, Nat.le_refl _, heap_alloc_new _ _, Nat.le_refl _, by unfold maxLen; omega, by simp, by simp only [Nat.mul_one]; exact List.take_of_length_le (by simp)⟩⟩
  refine wpList_append_lies _ hgd s x 38 ho X.heap.size 3 i0 (.int .i64 0) 1 8 Tryz.underlying38 hi hz0 hz1 hz2 rfl (by decide) _ pre.length _ hs hown ⟨g, off, none⟩ l.length c (l.map (Value.int .i64)) hx (by simp) (fun j u hu => ?_) (fun u hu => ?_) h0 (by unfold maxLen; omega) (by omega) hb.size _ rfl ?_
  . rw [Addr.add_lit]
    rw [List.getElem?_map] at hu
    obtain ⟨z, hz, rfl⟩ := Option.map_eq_some_iff.1 hu
    exact cell_below (hc j z hz) hb
  . obtain ⟨z, _, rfl⟩ := List.mem_map.1 hu
    rfl
  . intro g2 cap w2 hown2 hgrow hat hlt
    refine h _ _ w2 ⟨_, _, by rw [List.length_append], ?_⟩ (hb.grown hgrow hb.size (fun q hq => by
      rw [ob_eq] at hq
      cases hq
      exact Nat.le_refl _))
    rw [List.length_append, List.map_append]
    exact hown2
theorem infoO18 : (Tryz.prog.info? 40).map (·.size) = some 6 := by kernel_rfl
theorem c6_set18 (w : World) (g : Nat) (cs : Array Value) (a b c d e f : Value) (t : TypeId) (hg : w.heap[g]? = some (.cells cs t (0, 0))) (hs : cs.size = 6) : (((((w.setCell ⟨g, 0, none⟩ a).setCell ⟨g, 1, none⟩ b).setCell ⟨g, 2, none⟩ c).setCell ⟨g, 3, none⟩ d).setCell ⟨g, 4, none⟩ e).setCell ⟨g, 5, none⟩ f = w.setRow g #[a, b, c, d, e, f] := by
  obtain ⟨l⟩ := cs
  match l, hs with
  | [u0, u1, u2, u3, u4, u5], _ =>
    rw [setCell_eq_setRow w g 0 _ t _ _ hg, setCell_eq_setRow _ g 1 _ t _ _ (setRow_heap w g _ _ t _ hg), setRow_setRow, setCell_eq_setRow _ g 2 _ t _ _ (setRow_heap w g _ _ t _ hg), setRow_setRow, setCell_eq_setRow _ g 3 _ t _ _ (setRow_heap w g _ _ t _ hg), setRow_setRow, setCell_eq_setRow _ g 4 _ t _ _ (setRow_heap w g _ _ t _ hg), setRow_setRow, setCell_eq_setRow _ g 5 _ t _ _ (setRow_heap w g _ _ t _ hg), setRow_setRow]
    rfl
theorem dOne (k : Int) (aq : Option Addr) (cq : Nat) (qs : List Int) (h1 : 0 < qs.length) (h2 : qs.length <= 1000) (w : World) (hN : Ns w aq qs) : Calls Tryz.prog 30 #[.int .i64 k, .slice aq qs.length cq] w fun e w' => ∃ a' c', e = .returned (.agg #[.int .i64 1, .int .i64 k, .slice a' qs.length c', .int .i64 0, .int .i64 (-1), .int .i64 0]) /\ RowO w' w.heap.size (.slice a' qs.length c') qs /\ Below w.heap.size w w' := by
  have hb1 := bnew w (.cells #[.int .i64 0, .int .i64 0, .slice none 0 0, .int .i64 0, .int .i64 0, .int .i64 0] 40)
  have HN1 := hide (hN.below hb1)
  have HB1 := hide hb1
  have HS1 : (w.alloc (.cells #[.int .i64 0, .int .i64 0, .slice none 0 0, .int .i64 0, .int .i64 0, .int .i64 0] 40)).heap.size = w.heap.size + 1 := by simp
  have HR1 : Hid ((w.alloc (.cells #[.int .i64 0, .int .i64 0, .slice none 0 0, .int .i64 0, .int .i64 0, .int .i64 0] 40)).heap[w.heap.size]? = some (.cells #[.int .i64 0, .int .i64 0, .slice none 0 0, .int .i64 0, .int .i64 0, .int .i64 0] 40 (0, 0))) := hide (heap_alloc_new _ _)
  have HSS := hide HS1
  obtain ⟨m, hm⟩ : ∃ m, qs.length = m := ⟨_, rfl⟩
  have HM := hide hm
  rw [hm] at h1 h2 ⊢
  clear hm hb1 hN HS1
  go_enter Tryz.func30, Tryz.ntmps30
  go_wp2_with (at_builtin; refine app_emp18 rfl _ _ rfl [] 0 rfl _ rfl (w.heap.size + 1) HSS.out rfl aq cq qs m HM.out h1 rfl HN1.out (by omega) (by omega) ?_)
  intro a' c' w2 hr2 hb2
  have m2 := (hb2.block w.heap.size (by omega)).trans HR1.out
  obtain ⟨y0, y1, y2, y3, y4, y5, y6⟩ := op_cells18 m2
  have yf : ∀ x, w2.frozen? ⟨w.heap.size, x, none⟩ = false := fun x => by simp [World.frozen?, m2]
  have HM2 := hide m2
  have HR2 := hide hr2
  have HB2 := hide (bkp HB1.out (by rw [HSS.out]; exact hb2))
  clear m2 hr2 hb2
  go_wp2_with fail
  rw [c6_set18 w2 w.heap.size _ _ _ _ _ _ _ _ HM2.out rfl]
  refine bodyPost_ret (results_c rfl _ _ w.heap.size _ _ _ _ rfl (setRow_heap _ _ _ _ _ _ HM2.out) Tryz.underlying40 rfl (by exact infoO18)) rfl ?_
  refine ⟨a', c', rfl, ?_, Below.row HB2.out _ _ (Nat.le_refl _)⟩
  refine (HR2.out.base (by omega)).block (fun b cs fr hb => setRow_other _ _ _ _ (fun e => by
    rw [e, HM2.out] at hb
    simp at hb))
end Go.Proofs.YtbdphifecjigmaaGreatDoor.Rwt
