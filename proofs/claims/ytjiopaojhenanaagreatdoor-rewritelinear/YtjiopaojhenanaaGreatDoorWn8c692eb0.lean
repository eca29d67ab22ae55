import Derived.Test.YtjiopaojhenanaaGreatDoorWn4fd675fc
import Derived.Deep.CutRange
namespace Go.Proofs.YtjiopaojhenanaaGreatDoor.Cir
end Go.Proofs.YtjiopaojhenanaaGreatDoor.Cir
namespace Go.Proofs.YtjiopaojhenanaaGreatDoor.Gt
end Go.Proofs.YtjiopaojhenanaaGreatDoor.Gt
namespace Go.Proofs.YtjiopaojhenanaaGreatDoor.Oct
end Go.Proofs.YtjiopaojhenanaaGreatDoor.Oct
namespace Go.Proofs.YtjiopaojhenanaaGreatDoor.Tok
end Go.Proofs.YtjiopaojhenanaaGreatDoor.Tok
set_option maxRecDepth 100000
set_option maxHeartbeats 1000000
namespace Go.Proofs.YtjiopaojhenanaaGreatDoor.Rwt
open Go.RowKit Go.Shelf Go.Proofs.YtjiopaojhenanaaGreatDoor.Oct Go.Proofs.YtjiopaojhenanaaGreatDoor.Tok Go.Proofs.YtjiopaojhenanaaGreatDoor.Gt Go.Proofs.YtjiopaojhenanaaGreatDoor.Cir
theorem app_emp18 {ops : Array Oper} {rest : List Oper} {o : Oper} {a : Act} {Q : Exit -> Act -> World -> Prop} {X : World} (hgd : o.guard = none) (s x : Operand)
    (ho : o.op = .call { callee := .builtin .append, args := #[s, x], argTypes := #[47, 47] }) (pre : List Int) (np : Nat) (hnp : pre.length = np) (cells : Array Value) (hcells : cells = (pre.map (Value.int .i64)).toArray) (H : Nat) (hH : X.heap.size = H) (hs : a.eval s = .slice (some ⟨H, 0, none⟩) np np)
    (ao : Option Addr) (c : Nat) (l : List Int) (n : Nat) (hn : l.length = n) (h0 : 0 < n) (hx : a.eval x = .slice ao n c) (hN : Ns X ao l) (hl : n <= 1000000000) (hp : np <= 1000)
    (h : ∀ ao' c' w', RowO w' X.heap.size (.slice ao' (np + n) c') (pre ++ l) -> Below X.heap.size X w' -> wpList Tryz.prog ops Q rest (a.put o.dst (.slice ao' (np + n) c')) w') : wpList Tryz.prog ops Q (o :: rest) a (X.alloc (.cells cells 3)) := by
  subst hH hn hnp hcells
  have hb : Below X.heap.size X (X.alloc (.cells (pre.map (Value.int .i64)).toArray 3)) := bnew _ _
  obtain ⟨i0, hi, hz0, hz1, hz2⟩ := info_parts Gt.infoI
  have hne : l ≠ [] := fun e => by rw [e] at h0; simp at h0
  obtain ⟨g, off, rfl, hc⟩ := hN.resolve_left hne
  have hown : (X.alloc (.cells (pre.map (Value.int .i64)).toArray 3)).ownsRow X.heap.size 3 1 (.slice (some ⟨X.heap.size, 0, none⟩) pre.length pre.length) pre.length (pre.map (Value.int .i64)) := ⟨by simp, .inr ⟨X.heap.size, pre.length, (pre.map (Value.int .i64)).toArray, rfl, Nat.le_refl _, heap_alloc_new _ _, Nat.le_refl _, by unfold maxLen; omega, by simp, by simp only [Nat.mul_one]; exact List.take_of_length_le (by simp)⟩⟩
  refine wpList_append_lies _ hgd s x 47 ho X.heap.size 3 i0 (.int .i64 0) 1 8 Tryz.underlying47 hi hz0 hz1 hz2 rfl (by decide) _ pre.length _ hs hown ⟨g, off, none⟩ l.length c (l.map (Value.int .i64)) hx (by simp) (fun j u hu => ?_) (fun u hu => ?_) h0 (by unfold maxLen; omega) (by omega) hb.size _ rfl ?_
  . rw [Addr.add_lit]
    rw [List.getElem?_map] at hu
    obtain ⟨z, hz, rfl⟩ := Option.map_eq_some_iff.1 hu
    exact cell_below (hc j z hz) hb
  . obtain ⟨z, _, rfl⟩ := List.mem_map.1 hu
    rfl
  . intro g2 cap w2 hown2 hgrow hat hlt
    refine h _ _ w2 ⟨_, _, by rw [List.length_append], ?_⟩ (hb.grown hgrow hb.size (fun q hq => by
      rw [ob_eq] at hq
      cases hq
      exact Nat.le_refl _))
    rw [List.length_append, List.map_append]
    exact hown2
theorem infoO18 : (Tryz.prog.info? 49).map (·.size) = some 6 := by kernel_rfl
theorem c6_set18 (w : World) (g : Nat) (cs : Array Value) (a b c d e f : Value) (t : TypeId) (hg : w.heap[g]? = some (.cells cs t (0, 0))) (hs : cs.size = 6) : (((((w.setCell ⟨g, 0, none⟩ a).setCell ⟨g, 1, none⟩ b).setCell ⟨g, 2, none⟩ c).setCell ⟨g, 3, none⟩ d).setCell ⟨g, 4, none⟩ e).setCell ⟨g, 5, none⟩ f = w.setRow g #[a, b, c, d, e, f] := by
  obtain ⟨l⟩ := cs
  match l, hs with
  | [u0, u1, u2, u3, u4, u5], _ =>
    rw [setCell_eq_setRow w g 0 _ t _ _ hg, setCell_eq_setRow _ g 1 _ t _ _ (setRow_heap w g _ _ t _ hg), setRow_setRow, setCell_eq_setRow _ g 2 _ t _ _ (setRow_heap w g _ _ t _ hg), setRow_setRow, setCell_eq_setRow _ g 3 _ t _ _ (setRow_heap w g _ _ t _ hg), setRow_setRow, setCell_eq_setRow _ g 4 _ t _ _ (setRow_heap w g _ _ t _ hg), setRow_setRow, setCell_eq_setRow _ g 5 _ t _ _ (setRow_heap w g _ _ t _ hg), setRow_setRow]
    rfl
theorem dOne (k : Int) (aq : Option Addr) (cq : Nat) (qs : List Int) (h1 : 0 < qs.length) (h2 : qs.length <= 1000) (w : World) (hN : Ns w aq qs) : Calls Tryz.prog 21 #[.int .i64 k, .slice aq qs.length cq] w fun e w' => ∃ a' c', e = .returned (.agg #[.int .i64 1, .int .i64 k, .slice a' qs.length c', .int .i64 0, .int .i64 (-1), .int .i64 0]) /\ RowO w' w.heap.size (.slice a' qs.length c') qs /\ Below w.heap.size w w' := by
  have hb1 := bnew w (.cells #[.int .i64 0, .int .i64 0, .slice none 0 0, .int .i64 0, .int .i64 0, .int .i64 0] 49)
  have HN1 := hide (hN.below hb1)
  have HB1 := hide hb1
  have HS1 : (w.alloc (.cells #[.int .i64 0, .int .i64 0, .slice none 0 0, .int .i64 0, .int .i64 0, .int .i64 0] 49)).heap.size = w.heap.size + 1 := by simp
  have HR1 : Hid ((w.alloc (.cells #[.int .i64 0, .int .i64 0, .slice none 0 0, .int .i64 0, .int .i64 0, .int .i64 0] 49)).heap[w.heap.size]? = some (.cells #[.int .i64 0, .int .i64 0, .slice none 0 0, .int .i64 0, .int .i64 0, .int .i64 0] 49 (0, 0))) := hide (heap_alloc_new _ _)
  have HSS := hide HS1
  obtain ⟨m, hm⟩ : ∃ m, qs.length = m := ⟨_, rfl⟩
  have HM := hide hm
  rw [hm] at h1 h2 ⊢
  clear hm hb1 hN HS1
  go_enter Tryz.func21, Tryz.ntmps21
  go_wp2_with (at_builtin; refine app_emp18 rfl _ _ rfl [] 0 rfl _ rfl (w.heap.size + 1) HSS.out rfl aq cq qs m HM.out h1 rfl HN1.out (by omega) (by omega) ?_)
  intro a' c' w2 hr2 hb2
  have m2 := (hb2.block w.heap.size (by omega)).trans HR1.out
  obtain ⟨y0, y1, y2, y3, y4, y5, y6⟩ := op_cells18 m2
  have yf : ∀ x, w2.frozen? ⟨w.heap.size, x, none⟩ = false := fun x => by simp [World.frozen?, m2]
  have HM2 := hide m2
  have HR2 := hide hr2
  have HB2 := hide (bkp HB1.out (by rw [HSS.out]; exact hb2))
  clear m2 hr2 hb2
  go_wp2_with fail
  rw [c6_set18 w2 w.heap.size _ _ _ _ _ _ _ _ HM2.out rfl]
  refine bodyPost_ret (results_c rfl _ _ w.heap.size _ _ _ _ rfl (setRow_heap _ _ _ _ _ _ HM2.out) Tryz.underlying49 rfl (by exact infoO18)) rfl ?_
  refine ⟨a', c', rfl, ?_, Below.row HB2.out _ _ (Nat.le_refl _)⟩
  refine (HR2.out.base (by omega)).block (fun b cs fr hb => setRow_other _ _ _ _ (fun e => by
    rw [e, HM2.out] at hb
    simp at hb))
theorem infoU18 : (Tryz.prog.info? 42).map (fun i => (i.zero, i.size, i.bytes)) = some (some (.int .u64 0), 1, 8) := by kernel_rfl
theorem made_rep (z : Value) (n : Nat) : madeCells #[z] n = (List.replicate n z).toArray := by
  apply Array.ext'
  simp [madeCells, Nat.mod_one]
  exact List.map_const' .. |>.trans (by rw [List.length_range])
theorem dPlain (o : COp) (v : Value) (w : World) : Calls Tryz.prog 15 #[.agg #[.int .i64 o.kind, .int .i64 o.gate, v, .int .i64 o.bit, .int .i64 o.cond, .int .i64 o.whn]] w fun e w' => e = .returned (.bool (plP o)) /\ Below w.heap.size w w' := by
  have HB := hide (bnew w (.cells #[.int .i64 o.kind, .int .i64 o.gate, v, .int .i64 o.bit, .int .i64 o.cond, .int .i64 o.whn] 49))
  unfold plP
  obtain ⟨kind, gate, qs, bit, cond, whn⟩ := o
  simp only at *
  cases k1 : (kind == 1)
  . go_enter Tryz.func15, Tryz.ntmps15
    go_wp2_with fail
    go_ret
    exact ⟨rfl, HB.out⟩
  . go_enter Tryz.func15, Tryz.ntmps15
    go_wp2_with fail
    go_ret
    exact ⟨rfl, HB.out⟩
def Nu (w : World) (ao : Option Addr) (l : List Int) : Prop := l = [] ∨ ∃ g off, ao = some ⟨g, off, none⟩ /\ ∀ (j : Nat) z, l[j]? = some z -> w.cell? ⟨g, off + j, none⟩ = some (.int .u64 z)
theorem Nu.below {w w' : World} {ao : Option Addr} {l : List Int} (h : Nu w ao l) (hb : Below w.heap.size w w') : Nu w' ao l := by
  rcases h with h | ⟨g, off, e, h⟩
  . exact .inl h
  . exact .inr ⟨g, off, e, fun j z hj => (hb.cell (World.block_lt_of_cell? w _ (h j z hj))).trans (h j z hj)⟩
theorem wWords (a b : Option Addr) (ca cb : Nat) (l m : List Int) (hl : l.length <= 1000000000000000) (w : World) (hA : Nu w a l) (hB : Nu w b m) : Calls Tryz.prog 8 #[.slice a l.length ca, .slice b m.length cb] w fun e w' => e = .returned (.bool (decide (l = m))) /\ Below w.heap.size w w' := by
  by_cases hlm : l.length = m.length
  . have HA := hide hA
    have HB := hide hB
    obtain ⟨n, hn⟩ : ∃ n, l.length = n := ⟨_, rfl⟩
    have HL := hide hn
    have HM : Hid (m.length = n) := hide (by omega)
    obtain ⟨R, hR⟩ : ∃ R, decide (l = m) = R := ⟨_, rfl⟩
    have HR := hide hR
    rw [← hlm, hn, hR]
    rw [hn] at hl
    clear hA hB hn hlm hR
    go_enter Tryz.func8, Tryz.ntmps8
    go_wp2_with fail
    go_loopw [5] (fun vi wr => ∃ i : Nat, vi = .int .i64 (i : Int) /\ i <= n /\ Hid (l.take i = m.take i) /\ Below w.heap.size w wr) (fun vi _ => n - (Go.RowKit.intOf vi).toNat)
    case atStart => exact ⟨0, rfl, Nat.zero_le _, hide rfl, Below.refl _ _⟩
    case round =>
      obtain ⟨i, rfl, hi, HS, hb⟩ := hrel
      by_cases h : i < n
      . have hd : decide ((i : Int) < (n : Int)) = true := decide_eq_true (by omega)
        obtain ⟨x, hx⟩ : ∃ x, l[i]? = some x := ⟨_, List.getElem?_eq_getElem (by rw [HL.out]; exact h)⟩
        obtain ⟨y, hy⟩ : ∃ y, m[i]? = some y := ⟨_, List.getElem?_eq_getElem (by rw [HM.out]; exact h)⟩
        obtain ⟨g, off, rfl, hg⟩ := (HA.out.below hb).resolve_left (fun e => by rw [e] at hx; simp at hx)
        obtain ⟨g2, off2, rfl, hg2⟩ := (HB.out.below hb).resolve_left (fun e => by rw [e] at hy; simp at hy)
        have k1 := hg i x hx
        have k2 := hg2 i y hy
        by_cases hxy : x = y
        . subst hxy
          have HS2 := hide (take_eq_succ HS.out hx hy)
          clear hg hg2 hx hy HS
          go_wp2_with fail
          go_region
          go_wp2_with fail
          go_roundw
          case rel => exact ⟨i + 1, by go_num, by omega, HS2, hb.drew⟩
          case measure => simp [Go.RowKit.intOf]; omega
        . have e1 : (x != y) = true := by simpa using hxy
          have e2 : (x == y) = false := by simpa using hxy
          have HN : Hid (R = false) := hide (by
            rw [← HR.out]
            refine decide_eq_false fun e => ?_
            rw [e, hy] at hx
            cases hx
            exact hxy rfl)
          clear hg hg2 hx hy HS
          go_wp2_with fail
          go_region
          go_wp2_with fail
          go_ret
          exact ⟨by rw [HN.out]; rfl, hb.drew⟩
      . obtain rfl : n = i := by omega
        have HN : Hid (R = true) := hide (by
          rw [← HR.out]
          refine decide_eq_true (eq_of_take (by rw [HL.out, HM.out]) ?_)
          rw [HL.out]
          exact HS.out)
        clear HS
        go_wp2_with fail
        go_ret
        exact ⟨by rw [HN.out]; rfl, hb⟩
  . have e1 : ((l.length : Int) != (m.length : Int)) = true := by simp; omega
    have e2 : ((l.length : Int) == (m.length : Int)) = false := by simp; omega
    have hR : decide (l = m) = false := decide_eq_false fun e => hlm (by rw [e])
    rw [hR]
    generalize l.length = n at *
    generalize m.length = n2 at *
    clear hA hB
    go_enter Tryz.func8, Tryz.ntmps8
    go_wp2_with fail
    go_ret
    exact ⟨rfl, Below.refl _ _⟩
end Go.Proofs.YtjiopaojhenanaaGreatDoor.Rwt
