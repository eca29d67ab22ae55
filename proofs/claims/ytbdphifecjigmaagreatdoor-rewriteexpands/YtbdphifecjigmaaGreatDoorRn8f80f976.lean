import Derived.Test.YtbdphifecjigmaaGreatDoorRn9548f1f3
namespace Go.Proofs.YtbdphifecjigmaaGreatDoor.Cir
end Go.Proofs.YtbdphifecjigmaaGreatDoor.Cir
namespace Go.Proofs.YtbdphifecjigmaaGreatDoor.Gt
end Go.Proofs.YtbdphifecjigmaaGreatDoor.Gt
namespace Go.Proofs.YtbdphifecjigmaaGreatDoor.Oct
end Go.Proofs.YtbdphifecjigmaaGreatDoor.Oct
namespace Go.Proofs.YtbdphifecjigmaaGreatDoor.Tok
end Go.Proofs.YtbdphifecjigmaaGreatDoor.Tok
set_option maxRecDepth 100000
set_option maxHeartbeats 4000000
namespace Go.Proofs.YtbdphifecjigmaaGreatDoor.Rwt
open Go.RowKit Go.Shelf Go.Proofs.YtbdphifecjigmaaGreatDoor.Oct Go.Proofs.YtbdphifecjigmaaGreatDoor.Tok Go.Proofs.YtbdphifecjigmaaGreatDoor.Gt Go.Proofs.YtbdphifecjigmaaGreatDoor.Cir
theorem opC_one18 (p : COp) (v : Value) (h : v.oneCell' = true) : ∀ u ∈ opC (p, v), u.oneCell' = true := by
  intro u hu
  simp only [opC, List.mem_cons, List.not_mem_nil, or_false] at hu
  rcases hu with rfl | rfl | rfl | rfl | rfl | rfl
  all_goals first | rfl | exact h
theorem run_push18 {w : World} {B E0 n c : Nat} {ao : Option Addr} {l : List COp} (hO : OpsE w B E0 ao n c l) (hB : B <= E0) (hE : E0 <= w.heap.size) (p : COp) (v : Value) (hv : RowO w E0 v p.qs) (H : Nat) (hH : w.heap[H]? = some (.cells (opC (p, v)).toArray 40 (0, 0))) (hn : n <= 1000000000) (ty : TypeId) :
    ∃ g cap w', (Builtin.append_ #[22, 22] ty #[.slice ao n c, .slice (some ⟨H, 0, none⟩) 1 1]).run Tryz.prog w = .ok (.slice (some ⟨g, 0, none⟩) (n + 1) cap) w' /\ OpsOwn w' B (some ⟨g, 0, none⟩) (n + 1) cap (l ++ [p]) /\ w.grownBy w' (ob ao) := by
  obtain ⟨i0, hi, hz0, hz1, hz2⟩ := info_parts infoOp
  obtain ⟨xs, h1, h2, h3, h4, h5, h6⟩ := hO
  have hv1 : v.oneCell' = true := by
    obtain ⟨a, k, e, -⟩ := hv
    rw [e]
    rfl
  obtain ⟨v', w', hr, ho, hg, _, _⟩ := run_append_own_at (P := Tryz.prog) w B 22 ty 40 i0 _ 6 64 Tryz.underlying22 hi hz0 hz1 hz2 rfl (by decide) _ n _ h3 ⟨H, 0, none⟩ 1 1 (opC (p, v)) rfl (fun j u hu => by rw [Addr.add_lit, Nat.zero_add, cell_of_row _ _ _ _ _ _ hH]; simpa using hu) (opC_one18 p v hv1) (by unfold maxLen; omega) (by omega) (by omega)
  rw [ob_eq] at hg
  obtain ⟨g, cap, rfl⟩ : ∃ g cap, v' = .slice (some ⟨g, 0, none⟩) (n + 1) cap := by
    rcases ho.2 with ⟨e, e0⟩ | ⟨g', cap', cur', e, -⟩
    . omega
    . exact ⟨_, cap', e⟩
  refine ⟨g, cap, w', hr, OpsOwn.push h1 h2 h3 h4 h5 p v (hv.base hB) (fun x hx g1 e1 e2 => ?_) hg ho, hg⟩
  have q1 := h6 x hx g1 e1
  have q2 := (hv.lt e2).1
  omega
theorem step_push18 {ops : Array Oper} {o : Oper} {a : Act} {K : Act -> World -> Prop} {Q : Exit -> Act -> World -> Prop} {E : Prop} {w : World} (hgd : o.guard = none) (s x : Operand)
    (ho : o.op = .call { callee := .builtin .append, args := #[s, x], argTypes := #[22, 22] }) {B E0 n c : Nat} {ao : Option Addr} {l : List COp} (hO : OpsE w B E0 ao n c l) (hB : B <= E0) (hE : E0 <= w.heap.size) (p : COp) (v : Value) (hv : RowO w E0 v p.qs) (H : Nat) (hH : w.heap[H]? = some (.cells (opC (p, v)).toArray 40 (0, 0))) (hn : n <= 1000000000) (hs : a.eval s = .slice ao n c) (hx : a.eval x = .slice (some ⟨H, 0, none⟩) 1 1)
    (h : ∀ g cap w', OpsOwn w' B (some ⟨g, 0, none⟩) (n + 1) cap (l ++ [p]) -> w.grownBy w' (ob ao) -> K (a.put o.dst (.slice (some ⟨g, 0, none⟩) (n + 1) cap)) w') :
    if Region.wanted o (yielded ops a.tmps) = true then Oper.wp Tryz.prog o a w K Q else E := by
  have hw : Region.wanted o (yielded ops a.tmps) = true := by simp [Region.wanted, hgd]
  rw [if_pos hw]
  obtain ⟨g, cap, w', hr, h3, h4⟩ := run_push18 hO hB hE p v hv H hH hn o.type
  unfold Oper.wp execOp
  simp only [ho, resolve, invoke, builtin, Sem.run_bind, Sem.run_pure, Result.andThen_ok, List.map_toArray, List.map_cons, List.map_nil, hs, hx, hr]
  exact h g cap w' h3 h4
theorem pen_cells {w : World} {g : Nat} {x0 x1 x2 x3 x4 x5 x6 : Value} {t : TypeId} (h : w.heap[g]? = some (.cells #[x0, x1, x2, x3, x4, x5, x6] t (0, 0))) : w.cell? ⟨g, 0, none⟩ = some x0 /\ w.cell? ⟨g, 1, none⟩ = some x1 /\ w.cell? ⟨g, 2, none⟩ = some x2 /\ w.cell? ⟨g, 3, none⟩ = some x3 /\ w.cell? ⟨g, 4, none⟩ = some x4 /\ w.cell? ⟨g, 5, none⟩ = some x5 /\ w.cell? ⟨g, 6, none⟩ = some x6 /\ g < w.heap.size :=
  ⟨cell_of_row _ _ 0 _ _ _ h, cell_of_row _ _ 1 _ _ _ h, cell_of_row _ _ 2 _ _ _ h, cell_of_row _ _ 3 _ _ _ h, cell_of_row _ _ 4 _ _ _ h, cell_of_row _ _ 5 _ _ _ h, cell_of_row _ _ 6 _ _ _ h, (Array.getElem?_eq_some_iff.1 h).1⟩
theorem op_cells18 {w : World} {g : Nat} {x0 x1 x2 x3 x4 x5 : Value} {t : TypeId} (h : w.heap[g]? = some (.cells #[x0, x1, x2, x3, x4, x5] t (0, 0))) : w.cell? ⟨g, 0, none⟩ = some x0 /\ w.cell? ⟨g, 1, none⟩ = some x1 /\ w.cell? ⟨g, 2, none⟩ = some x2 /\ w.cell? ⟨g, 3, none⟩ = some x3 /\ w.cell? ⟨g, 4, none⟩ = some x4 /\ w.cell? ⟨g, 5, none⟩ = some x5 /\ g < w.heap.size :=
  ⟨cell_of_row _ _ 0 _ _ _ h, cell_of_row _ _ 1 _ _ _ h, cell_of_row _ _ 2 _ _ _ h, cell_of_row _ _ 3 _ _ _ h, cell_of_row _ _ 4 _ _ _ h, cell_of_row _ _ 5 _ _ _ h, (Array.getElem?_eq_some_iff.1 h).1⟩
structure Pen (V : World) (B g : Nat) (lk : COp) (lv : Value) (ao : Option Addr) (n c : Nat) (l : List COp) : Prop where
  hd : V.heap[g]? = some (.cells #[.int .i64 lk.kind, .int .i64 lk.gate, lv, .int .i64 lk.bit, .int .i64 lk.cond, .int .i64 lk.whn, .slice ao n c] 44 (0, 0))
  bg : B <= g
  ops : OpsOwn V B ao n c l
  vs : B <= V.heap.size
theorem Pen.below {V V' : World} {B g : Nat} {lk : COp} {lv : Value} {ao : Option Addr} {n c : Nat} {l : List COp} (h : Pen V B g lk lv ao n c l) (hb : Below V.heap.size V V') : Pen V' B g lk lv ao n c l :=
  ⟨(hb.block g (Array.getElem?_eq_some_iff.1 h.hd).1).trans h.hd, h.bg, h.ops.below hb, Nat.le_trans h.vs hb.size⟩
theorem own_len18 {V : World} {B : Nat} {ao : Option Addr} {n c : Nat} {l : List COp} (h : OpsOwn V B ao n c l) : n = l.length := h.at.len
theorem rWrite {V : World} {B g : Nat} {lk : COp} {lv : Value} {ao : Option Addr} {n c : Nat} {l : List COp} (h : Pen V B g lk lv ao n c l) (hlv : ∃ al nl cl, lv = .slice al nl cl) (k : Int) (aq : Option Addr) (cq : Nat) (qs : List Int) (hq : qs.length <= 1000) (hN : Ns V aq qs) (hn : n <= 100000) :
    Calls Tryz.prog 28 #[.pointer (some ⟨g, 0, none⟩), .int .i64 k, .slice aq qs.length cq] V fun e w' => e = .returned (.tuple #[]) /\ (∃ ao' c', Pen w' B g lk lv ao' (n + 1) c' (l ++ [⟨lk.kind, k, qs, lk.bit, lk.cond, lk.whn⟩])) /\ Below B V w' := by
  obtain ⟨al, nl, cl, rfl⟩ := hlv
  obtain ⟨kind, gate, lqs, bit, cond, whn⟩ := lk
  have hhd := h.hd
  simp only at hhd
  obtain ⟨x0, x1, x2, x3, x4, x5, x6, hgl⟩ := pen_cells hhd
  have hb1 := bnew V (.cells #[.int .i64 kind, .int .i64 gate, .slice al nl cl, .int .i64 bit, .int .i64 cond, .int .i64 whn] 40)
  have c1 := sCloneO aq cq qs (by omega) (V.alloc (.cells #[.int .i64 kind, .int .i64 gate, .slice al nl cl, .int .i64 bit, .int .i64 cond, .int .i64 whn] 40)) (hN.below hb1)
  have HB1 := hide hb1
  have HOP1 : Hid ((V.alloc (.cells #[.int .i64 kind, .int .i64 gate, .slice al nl cl, .int .i64 bit, .int .i64 cond, .int .i64 whn] 40)).heap[V.heap.size]? = some (.cells #[.int .i64 kind, .int .i64 gate, .slice al nl cl, .int .i64 bit, .int .i64 cond, .int .i64 whn] 40 (0, 0))) := hide (heap_alloc_new _ _)
  have HS1 : Hid ((V.alloc (.cells #[.int .i64 kind, .int .i64 gate, .slice al nl cl, .int .i64 bit, .int .i64 cond, .int .i64 whn] 40)).heap.size = V.heap.size + 1) := hide (by simp)
  have HP := hide h
  obtain ⟨m, hm⟩ : ∃ m, qs.length = m := ⟨_, rfl⟩
  have HM := hide hm
  rw [hm] at c1 hq ⊢
  clear hm h hb1 hN
  go_enter Tryz.func28, Tryz.ntmps28
  go_wp2_with fail
  refine c1.mono ?_
  rintro e w2 ⟨a2, c2, rfl, hR2, hb2⟩
  have m2 : w2.heap[V.heap.size]? = some (.cells #[.int .i64 kind, .int .i64 gate, .slice al nl cl, .int .i64 bit, .int .i64 cond, .int .i64 whn] 40 (0, 0)) := (hb2.block _ (by rw [HS1.out]; omega)).trans HOP1.out
  obtain ⟨y0, y1, y2, y3, y4, y5, y6⟩ := op_cells18 m2
  have yf : ∀ x, w2.frozen? ⟨V.heap.size, x, none⟩ = false := fun x => by simp [World.frozen?, m2]
  have HM2 := hide m2
  have HR2 := hide hR2
  have HB2 := hide (bkp HB1.out hb2)
  have hs2 : V.heap.size + 1 <= w2.heap.size := by have := hb2.size; have := HS1.out; omega
  clear m2 hR2 hb2 c1
  go_wp2_with fail
  have e2 : (w2.setCell ⟨V.heap.size, 1, none⟩ (.int .i64 k)).setCell ⟨V.heap.size, 2, none⟩ (.slice a2 m c2) = w2.setRow V.heap.size #[.int .i64 kind, .int .i64 k, .slice a2 m c2, .int .i64 bit, .int .i64 cond, .int .i64 whn] := by
    rw [setCell_eq_setRow _ _ 1 _ _ _ _ HM2.out, setCell_eq_setRow _ _ 2 _ _ _ _ (setRow_heap _ _ _ _ _ _ HM2.out), setRow_setRow]
    rfl
  rw [e2]
  have HXb : Hid (Below V.heap.size V (w2.setRow V.heap.size #[.int .i64 kind, .int .i64 k, .slice a2 m c2, .int .i64 bit, .int .i64 cond, .int .i64 whn])) := hide (Below.row HB2.out _ _ (Nat.le_refl _))
  have HXo : Hid ((w2.setRow V.heap.size #[.int .i64 kind, .int .i64 k, .slice a2 m c2, .int .i64 bit, .int .i64 cond, .int .i64 whn]).heap[V.heap.size]? = some (.cells #[.int .i64 kind, .int .i64 k, .slice a2 m c2, .int .i64 bit, .int .i64 cond, .int .i64 whn] 40 (0, 0))) := hide (setRow_heap _ _ _ _ _ _ HM2.out)
  have HXr : Hid (RowO (w2.setRow V.heap.size #[.int .i64 kind, .int .i64 k, .slice a2 m c2, .int .i64 bit, .int .i64 cond, .int .i64 whn]) V.heap.size (.slice a2 m c2) qs) := hide ((HR2.out.base (by rw [HS1.out]; omega)).block (fun b cs fr hb => setRow_other _ _ _ _ (fun e => by
    rw [e, HM2.out] at hb
    simp at hb)))
  have hXs : V.heap.size + 1 <= (w2.setRow V.heap.size #[.int .i64 kind, .int .i64 k, .slice a2 m c2, .int .i64 bit, .int .i64 cond, .int .i64 whn]).heap.size := by rw [setRow_size]; exact hs2
  clear e2 HM2 HR2 HB2 hs2 y0 y1 y2 y3 y4 y5 y6 yf x0 x1 x2 x3 x4 x5 x6 HOP1 HS1 HB1
  generalize w2.setRow V.heap.size #[.int .i64 kind, .int .i64 k, .slice a2 m c2, .int .i64 bit, .int .i64 cond, .int .i64 whn] = X at *
  have HXp : Hid (X.heap[g]? = some (.cells #[.int .i64 kind, .int .i64 gate, .slice al nl cl, .int .i64 bit, .int .i64 cond, .int .i64 whn, .slice ao n c] 44 (0, 0))) := hide ((HXb.out.block g hgl).trans hhd)
  have HSX : Hid ((fun X : World => X.heap[g]? = some (.cells #[.int .i64 kind, .int .i64 gate, .slice al nl cl, .int .i64 bit, .int .i64 cond, .int .i64 whn, .slice ao n c] 44 (0, 0)) /\ X.heap[V.heap.size]? = some (.cells #[.int .i64 kind, .int .i64 k, .slice a2 m c2, .int .i64 bit, .int .i64 cond, .int .i64 whn] 40 (0, 0))) X.drew) := hide ⟨HXp.out, HXo.out⟩
  have hba : Below X.heap.size X (X.drew.alloc (.cells #[.int .i64 kind, .int .i64 k, .slice a2 m c2, .int .i64 bit, .int .i64 cond, .int .i64 whn] 40)) := (bnew X (.cells #[.int .i64 kind, .int .i64 k, .slice a2 m c2, .int .i64 bit, .int .i64 cond, .int .i64 whn] 40)).drew
  have HS6 : Hid ((fun X : World => X.heap[g]? = some (.cells #[.int .i64 kind, .int .i64 gate, .slice al nl cl, .int .i64 bit, .int .i64 cond, .int .i64 whn, .slice ao n c] 44 (0, 0)) /\ X.heap[V.heap.size]? = some (.cells #[.int .i64 kind, .int .i64 k, .slice a2 m c2, .int .i64 bit, .int .i64 cond, .int .i64 whn] 40 (0, 0))) (X.drew.alloc (.cells #[.int .i64 kind, .int .i64 k, .slice a2 m c2, .int .i64 bit, .int .i64 cond, .int .i64 whn] 40))) := hide ⟨(hba.block g (Array.getElem?_eq_some_iff.1 HXp.out).1).trans HXp.out, (hba.block V.heap.size (Array.getElem?_eq_some_iff.1 HXo.out).1).trans HXo.out⟩
  have HOE : Hid (OpsE (X.drew.alloc (.cells #[.int .i64 kind, .int .i64 k, .slice a2 m c2, .int .i64 bit, .int .i64 cond, .int .i64 whn] 40)) B V.heap.size ao n c l) := hide ((HP.out.ops.upto.below HXb.out).below hba)
  have HBE : Hid (B <= V.heap.size) := hide HP.out.vs
  have HEX : Hid (V.heap.size <= (X.drew.alloc (.cells #[.int .i64 kind, .int .i64 k, .slice a2 m c2, .int .i64 bit, .int .i64 cond, .int .i64 whn] 40)).heap.size) := hide (by have h1 : (X.drew.alloc (.cells #[.int .i64 kind, .int .i64 k, .slice a2 m c2, .int .i64 bit, .int .i64 cond, .int .i64 whn] 40)).heap.size = X.heap.size + 1 := Array.size_push _; omega)
  have HRX : Hid (RowO (X.drew.alloc (.cells #[.int .i64 kind, .int .i64 k, .slice a2 m c2, .int .i64 bit, .int .i64 cond, .int .i64 whn] 40)) V.heap.size (.slice a2 m c2) (⟨kind, k, qs, bit, cond, whn⟩ : COp).qs) := hide (HXr.out.below hba)
  have HHX : Hid ((X.drew.alloc (.cells #[.int .i64 kind, .int .i64 k, .slice a2 m c2, .int .i64 bit, .int .i64 cond, .int .i64 whn] 40)).heap[X.heap.size]? = some (.cells (opC ((⟨kind, k, qs, bit, cond, whn⟩ : COp), Value.slice a2 m c2)).toArray 40 (0, 0))) := hide (heap_alloc_new X _)
  have HST : Hid (∀ g6 c6 w6, OpsOwn w6 B (some ⟨g6, 0, none⟩) (n + 1) c6 (l ++ [⟨kind, k, qs, bit, cond, whn⟩]) -> (X.drew.alloc (.cells #[.int .i64 kind, .int .i64 k, .slice a2 m c2, .int .i64 bit, .int .i64 cond, .int .i64 whn] 40)).grownBy w6 (ob ao) -> (fun X : World => X.heap[g]? = some (.cells #[.int .i64 kind, .int .i64 gate, .slice al nl cl, .int .i64 bit, .int .i64 cond, .int .i64 whn, .slice ao n c] 44 (0, 0)) /\ X.heap[V.heap.size]? = some (.cells #[.int .i64 kind, .int .i64 k, .slice a2 m c2, .int .i64 bit, .int .i64 cond, .int .i64 whn] 40 (0, 0))) w6 /\ ∃ ao' c', Pen (w6.setRow g #[.int .i64 kind, .int .i64 gate, .slice al nl cl, .int .i64 bit, .int .i64 cond, .int .i64 whn, .slice (some ⟨g6, 0, none⟩) (n + 1) c6]) B g ⟨kind, gate, lqs, bit, cond, whn⟩ (.slice al nl cl) ao' (n + 1) c' (l ++ [⟨kind, k, qs, bit, cond, whn⟩]) /\ Below B V (w6.setRow g #[.int .i64 kind, .int .i64 gate, .slice al nl cl, .int .i64 bit, .int .i64 cond, .int .i64 whn, .slice (some ⟨g6, 0, none⟩) (n + 1) c6])) := hide (fun g6 c6 w6 hown hgr => by
    have hob : ∀ x, ob ao = some x -> B <= x /\ x < V.heap.size := fun x hx => by
      obtain ⟨xs, -, -, h3, -, -⟩ := HP.out.ops
      exact own_lt h3 x hx
    have kp := (hgr.block g (Array.getElem?_eq_some_iff.1 HS6.out.1).1 (fun e => by
      obtain ⟨xs, -, -, h3, -, -⟩ := HP.out.ops
      exact own_ne h3 hhd (by decide) e.symm)).trans HS6.out.1
    have ko := (hgr.block V.heap.size (Array.getElem?_eq_some_iff.1 HS6.out.2).1 (fun e => by have := (hob _ e.symm).2; omega)).trans HS6.out.2
    have hbB : Below B V (X.drew.alloc (.cells #[.int .i64 kind, .int .i64 k, .slice a2 m c2, .int .i64 bit, .int .i64 cond, .int .i64 whn] 40)) := (HXb.out.mono HP.out.vs).trans (hba.mono (Nat.le_trans HP.out.vs HXb.out.size))
    have hb6 : Below B V w6 := hbB.grown hgr (by have h1 : (X.drew.alloc (.cells #[.int .i64 kind, .int .i64 k, .slice a2 m c2, .int .i64 bit, .int .i64 cond, .int .i64 whn] 40)).heap.size = X.heap.size + 1 := Array.size_push _; have := HXb.out.size; have := HP.out.vs; omega) (fun x hx => (hob x hx).1)
    refine ⟨⟨kp, ko⟩, some ⟨g6, 0, none⟩, c6, ⟨setRow_heap _ _ _ _ _ _ kp, HP.out.bg, hown.row kp (by decide) (by decide) _, ?_⟩, Below.row hb6 _ _ HP.out.bg⟩
    rw [setRow_size]
    exact Nat.le_trans HP.out.vs hb6.size)
  clear hba hhd
  refine region_front (S := (fun X : World => X.heap[g]? = some (.cells #[.int .i64 kind, .int .i64 gate, .slice al nl cl, .int .i64 bit, .int .i64 cond, .int .i64 whn, .slice ao n c] 44 (0, 0)) /\ X.heap[V.heap.size]? = some (.cells #[.int .i64 kind, .int .i64 k, .slice a2 m c2, .int .i64 bit, .int .i64 cond, .int .i64 whn] 40 (0, 0)))) (by kernel_rfl) 10 (by kernel_rfl) HSX.out (fun hHeld => ?_)
  simp only [List.take_succ_cons, List.take_zero]
  refine take_to (i := 0) (d := 16) (v := ?_) rfl rfl (by kernel_rfl) (by kernel_rfl) (by kernel_rfl) (fun _ _ _ h => h) (Or.inl ⟨by rfl, ?_⟩) (by assumption) ?_
  rotate_left 1
  . intro W hSw
    obtain ⟨hc1, hc2⟩ := hSw
    obtain ⟨s0, s1, s2, s3, s4, s5, s6, s7⟩ := pen_cells hc1
    obtain ⟨t0, t1, t2, t3, t4, t5, t6⟩ := op_cells18 hc2
    go_simp
    with_reducible rfl
  simp only [Act.put, List.setIfInBounds_toArray, List.set_cons_zero, List.set_cons_succ]
  refine take_to (i := 1) (d := 17) (v := ?_) rfl rfl (by kernel_rfl) (by kernel_rfl) (by kernel_rfl) (fun _ _ _ h => h) (Or.inl ⟨by rfl, ?_⟩) (by assumption) ?_
  rotate_left 1
  . intro W hSw
    obtain ⟨hc1, hc2⟩ := hSw
    obtain ⟨s0, s1, s2, s3, s4, s5, s6, s7⟩ := pen_cells hc1
    obtain ⟨t0, t1, t2, t3, t4, t5, t6⟩ := op_cells18 hc2
    go_simp
    with_reducible rfl
  simp only [Act.put, List.setIfInBounds_toArray, List.set_cons_zero, List.set_cons_succ]
  refine take_to (i := 2) (d := 18) (v := ?_) rfl rfl (by kernel_rfl) (by kernel_rfl) (by kernel_rfl) (fun _ _ _ h => h) (Or.inl ⟨by rfl, ?_⟩) (by assumption) ?_
  rotate_left 1
  . intro W hSw
    obtain ⟨hc1, hc2⟩ := hSw
    obtain ⟨s0, s1, s2, s3, s4, s5, s6, s7⟩ := pen_cells hc1
    obtain ⟨t0, t1, t2, t3, t4, t5, t6⟩ := op_cells18 hc2
    go_simp
    with_reducible rfl
  simp only [Act.put, List.setIfInBounds_toArray, List.set_cons_zero, List.set_cons_succ]
  refine take_to (i := 3) (d := 19) (v := ?_) rfl rfl (by kernel_rfl) (by kernel_rfl) (by kernel_rfl) (fun _ _ _ h => h) (Or.inl ⟨by rfl, ?_⟩) (by assumption) ?_
  rotate_left 1
  . intro W hSw
    obtain ⟨hc1, hc2⟩ := hSw
    obtain ⟨s0, s1, s2, s3, s4, s5, s6, s7⟩ := pen_cells hc1
    obtain ⟨t0, t1, t2, t3, t4, t5, t6⟩ := op_cells18 hc2
    go_simp
    with_reducible rfl
  simp only [Act.put, List.setIfInBounds_toArray, List.set_cons_zero, List.set_cons_succ]
  refine take_to (i := 4) (d := 20) (v := ?_) rfl rfl (by kernel_rfl) (by kernel_rfl) (by kernel_rfl) (fun _ _ _ h => h) (Or.inl ⟨by rfl, ?_⟩) (by assumption) ?_
  rotate_left 1
  . intro W hSw
    obtain ⟨hc1, hc2⟩ := hSw
    obtain ⟨s0, s1, s2, s3, s4, s5, s6, s7⟩ := pen_cells hc1
    obtain ⟨t0, t1, t2, t3, t4, t5, t6⟩ := op_cells18 hc2
    go_simp
    with_reducible rfl
  simp only [Act.put, List.setIfInBounds_toArray, List.set_cons_zero, List.set_cons_succ]
  refine take_to (i := 5) (d := 21) (v := ?_) rfl rfl (by kernel_rfl) (by kernel_rfl) (by kernel_rfl) (fun _ _ _ h => h) (Or.inl ⟨by rfl, ?_⟩) (by assumption) ?_
  rotate_left 1
  . intro W hSw
    obtain ⟨hc1, hc2⟩ := hSw
    obtain ⟨s0, s1, s2, s3, s4, s5, s6, s7⟩ := pen_cells hc1
    obtain ⟨t0, t1, t2, t3, t4, t5, t6⟩ := op_cells18 hc2
    go_simp
    with_reducible rfl
  simp only [Act.put, List.setIfInBounds_toArray, List.set_cons_zero, List.set_cons_succ]
  refine wpAnyH_ready (rs := [6]) (by kernel_rfl) (by simp) ?_
  refine AllReadyH.cons (o := { dst := some 22, op := Op.buildSlice 22 1 #[(0, Operand.tmp 21)], type := 22, pos := "expand.go:35", after := #[{ on := 5, ground := Ground.data }], guard := none }) rfl (fun K hK => ?_) AllReadyH.nil
  go_simp
  refine hK.out _ _ (show (fun X : World => X.heap[g]? = some (.cells #[.int .i64 kind, .int .i64 gate, .slice al nl cl, .int .i64 bit, .int .i64 cond, .int .i64 whn, .slice ao n c] 44 (0, 0)) /\ X.heap[V.heap.size]? = some (.cells #[.int .i64 kind, .int .i64 k, .slice a2 m c2, .int .i64 bit, .int .i64 cond, .int .i64 whn] 40 (0, 0))) (X.drew.alloc (.cells #[.int .i64 kind, .int .i64 k, .slice a2 m c2, .int .i64 bit, .int .i64 cond, .int .i64 whn] 40)) from HS6.out) (fun hHeld => ?_)
  clear hK K
  try simp only [Act.put, List.setIfInBounds_toArray, List.set_cons_zero, List.set_cons_succ]
  refine wpAnyH_ready (rs := [7]) (by kernel_rfl) (by simp) ?_
  refine AllReadyH.cons (o := { dst := some 23, op := Op.call { callee := Callee.builtin Builtin.append, args := #[Operand.tmp 20, Operand.tmp 22], argTypes := #[22, 22] }, type := 22, pos := "expand.go:35", after := #[{ on := 4, ground := Ground.data }, { on := 6, ground := Ground.data }], guard := none }) rfl (fun K hK => ?_) AllReadyH.nil
  refine step_push18 rfl (.tmp 20) (.tmp 22) rfl HOE.out HBE.out HEX.out ⟨kind, k, qs, bit, cond, whn⟩ (.slice a2 m c2) HRX.out X.heap.size HHX.out (by omega) (by rfl) (by rfl) ?_
  intro g6 c6 w6 hown6 hg6
  obtain ⟨hS7, hF6⟩ := HST.out g6 c6 w6 hown6 ⟨hg6.os, hg6.tape, hg6.output, hg6.size, hg6.block⟩
  refine hK.out _ _ (show (fun X : World => X.heap[g]? = some (.cells #[.int .i64 kind, .int .i64 gate, .slice al nl cl, .int .i64 bit, .int .i64 cond, .int .i64 whn, .slice ao n c] 44 (0, 0)) /\ X.heap[V.heap.size]? = some (.cells #[.int .i64 kind, .int .i64 k, .slice a2 m c2, .int .i64 bit, .int .i64 cond, .int .i64 whn] 40 (0, 0))) w6 from hS7) (fun hHeld => ?_)
  clear hK K
  try simp only [Act.put, List.setIfInBounds_toArray, List.set_cons_zero, List.set_cons_succ]
  refine take_to (i := 8) (d := 24) (v := ?_) rfl rfl (by kernel_rfl) (by kernel_rfl) (by kernel_rfl) (fun _ _ _ h => h) (Or.inl ⟨by rfl, ?_⟩) (by assumption) ?_
  rotate_left 1
  . intro W hSw
    obtain ⟨hc1, hc2⟩ := hSw
    obtain ⟨s0, s1, s2, s3, s4, s5, s6, s7⟩ := pen_cells hc1
    obtain ⟨t0, t1, t2, t3, t4, t5, t6⟩ := op_cells18 hc2
    go_simp
    with_reducible rfl
  simp only [Act.put, List.setIfInBounds_toArray, List.set_cons_zero, List.set_cons_succ]
  refine take_to (i := 9) (d := 25) (v := ?_) rfl rfl (by kernel_rfl) (by kernel_rfl) (by kernel_rfl) (fun _ _ _ h => h) (Or.inl ⟨by rfl, ?_⟩) (by assumption) ?_
  rotate_left 1
  . intro W hSw
    obtain ⟨hc1, hc2⟩ := hSw
    obtain ⟨s0, s1, s2, s3, s4, s5, s6, s7⟩ := pen_cells hc1
    obtain ⟨t0, t1, t2, t3, t4, t5, t6⟩ := op_cells18 hc2
    go_simp
    with_reducible rfl
  simp only [Act.put, List.setIfInBounds_toArray, List.set_cons_zero, List.set_cons_succ]
  refine wpAnyH_done (by kernel_rfl) ?_ _
  refine ql_last (o := { dst := none, op := Op.store 22 (Operand.tmp 25) (Operand.tmp 23), type := 0, pos := "expand.go:35", after := #[{ on := 9, ground := Ground.data }, { on := 7, ground := Ground.data }, { on := 7, ground := Ground.chain }, { on := 0, ground := Ground.phase }, { on := 1, ground := Ground.phase }, { on := 2, ground := Ground.phase }, { on := 3, ground := Ground.phase }, { on := 4, ground := Ground.phase }, { on := 5, ground := Ground.phase }, { on := 6, ground := Ground.phase }, { on := 7, ground := Ground.phase }], guard := none }) rfl (fun K hK => ?_)
  have HF6 := hide hF6
  obtain ⟨d6, -⟩ := hS7
  obtain ⟨v0, v1, v2, v3, v4, v5, v6, v7⟩ := pen_cells d6
  have vf : ∀ x, w6.frozen? ⟨g, x, none⟩ = false := fun x => by simp [World.frozen?, d6]
  have e6 : w6.setCell ⟨g, 6, none⟩ (.slice (some ⟨g6, 0, none⟩) (n + 1) c6) = w6.setRow g #[.int .i64 kind, .int .i64 gate, .slice al nl cl, .int .i64 bit, .int .i64 cond, .int .i64 whn, .slice (some ⟨g6, 0, none⟩) (n + 1) c6] := by
    rw [setCell_eq_setRow _ _ 6 _ _ _ _ d6]
    rfl
  have HE6 := hide e6
  clear hF6 d6 e6 hown6 hg6 hHeld
  go_simp
  refine hK.out _ _ ?_
  clear hK K
  rw [HE6.out]
  go_wp2_with fail
  go_end0
  obtain ⟨ao', c', q1, q2⟩ := HF6.out
  exact ⟨rfl, ⟨ao', c', q1⟩, q2⟩
end Go.Proofs.YtbdphifecjigmaaGreatDoor.Rwt
