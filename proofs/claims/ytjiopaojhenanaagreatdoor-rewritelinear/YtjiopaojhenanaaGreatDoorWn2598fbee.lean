import Derived.Test.YtjiopaojhenanaaGreatDoorWneb0ee330
namespace Go.Proofs.YtjiopaojhenanaaGreatDoor.Cir
end Go.Proofs.YtjiopaojhenanaaGreatDoor.Cir
namespace Go.Proofs.YtjiopaojhenanaaGreatDoor.Gt
end Go.Proofs.YtjiopaojhenanaaGreatDoor.Gt
namespace Go.Proofs.YtjiopaojhenanaaGreatDoor.Oct
end Go.Proofs.YtjiopaojhenanaaGreatDoor.Oct
namespace Go.Proofs.YtjiopaojhenanaaGreatDoor.Tok
end Go.Proofs.YtjiopaojhenanaaGreatDoor.Tok
set_option maxRecDepth 100000
set_option maxHeartbeats 4000000
namespace Go.Proofs.YtjiopaojhenanaaGreatDoor.Rwt
open Go.RowKit Go.Shelf Go.Proofs.YtjiopaojhenanaaGreatDoor.Oct Go.Proofs.YtjiopaojhenanaaGreatDoor.Tok Go.Proofs.YtjiopaojhenanaaGreatDoor.Gt Go.Proofs.YtjiopaojhenanaaGreatDoor.Cir
theorem sol_cells {w : World} {g : Nat} {x0 x1 x2 x3 x4 x5 x6 x7 : Value} {t : TypeId} (h : w.heap[g]? = some (.cells #[x0, x1, x2, x3, x4, x5, x6, x7] t (0, 0))) : w.cell? ⟨g, 0, none⟩ = some x0 /\ w.cell? ⟨g, 1, none⟩ = some x1 /\ w.cell? ⟨g, 2, none⟩ = some x2 /\ w.cell? ⟨g, 3, none⟩ = some x3 /\ w.cell? ⟨g, 4, none⟩ = some x4 /\ w.cell? ⟨g, 5, none⟩ = some x5 /\ w.cell? ⟨g, 6, none⟩ = some x6 /\ w.cell? ⟨g, 7, none⟩ = some x7 /\ g < w.heap.size :=
  ⟨cell_of_row _ _ 0 _ _ _ h, cell_of_row _ _ 1 _ _ _ h, cell_of_row _ _ 2 _ _ _ h, cell_of_row _ _ 3 _ _ _ h, cell_of_row _ _ 4 _ _ _ h, cell_of_row _ _ 5 _ _ _ h, cell_of_row _ _ 6 _ _ _ h, cell_of_row _ _ 7 _ _ _ h, (Array.getElem?_eq_some_iff.1 h).1⟩
def KpS (V W : World) : Prop := ∀ (b : Nat) (cs : Array Value) (t : TypeId) (fr : Nat × Nat), V.heap[b]? = some (.cells cs t fr) -> t ≠ 59 -> t ≠ 49 -> W.heap[b]? = V.heap[b]?
structure Sol (V : World) (B g : Nat) (lk : COp) (lv rv : Value) (ao : Option Addr) (n c : Nat) (l : List COp) : Prop where
  hd : V.heap[g]? = some (.cells #[.int .i64 lk.kind, .int .i64 lk.gate, lv, .int .i64 lk.bit, .int .i64 lk.cond, .int .i64 lk.whn, .slice ao n c, rv] 59 (0, 0))
  bg : B <= g
  ops : OpsOwn V B ao n c l
  vs : B <= V.heap.size
theorem Sol.below {V V' : World} {B g : Nat} {lk : COp} {lv rv : Value} {ao : Option Addr} {n c : Nat} {l : List COp} (h : Sol V B g lk lv rv ao n c l) (hb : Below V.heap.size V V') : Sol V' B g lk lv rv ao n c l :=
  ⟨(hb.block g (Array.getElem?_eq_some_iff.1 h.hd).1).trans h.hd, h.bg, h.ops.below hb, Nat.le_trans h.vs hb.size⟩
theorem rWriteS {V : World} {B g : Nat} {lk : COp} {lv rv : Value} {ao : Option Addr} {n c : Nat} {l : List COp} (h : Sol V B g lk lv rv ao n c l) (hlv : ∃ al nl cl, lv = .slice al nl cl) (k : Int) (aq : Option Addr) (cq : Nat) (qs : List Int) (hq : qs.length <= 1000) (hN : Ns V aq qs) (hn : n <= 100000) :
    Calls Tryz.prog 64 #[.pointer (some ⟨g, 0, none⟩), .int .i64 k, .slice aq qs.length cq] V fun e w' => e = .returned (.tuple #[]) /\ (∃ ao' c', Sol w' B g lk lv rv ao' (n + 1) c' (l ++ [⟨lk.kind, k, qs, lk.bit, lk.cond, lk.whn⟩])) /\ Below B V w' /\ KpS V w' := by
  obtain ⟨al, nl, cl, rfl⟩ := hlv
  obtain ⟨kind, gate, lqs, bit, cond, whn⟩ := lk
  have hhd := h.hd
  simp only at hhd
  obtain ⟨x0, x1, x2, x3, x4, x5, x6, x7, hgl⟩ := sol_cells hhd
  have hb1 := bnew V (.cells #[.int .i64 kind, .int .i64 gate, .slice al nl cl, .int .i64 bit, .int .i64 cond, .int .i64 whn] 49)
  have c1 := sCloneO aq cq qs (by omega) (V.alloc (.cells #[.int .i64 kind, .int .i64 gate, .slice al nl cl, .int .i64 bit, .int .i64 cond, .int .i64 whn] 49)) (hN.below hb1)
  have HB1 := hide hb1
  have HOP1 : Hid ((V.alloc (.cells #[.int .i64 kind, .int .i64 gate, .slice al nl cl, .int .i64 bit, .int .i64 cond, .int .i64 whn] 49)).heap[V.heap.size]? = some (.cells #[.int .i64 kind, .int .i64 gate, .slice al nl cl, .int .i64 bit, .int .i64 cond, .int .i64 whn] 49 (0, 0))) := hide (heap_alloc_new _ _)
  have HS1 : Hid ((V.alloc (.cells #[.int .i64 kind, .int .i64 gate, .slice al nl cl, .int .i64 bit, .int .i64 cond, .int .i64 whn] 49)).heap.size = V.heap.size + 1) := hide (by simp)
  have HP := hide h
  obtain ⟨m, hm⟩ : ∃ m, qs.length = m := ⟨_, rfl⟩
  have HM := hide hm
  rw [hm] at c1 hq ⊢
  clear hm h hb1 hN
  go_enter Tryz.func64, Tryz.ntmps64
  go_wp2_with fail
  refine c1.mono ?_
  rintro e w2 ⟨a2, c2, rfl, hR2, hb2⟩
  have m2 : w2.heap[V.heap.size]? = some (.cells #[.int .i64 kind, .int .i64 gate, .slice al nl cl, .int .i64 bit, .int .i64 cond, .int .i64 whn] 49 (0, 0)) := (hb2.block _ (by rw [HS1.out]; omega)).trans HOP1.out
  obtain ⟨y0, y1, y2, y3, y4, y5, y6⟩ := op_cells18 m2
  have yf : ∀ x, w2.frozen? ⟨V.heap.size, x, none⟩ = false := fun x => by simp [World.frozen?, m2]
  have HM2 := hide m2
  have HR2 := hide hR2
  have HB2 := hide (bkp HB1.out hb2)
  have hs2 : V.heap.size + 1 <= w2.heap.size := by have := hb2.size; have := HS1.out; omega
  clear m2 hR2 hb2 c1
  go_wp2_with fail
  have e2 : (w2.setCell ⟨V.heap.size, 1, none⟩ (.int .i64 k)).setCell ⟨V.heap.size, 2, none⟩ (.slice a2 m c2) = w2.setRow V.heap.size #[.int .i64 kind, .int .i64 k, .slice a2 m c2, .int .i64 bit, .int .i64 cond, .int .i64 whn] := by
    rw [setCell_eq_setRow _ _ 1 _ _ _ _ HM2.out, setCell_eq_setRow _ _ 2 _ _ _ _ (setRow_heap _ _ _ _ _ _ HM2.out), setRow_setRow]
    rfl
  rw [e2]
  have HXb : Hid (Below V.heap.size V (w2.setRow V.heap.size #[.int .i64 kind, .int .i64 k, .slice a2 m c2, .int .i64 bit, .int .i64 cond, .int .i64 whn])) := hide (Below.row HB2.out _ _ (Nat.le_refl _))
  have HXo : Hid ((w2.setRow V.heap.size #[.int .i64 kind, .int .i64 k, .slice a2 m c2, .int .i64 bit, .int .i64 cond, .int .i64 whn]).heap[V.heap.size]? = some (.cells #[.int .i64 kind, .int .i64 k, .slice a2 m c2, .int .i64 bit, .int .i64 cond, .int .i64 whn] 49 (0, 0))) := hide (setRow_heap _ _ _ _ _ _ HM2.out)
  have HXr : Hid (RowO (w2.setRow V.heap.size #[.int .i64 kind, .int .i64 k, .slice a2 m c2, .int .i64 bit, .int .i64 cond, .int .i64 whn]) V.heap.size (.slice a2 m c2) qs) := hide ((HR2.out.base (by rw [HS1.out]; omega)).block (fun b cs fr hb => setRow_other _ _ _ _ (fun e => by
    rw [e, HM2.out] at hb
    simp at hb)))
  have hXs : V.heap.size + 1 <= (w2.setRow V.heap.size #[.int .i64 kind, .int .i64 k, .slice a2 m c2, .int .i64 bit, .int .i64 cond, .int .i64 whn]).heap.size := by rw [setRow_size]; exact hs2
  clear e2 HM2 HR2 HB2 hs2 y0 y1 y2 y3 y4 y5 y6 yf x0 x1 x2 x3 x4 x5 x6 x7 HOP1 HS1 HB1
  generalize w2.setRow V.heap.size #[.int .i64 kind, .int .i64 k, .slice a2 m c2, .int .i64 bit, .int .i64 cond, .int .i64 whn] = X at *
  have HXp : Hid (X.heap[g]? = some (.cells #[.int .i64 kind, .int .i64 gate, .slice al nl cl, .int .i64 bit, .int .i64 cond, .int .i64 whn, .slice ao n c, rv] 59 (0, 0))) := hide ((HXb.out.block g hgl).trans hhd)
  have HSX : Hid ((fun X : World => X.heap[g]? = some (.cells #[.int .i64 kind, .int .i64 gate, .slice al nl cl, .int .i64 bit, .int .i64 cond, .int .i64 whn, .slice ao n c, rv] 59 (0, 0)) /\ X.heap[V.heap.size]? = some (.cells #[.int .i64 kind, .int .i64 k, .slice a2 m c2, .int .i64 bit, .int .i64 cond, .int .i64 whn] 49 (0, 0))) X.drew) := hide ⟨HXp.out, HXo.out⟩
  have hba : Below X.heap.size X (X.drew.alloc (.cells #[.int .i64 kind, .int .i64 k, .slice a2 m c2, .int .i64 bit, .int .i64 cond, .int .i64 whn] 49)) := (bnew X (.cells #[.int .i64 kind, .int .i64 k, .slice a2 m c2, .int .i64 bit, .int .i64 cond, .int .i64 whn] 49)).drew
  have HS6 : Hid ((fun X : World => X.heap[g]? = some (.cells #[.int .i64 kind, .int .i64 gate, .slice al nl cl, .int .i64 bit, .int .i64 cond, .int .i64 whn, .slice ao n c, rv] 59 (0, 0)) /\ X.heap[V.heap.size]? = some (.cells #[.int .i64 kind, .int .i64 k, .slice a2 m c2, .int .i64 bit, .int .i64 cond, .int .i64 whn] 49 (0, 0))) (X.drew.alloc (.cells #[.int .i64 kind, .int .i64 k, .slice a2 m c2, .int .i64 bit, .int .i64 cond, .int .i64 whn] 49))) := hide ⟨(hba.block g (Array.getElem?_eq_some_iff.1 HXp.out).1).trans HXp.out, (hba.block V.heap.size (Array.getElem?_eq_some_iff.1 HXo.out).1).trans HXo.out⟩
  have HOE : Hid (OpsE (X.drew.alloc (.cells #[.int .i64 kind, .int .i64 k, .slice a2 m c2, .int .i64 bit, .int .i64 cond, .int .i64 whn] 49)) B V.heap.size ao n c l) := hide ((HP.out.ops.upto.below HXb.out).below hba)
  have HBE : Hid (B <= V.heap.size) := hide HP.out.vs
  have HEX : Hid (V.heap.size <= (X.drew.alloc (.cells #[.int .i64 kind, .int .i64 k, .slice a2 m c2, .int .i64 bit, .int .i64 cond, .int .i64 whn] 49)).heap.size) := hide (by have h1 : (X.drew.alloc (.cells #[.int .i64 kind, .int .i64 k, .slice a2 m c2, .int .i64 bit, .int .i64 cond, .int .i64 whn] 49)).heap.size = X.heap.size + 1 := Array.size_push _; omega)
  have HRX : Hid (RowO (X.drew.alloc (.cells #[.int .i64 kind, .int .i64 k, .slice a2 m c2, .int .i64 bit, .int .i64 cond, .int .i64 whn] 49)) V.heap.size (.slice a2 m c2) (⟨kind, k, qs, bit, cond, whn⟩ : COp).qs) := hide (HXr.out.below hba)
  have HHX : Hid ((X.drew.alloc (.cells #[.int .i64 kind, .int .i64 k, .slice a2 m c2, .int .i64 bit, .int .i64 cond, .int .i64 whn] 49)).heap[X.heap.size]? = some (.cells (opC ((⟨kind, k, qs, bit, cond, whn⟩ : COp), Value.slice a2 m c2)).toArray 49 (0, 0))) := hide (heap_alloc_new X _)
  have HST : Hid (∀ g6 c6 w6, OpsOwn w6 B (some ⟨g6, 0, none⟩) (n + 1) c6 (l ++ [⟨kind, k, qs, bit, cond, whn⟩]) -> (X.drew.alloc (.cells #[.int .i64 kind, .int .i64 k, .slice a2 m c2, .int .i64 bit, .int .i64 cond, .int .i64 whn] 49)).grownBy w6 (ob ao) -> (fun X : World => X.heap[g]? = some (.cells #[.int .i64 kind, .int .i64 gate, .slice al nl cl, .int .i64 bit, .int .i64 cond, .int .i64 whn, .slice ao n c, rv] 59 (0, 0)) /\ X.heap[V.heap.size]? = some (.cells #[.int .i64 kind, .int .i64 k, .slice a2 m c2, .int .i64 bit, .int .i64 cond, .int .i64 whn] 49 (0, 0))) w6 /\ ∃ ao' c', Sol (w6.setRow g #[.int .i64 kind, .int .i64 gate, .slice al nl cl, .int .i64 bit, .int .i64 cond, .int .i64 whn, .slice (some ⟨g6, 0, none⟩) (n + 1) c6, rv]) B g ⟨kind, gate, lqs, bit, cond, whn⟩ (.slice al nl cl) rv ao' (n + 1) c' (l ++ [⟨kind, k, qs, bit, cond, whn⟩]) /\ Below B V (w6.setRow g #[.int .i64 kind, .int .i64 gate, .slice al nl cl, .int .i64 bit, .int .i64 cond, .int .i64 whn, .slice (some ⟨g6, 0, none⟩) (n + 1) c6, rv]) /\ KpS V (w6.setRow g #[.int .i64 kind, .int .i64 gate, .slice al nl cl, .int .i64 bit, .int .i64 cond, .int .i64 whn, .slice (some ⟨g6, 0, none⟩) (n + 1) c6, rv])) := hide (fun g6 c6 w6 hown hgr => by
    have hob : ∀ x, ob ao = some x -> B <= x /\ x < V.heap.size := fun x hx => by
      obtain ⟨xs, -, -, h3, -, -⟩ := HP.out.ops
      exact own_lt h3 x hx
    have kp := (hgr.block g (Array.getElem?_eq_some_iff.1 HS6.out.1).1 (fun e => by
      obtain ⟨xs, -, -, h3, -, -⟩ := HP.out.ops
      exact own_ne h3 hhd (by decide) e.symm)).trans HS6.out.1
    have ko := (hgr.block V.heap.size (Array.getElem?_eq_some_iff.1 HS6.out.2).1 (fun e => by have := (hob _ e.symm).2; omega)).trans HS6.out.2
    have hbB : Below B V (X.drew.alloc (.cells #[.int .i64 kind, .int .i64 k, .slice a2 m c2, .int .i64 bit, .int .i64 cond, .int .i64 whn] 49)) := (HXb.out.mono HP.out.vs).trans (hba.mono (Nat.le_trans HP.out.vs HXb.out.size))
    have hb6 : Below B V w6 := hbB.grown hgr (by have h1 : (X.drew.alloc (.cells #[.int .i64 kind, .int .i64 k, .slice a2 m c2, .int .i64 bit, .int .i64 cond, .int .i64 whn] 49)).heap.size = X.heap.size + 1 := Array.size_push _; have := HXb.out.size; have := HP.out.vs; omega) (fun x hx => (hob x hx).1)
    refine ⟨⟨kp, ko⟩, some ⟨g6, 0, none⟩, c6, ⟨setRow_heap _ _ _ _ _ _ kp, HP.out.bg, hown.row kp (by decide) (by decide) _, ?_⟩, Below.row hb6 _ _ HP.out.bg, fun b cs t fr hb ht1 ht2 => ?_⟩
    rotate_left 1
    . have hbl := (Array.getElem?_eq_some_iff.1 hb).1
      have hbx : b < X.heap.size := Nat.lt_of_lt_of_le hbl HXb.out.size
      have k1 := (hba.block b hbx).trans (HXb.out.block b hbl)
      have k2 := hgr.block b (Nat.lt_of_lt_of_le hbx hba.size) (fun e => by
        obtain ⟨xs, -, -, h3, -, -⟩ := HP.out.ops
        exact own_ne h3 hb ht2 e.symm)
      exact (setRow_other _ _ _ _ (fun e => by
        rw [e, hhd] at hb
        simp only [Option.some.injEq, Obj.cells.injEq] at hb
        exact ht1 hb.2.1.symm)).trans (k2.trans k1)
    rw [setRow_size]
    exact Nat.le_trans HP.out.vs hb6.size)
  clear hba hhd
  refine region_front (S := (fun X : World => X.heap[g]? = some (.cells #[.int .i64 kind, .int .i64 gate, .slice al nl cl, .int .i64 bit, .int .i64 cond, .int .i64 whn, .slice ao n c, rv] 59 (0, 0)) /\ X.heap[V.heap.size]? = some (.cells #[.int .i64 kind, .int .i64 k, .slice a2 m c2, .int .i64 bit, .int .i64 cond, .int .i64 whn] 49 (0, 0)))) (by kernel_rfl) 10 (by kernel_rfl) HSX.out (fun hHeld => ?_)
  simp only [List.take_succ_cons, List.take_zero]
  refine take_to (i := 0) (d := 16) (v := ?_) rfl rfl (by kernel_rfl) (by kernel_rfl) (by kernel_rfl) (fun _ _ _ h => h) (Or.inl ⟨by rfl, ?_⟩) (by assumption) ?_
  rotate_left 1
  . intro W hSw
    obtain ⟨hc1, hc2⟩ := hSw
    obtain ⟨s0, s1, s2, s3, s4, s5, s6, s7, s8⟩ := sol_cells hc1
    obtain ⟨t0, t1, t2, t3, t4, t5, t6⟩ := op_cells18 hc2
    go_simp
    with_reducible rfl
  simp only [Act.put, List.setIfInBounds_toArray, List.set_cons_zero, List.set_cons_succ]
  refine take_to (i := 1) (d := 17) (v := ?_) rfl rfl (by kernel_rfl) (by kernel_rfl) (by kernel_rfl) (fun _ _ _ h => h) (Or.inl ⟨by rfl, ?_⟩) (by assumption) ?_
  rotate_left 1
  . intro W hSw
    obtain ⟨hc1, hc2⟩ := hSw
    obtain ⟨s0, s1, s2, s3, s4, s5, s6, s7, s8⟩ := sol_cells hc1
    obtain ⟨t0, t1, t2, t3, t4, t5, t6⟩ := op_cells18 hc2
    go_simp
    with_reducible rfl
  simp only [Act.put, List.setIfInBounds_toArray, List.set_cons_zero, List.set_cons_succ]
  refine take_to (i := 2) (d := 18) (v := ?_) rfl rfl (by kernel_rfl) (by kernel_rfl) (by kernel_rfl) (fun _ _ _ h => h) (Or.inl ⟨by rfl, ?_⟩) (by assumption) ?_
  rotate_left 1
  . intro W hSw
    obtain ⟨hc1, hc2⟩ := hSw
    obtain ⟨s0, s1, s2, s3, s4, s5, s6, s7, s8⟩ := sol_cells hc1
    obtain ⟨t0, t1, t2, t3, t4, t5, t6⟩ := op_cells18 hc2
    go_simp
    with_reducible rfl
  simp only [Act.put, List.setIfInBounds_toArray, List.set_cons_zero, List.set_cons_succ]
  refine take_to (i := 3) (d := 19) (v := ?_) rfl rfl (by kernel_rfl) (by kernel_rfl) (by kernel_rfl) (fun _ _ _ h => h) (Or.inl ⟨by rfl, ?_⟩) (by assumption) ?_
  rotate_left 1
  . intro W hSw
    obtain ⟨hc1, hc2⟩ := hSw
    obtain ⟨s0, s1, s2, s3, s4, s5, s6, s7, s8⟩ := sol_cells hc1
    obtain ⟨t0, t1, t2, t3, t4, t5, t6⟩ := op_cells18 hc2
    go_simp
    with_reducible rfl
  simp only [Act.put, List.setIfInBounds_toArray, List.set_cons_zero, List.set_cons_succ]
  refine take_to (i := 4) (d := 20) (v := ?_) rfl rfl (by kernel_rfl) (by kernel_rfl) (by kernel_rfl) (fun _ _ _ h => h) (Or.inl ⟨by rfl, ?_⟩) (by assumption) ?_
  rotate_left 1
  . intro W hSw
    obtain ⟨hc1, hc2⟩ := hSw
    obtain ⟨s0, s1, s2, s3, s4, s5, s6, s7, s8⟩ := sol_cells hc1
    obtain ⟨t0, t1, t2, t3, t4, t5, t6⟩ := op_cells18 hc2
    go_simp
    with_reducible rfl
  simp only [Act.put, List.setIfInBounds_toArray, List.set_cons_zero, List.set_cons_succ]
  refine take_to (i := 5) (d := 21) (v := ?_) rfl rfl (by kernel_rfl) (by kernel_rfl) (by kernel_rfl) (fun _ _ _ h => h) (Or.inl ⟨by rfl, ?_⟩) (by assumption) ?_
  rotate_left 1
  . intro W hSw
    obtain ⟨hc1, hc2⟩ := hSw
    obtain ⟨s0, s1, s2, s3, s4, s5, s6, s7, s8⟩ := sol_cells hc1
    obtain ⟨t0, t1, t2, t3, t4, t5, t6⟩ := op_cells18 hc2
    go_simp
    with_reducible rfl
  simp only [Act.put, List.setIfInBounds_toArray, List.set_cons_zero, List.set_cons_succ]
  refine wpAnyH_ready (rs := [6]) (by kernel_rfl) (by simp) ?_
  refine AllReadyH.cons (o := { dst := some 22, op := Op.buildSlice 22 1 #[(0, Operand.tmp 21)], type := 22, pos := "expand.go:35", after := #[{ on := 5, ground := Ground.data }], guard := none }) rfl (fun K hK => ?_) AllReadyH.nil
  go_simp
  refine hK.out _ _ (show (fun X : World => X.heap[g]? = some (.cells #[.int .i64 kind, .int .i64 gate, .slice al nl cl, .int .i64 bit, .int .i64 cond, .int .i64 whn, .slice ao n c, rv] 59 (0, 0)) /\ X.heap[V.heap.size]? = some (.cells #[.int .i64 kind, .int .i64 k, .slice a2 m c2, .int .i64 bit, .int .i64 cond, .int .i64 whn] 49 (0, 0))) (X.drew.alloc (.cells #[.int .i64 kind, .int .i64 k, .slice a2 m c2, .int .i64 bit, .int .i64 cond, .int .i64 whn] 49)) from HS6.out) (fun hHeld => ?_)
  clear hK K
  try simp only [Act.put, List.setIfInBounds_toArray, List.set_cons_zero, List.set_cons_succ]
  refine wpAnyH_ready (rs := [7]) (by kernel_rfl) (by simp) ?_
  refine AllReadyH.cons (o := { dst := some 23, op := Op.call { callee := Callee.builtin Builtin.append, args := #[Operand.tmp 20, Operand.tmp 22], argTypes := #[22, 22] }, type := 22, pos := "expand.go:35", after := #[{ on := 4, ground := Ground.data }, { on := 6, ground := Ground.data }], guard := none }) rfl (fun K hK => ?_) AllReadyH.nil
  refine step_push18 rfl (.tmp 20) (.tmp 22) rfl HOE.out HBE.out HEX.out ⟨kind, k, qs, bit, cond, whn⟩ (.slice a2 m c2) HRX.out X.heap.size HHX.out (by omega) (by rfl) (by rfl) ?_
  intro g6 c6 w6 hown6 hg6
  obtain ⟨hS7, hF6⟩ := HST.out g6 c6 w6 hown6 ⟨hg6.os, hg6.tape, hg6.output, hg6.size, hg6.block⟩
  refine hK.out _ _ (show (fun X : World => X.heap[g]? = some (.cells #[.int .i64 kind, .int .i64 gate, .slice al nl cl, .int .i64 bit, .int .i64 cond, .int .i64 whn, .slice ao n c, rv] 59 (0, 0)) /\ X.heap[V.heap.size]? = some (.cells #[.int .i64 kind, .int .i64 k, .slice a2 m c2, .int .i64 bit, .int .i64 cond, .int .i64 whn] 49 (0, 0))) w6 from hS7) (fun hHeld => ?_)
  clear hK K
  try simp only [Act.put, List.setIfInBounds_toArray, List.set_cons_zero, List.set_cons_succ]
  refine take_to (i := 8) (d := 24) (v := ?_) rfl rfl (by kernel_rfl) (by kernel_rfl) (by kernel_rfl) (fun _ _ _ h => h) (Or.inl ⟨by rfl, ?_⟩) (by assumption) ?_
  rotate_left 1
  . intro W hSw
    obtain ⟨hc1, hc2⟩ := hSw
    obtain ⟨s0, s1, s2, s3, s4, s5, s6, s7, s8⟩ := sol_cells hc1
    obtain ⟨t0, t1, t2, t3, t4, t5, t6⟩ := op_cells18 hc2
    go_simp
    with_reducible rfl
  simp only [Act.put, List.setIfInBounds_toArray, List.set_cons_zero, List.set_cons_succ]
  refine take_to (i := 9) (d := 25) (v := ?_) rfl rfl (by kernel_rfl) (by kernel_rfl) (by kernel_rfl) (fun _ _ _ h => h) (Or.inl ⟨by rfl, ?_⟩) (by assumption) ?_
  rotate_left 1
  . intro W hSw
    obtain ⟨hc1, hc2⟩ := hSw
    obtain ⟨s0, s1, s2, s3, s4, s5, s6, s7, s8⟩ := sol_cells hc1
    obtain ⟨t0, t1, t2, t3, t4, t5, t6⟩ := op_cells18 hc2
    go_simp
    with_reducible rfl
  simp only [Act.put, List.setIfInBounds_toArray, List.set_cons_zero, List.set_cons_succ]
  refine wpAnyH_done (by kernel_rfl) ?_ _
  refine ql_last (o := { dst := none, op := Op.store 22 (Operand.tmp 25) (Operand.tmp 23), type := 0, pos := "expand.go:35", after := #[{ on := 9, ground := Ground.data }, { on := 7, ground := Ground.data }, { on := 7, ground := Ground.chain }, { on := 0, ground := Ground.phase }, { on := 1, ground := Ground.phase }, { on := 2, ground := Ground.phase }, { on := 3, ground := Ground.phase }, { on := 4, ground := Ground.phase }, { on := 5, ground := Ground.phase }, { on := 6, ground := Ground.phase }, { on := 7, ground := Ground.phase }], guard := none }) rfl (fun K hK => ?_)
  have HF6 := hide hF6
  obtain ⟨d6, -⟩ := hS7
  obtain ⟨v0, v1, v2, v3, v4, v5, v6, v7, v8⟩ := sol_cells d6
  have vf : ∀ x, w6.frozen? ⟨g, x, none⟩ = false := fun x => by simp [World.frozen?, d6]
  have e6 : w6.setCell ⟨g, 6, none⟩ (.slice (some ⟨g6, 0, none⟩) (n + 1) c6) = w6.setRow g #[.int .i64 kind, .int .i64 gate, .slice al nl cl, .int .i64 bit, .int .i64 cond, .int .i64 whn, .slice (some ⟨g6, 0, none⟩) (n + 1) c6, rv] := by
    rw [setCell_eq_setRow _ _ 6 _ _ _ _ d6]
    rfl
  have HE6 := hide e6
  clear hF6 d6 e6 hown6 hg6 hHeld
  go_simp
  refine hK.out _ _ ?_
  clear hK K
  rw [HE6.out]
  go_wp2_with fail
  go_end0
  obtain ⟨ao', c', q1, q2, q3⟩ := HF6.out
  exact ⟨rfl, ⟨ao', c', q1⟩, q2, q3⟩
abbrev uV (x : Nat) : Value := .int .u64 (x : Nat)
def Su (w : World) (G q : Nat) (rs : List Nat) : Prop := ∃ cur : Array Value, w.heap[G]? = some (.cells cur 42 (0, 0)) /\ cur.size = q /\ rs.length <= q /\ cur.toList.take rs.length = rs.map uV
theorem Su.cell {w : World} {G q : Nat} {rs : List Nat} (h : Su w G q rs) {i x : Nat} (hi : rs[i]? = some x) : w.cell? ⟨G, i, none⟩ = some (.int .u64 (x : Nat)) /\ (∀ j, w.frozen? ⟨G, j, none⟩ = false) /\ G < w.heap.size := by
  obtain ⟨cur, h1, h2, h3, h4⟩ := h
  refine ⟨(cell_of_row _ _ _ _ _ _ h1).trans ?_, fun j => by simp [World.frozen?, h1], (Array.getElem?_eq_some_iff.1 h1).1⟩
  have hl := (List.getElem?_eq_some_iff.1 hi).1
  have := congrArg (·[i]?) h4
  simp only [List.getElem?_take, if_pos hl, List.getElem?_map, hi, Option.map_some] at this
  simpa using this
theorem Su.put {w : World} {G q : Nat} {rs : List Nat} (h : Su w G q rs) (i x : Nat) : Su (w.setCell ⟨G, i, none⟩ (.int .u64 (x : Nat))) G q (rs.set i x) := by
  obtain ⟨cur, h1, h2, h3, h4⟩ := h
  rw [setCell_eq_setRow _ _ _ _ _ _ _ h1]
  refine ⟨_, setRow_heap _ _ _ _ _ _ h1, by simpa using h2, by simpa using h3, ?_⟩
  rw [List.length_set, Array.toList_setIfInBounds, List.take_set, h4, List.map_set]
theorem Su.block {w w' : World} {G q : Nat} {rs : List Nat} (h : Su w G q rs) (hb : w'.heap[G]? = w.heap[G]?) : Su w' G q rs := by
  obtain ⟨cur, h1, h2⟩ := h
  exact ⟨cur, hb.trans h1, h2⟩
theorem Su.lt {w : World} {G q : Nat} {rs : List Nat} (h : Su w G q rs) : G < w.heap.size := by
  obtain ⟨cur, h1, -⟩ := h
  exact (Array.getElem?_eq_some_iff.1 h1).1
theorem Su.below {w w' : World} {G q : Nat} {rs : List Nat} (h : Su w G q rs) (hb : Below w.heap.size w w') : Su w' G q rs := h.block (hb.block _ h.lt)
theorem Su.nu {w : World} {G q : Nat} {rs : List Nat} (h : Su w G q rs) : Nu w (some ⟨G, 0, none⟩) (rs.map fun (x : Nat) => (x : Int)) := by
  refine .inr ⟨G, 0, rfl, fun j z hj => ?_⟩
  rw [List.getElem?_map] at hj
  obtain ⟨x, hx, rfl⟩ := Option.map_eq_some_iff.1 hj
  rw [Nat.zero_add]
  exact (h.cell hx).1
theorem Sm18.su {w : World} {G : Nat} {rs : List Nat} (h : Sm18 w G rs) : Su w G rs.length rs := ⟨_, h, by simp, Nat.le_refl _, by simp only; rw [List.take_of_length_le (by simp)]⟩
abbrev UO (w : World) (B : Nat) (v : Value) (rs : List Nat) : Prop := w.ownsRow B 42 1 v rs.length (rs.map uV)
theorem UO.su {w : World} {B n c : Nat} {ao : Option Addr} {rs : List Nat} (h : UO w B (.slice ao n c) rs) (h0 : 0 < rs.length) : ∃ G, ao = some ⟨G, 0, none⟩ /\ B <= G /\ Su w G c rs := by
  rcases h.2 with ⟨hv, h1⟩ | ⟨g, cap, cur, hv, hbg, hg, e1, e2, e3, e4⟩
  . omega
  . simp only [Value.slice.injEq] at hv
    obtain ⟨rfl, -, rfl⟩ := hv
    exact ⟨g, rfl, hbg, cur, hg, by simpa using e3, e1, by simpa using e4⟩
theorem info_uw : (Tryz.prog.info? 42).map (fun i => (i.zero, i.size, i.bytes)) = some (some (.int .u64 0), 1, 8) := by kernel_rfl
theorem app_u18 {ops : Array Oper} {rest : List Oper} {o : Oper} {a : Act} {Q : Exit -> Act -> World -> Prop} {X : World} (hgd : o.guard = none) (s x : Operand)
    (ho : o.op = .call { callee := .builtin .append, args := #[s, x], argTypes := #[25, 25] }) (B : Nat) (v : Value) (rs : List Nat) (n : Nat) (hn : rs.length = n) (hs : a.eval s = v) (hown : UO X B v rs)
    (ao : Option Addr) (c : Nat) (ls : List Nat) (m : Nat) (hm : ls.length = m) (h0 : 0 < m) (hx : a.eval x = .slice ao m c) (hN : Nu X ao (ls.map fun (x : Nat) => (x : Int))) (tot : Nat) (ht : n + m = tot) (hl : tot <= 17592186044416) (hB : B <= X.heap.size)
    (h : ∀ G q w', UO w' B (.slice (some ⟨G, 0, none⟩) tot q) (rs ++ ls) -> X.grownBy w' v.ownBlock -> wpList Tryz.prog ops Q rest (a.put o.dst (.slice (some ⟨G, 0, none⟩) tot q)) w') : wpList Tryz.prog ops Q (o :: rest) a X := by
  subst hn hm ht
  obtain ⟨i0, hi, hz⟩ := Option.map_eq_some_iff.1 info_uw
  simp only [Prod.mk.injEq] at hz
  obtain ⟨hz0, hz1, hz2⟩ := hz
  have hne : (ls.map fun (x : Nat) => (x : Int)) ≠ [] := fun e => by
    rw [List.map_eq_nil_iff.1 e] at h0
    exact absurd h0 (by decide)
  obtain ⟨g, off, rfl, hc⟩ := hN.resolve_left hne
  refine wpList_append_lies _ hgd s x 25 ho B 42 i0 (.int .u64 0) 1 8 Tryz.underlying25 hi hz0 hz1 hz2 rfl (by decide) v rs.length _ hs hown ⟨g, off, none⟩ ls.length c (ls.map uV) hx (by simp) (fun j u hu => ?_) (fun u hu => ?_) h0 (by unfold maxLen; omega) (by omega) hB _ rfl ?_
  . rw [Addr.add_lit]
    rw [List.getElem?_map] at hu
    obtain ⟨z, hz, rfl⟩ := Option.map_eq_some_iff.1 hu
    exact hc j _ (by rw [List.getElem?_map, hz]; rfl)
  . obtain ⟨z, _, rfl⟩ := List.mem_map.1 hu
    rfl
  . intro g2 cap w2 hown2 hgrow hat hlt
    refine h _ _ w2 ?_ hgrow
    unfold UO
    rw [List.length_append, List.map_append]
    exact hown2
theorem uo_empty (w : World) : UO (w.alloc (.cells #[] 42)) w.heap.size (.slice (some ⟨w.heap.size, 0, none⟩) 0 0) [] := ⟨rfl, .inr ⟨w.heap.size, 0, #[], rfl, Nat.le_refl _, heap_alloc_new _ _, Nat.le_refl _, by decide, rfl, rfl⟩⟩
theorem sCloneU (ao : Option Addr) (c : Nat) (ls : List Nat) (h0 : 0 < ls.length) (hl : ls.length <= 17592186044416) (w : World) (hN : Nu w ao (ls.map fun (x : Nat) => (x : Int))) : Calls Tryz.prog 18 #[.slice ao ls.length c] w fun e w' => ∃ G q, e = .returned (.slice (some ⟨G, 0, none⟩) ls.length q) /\ UO w' w.heap.size (.slice (some ⟨G, 0, none⟩) ls.length q) ls /\ Below w.heap.size w w' := by
  have hne : (ls.map fun (x : Nat) => (x : Int)) ≠ [] := fun e => by
    rw [List.map_eq_nil_iff.1 e] at h0
    exact absurd h0 (by decide)
  obtain ⟨g, off, rfl, hc⟩ := id (hN.resolve_left hne)
  have heq := fun a n c w => Lib.run_eql_slice_nil (P := Tryz.prog) w a n c
  have hb1 := bnew w (.cells #[] 42)
  have HN := hide (hN.below hb1)
  have HB := hide hb1
  have HU := hide (uo_empty w)
  have HSz : Hid (w.heap.size <= (w.alloc (.cells #[] 42)).heap.size) := hide hb1.size
  obtain ⟨m, hm⟩ : ∃ m, ls.length = m := ⟨_, rfl⟩
  have HM := hide hm
  rw [hm] at h0 hl ⊢
  clear hm hb1 hN hc hne
  go_enter Tryz.func18, Tryz.ntmps18
  go_wp2_with (at_builtin; refine app_u18 rfl _ _ rfl w.heap.size _ [] 0 rfl rfl HU.out _ _ ls m HM.out h0 rfl HN.out m (Nat.zero_add m) hl HSz.out ?_)
  intro G q w2 hu hg
  have HU2 := hide hu
  have HB2 := hide (HB.out.grown hg HSz.out (fun k hk => by
    cases hk
    exact Nat.le_refl _))
  clear hu hg
  go_wp2_with fail
  go_ret
  exact ⟨G, q, rfl, HU2.out, HB2.out⟩
theorem rHas2 (S G m q i x c : Nat) (hi : i < m) (hx : x < 18446744073709551616) (hc : c < 64) (w : World) (hS : w.cell? ⟨S, 7, none⟩ = some (.slice (some ⟨G, 0, none⟩) m q)) (hG : w.cell? ⟨G, i, none⟩ = some (.int .u64 (x : Nat))) : Calls Tryz.prog 37 #[.pointer (some ⟨S, 0, none⟩), .int .i64 (i : Int), .int .i64 (c : Int)] w fun e w' => e = .returned (.bool (x.testBit c)) /\ w' = w := by
  have yl := World.block_lt_of_cell? _ _ hG
  have hlt := World.block_lt_of_cell? _ _ hS
  have hii : (i : Int) < (m : Int) := by omega
  have e1 := shr_and x c hx
  have hc1 := hc
  have e2 : (((x / 2 ^ c % 2 : Nat) : Int) != 0) = x.testBit c := by
    rw [Nat.testBit_eq_decide_div_mod_eq]
    have h2 : x / 2 ^ c % 2 = 0 ∨ x / 2 ^ c % 2 = 1 := by omega
    rcases h2 with h | h <;> rw [h] <;> rfl
  go_enter Tryz.func37, Tryz.ntmps37
  go_wp2_with fail
  go_ret
  refine ⟨?_, rfl⟩
  show Ending.returned (Value.bool (bits .and .u64 ((x : Int) / 2 ^ c) 1 != 0)) = _
  rw [← e2, ← e1]
  congr 3
def KpG (G : Nat) (V W : World) : Prop := ∀ (b : Nat) (cs : Array Value) (t : TypeId) (fr : Nat × Nat), V.heap[b]? = some (.cells cs t fr) -> b ≠ G -> t ≠ 59 -> t ≠ 49 -> W.heap[b]? = V.heap[b]?
theorem KpG.refl (G : Nat) (V : World) : KpG G V V := fun _ _ _ _ _ _ _ _ => rfl
theorem KpG.trans {G : Nat} {U V W : World} (h : KpG G U V) (k : KpG G V W) : KpG G U W := fun b cs t fr hb h1 h2 h3 =>
  have e := h b cs t fr hb h1 h2 h3
  (k b cs t fr (e.trans hb) h1 h2 h3).trans e
theorem KpG.of_below {G : Nat} {V W : World} (h : Below V.heap.size V W) : KpG G V W := fun b _ _ _ hb _ _ _ => h.block b (Array.getElem?_eq_some_iff.1 hb).1
theorem KpG.of_s {G : Nat} {V W : World} (h : KpS V W) : KpG G V W := fun b cs t fr hb _ h2 h3 => h b cs t fr hb h2 h3
theorem KpG.set {G : Nat} {V : World} {cs : Array Value} {t : TypeId} (h : V.heap[G]? = some (.cells cs t (0, 0))) (i : Nat) (v : Value) : KpG G V (V.setCell ⟨G, i, none⟩ v) := fun b _ _ _ _ h1 _ _ => by
  rw [setCell_eq_setRow _ _ _ _ _ _ _ h]
  exact setRow_other _ _ _ _ h1
theorem Sol.put {V : World} {B g : Nat} {lk : COp} {lv rv : Value} {ao : Option Addr} {n c : Nat} {l : List COp} (h : Sol V B g lk lv rv ao n c l) {G : Nat} {cs : Array Value} (hG : V.heap[G]? = some (.cells cs 42 (0, 0))) (i : Nat) (v : Value) : Sol (V.setCell ⟨G, i, none⟩ v) B g lk lv rv ao n c l := by
  rw [setCell_eq_setRow _ _ _ _ _ _ _ hG]
  refine ⟨(setRow_other _ _ _ _ (fun e => ?_)).trans h.hd, h.bg, h.ops.row hG (by decide) (by decide) _, by rw [setRow_size]; exact h.vs⟩
  have := h.hd
  rw [e, hG] at this
  simp at this
structure SS (V : World) (B S G q m k : Nat) (s : GS) : Prop where
  sol : ∃ ao n c, Sol V B S ⟨1, 0, [], 0, -1, 0⟩ (.slice none 0 0) (.slice (some ⟨G, 0, none⟩) m q) ao n c (s.2.map opS)
  su : Su V G q s.1
  gi : GI m k s
  bg : B <= G
theorem SS.more {V : World} {B S G q m k k' : Nat} {s : GS} (h : SS V B S G q m k s) (hk : k <= k') : SS V B S G q m k' s := ⟨h.sol, h.su, h.gi.more hk, h.bg⟩
theorem SS.rows {V : World} {B S G q m k : Nat} {s : GS} (h : SS V B S G q m k s) : V.cell? ⟨S, 7, none⟩ = some (.slice (some ⟨G, 0, none⟩) m q) /\ S < V.heap.size := by
  obtain ⟨ao, n, c, hs⟩ := h.sol
  obtain ⟨-, -, -, -, -, -, -, x7, hl⟩ := sol_cells hs.hd
  exact ⟨x7, hl⟩
theorem SS.word {V : World} {B S G q m k : Nat} {s : GS} (h : SS V B S G q m k s) {i : Nat} (hi : i < m) : V.cell? ⟨G, i, none⟩ = some (.int .u64 (s.1.getD i 0 : Nat)) /\ s.1.getD i 0 < 18446744073709551616 := ⟨(h.su.cell (h.gi.get hi).1).1, (h.gi.get hi).2⟩
theorem ns_two (X : World) (f t : Nat) : Ns (X.alloc (.cells #[.int .i64 (f : Int), .int .i64 (t : Int)] 3)) (some ⟨X.heap.size, 0, none⟩) [(f : Int), (t : Int)] := by
  refine .inr ⟨X.heap.size, 0, rfl, fun j z hj => ?_⟩
  rw [Nat.zero_add]
  refine (cell_of_row _ _ j _ _ _ (heap_alloc_new _ _)).trans ?_
  match j, hj with
  | 0, hj => simp at hj; subst hj; rfl
  | 1, hj => simp at hj; subst hj; rfl
  | j + 2, hj => simp at hj
theorem rAdd {V : World} {B S G q m k : Nat} {s : GS} (h : SS V B S G q m k s) (f t : Nat) (hf : f < m) (ht : t < m) (hk : k <= 90000) : Calls Tryz.prog 38 #[.pointer (some ⟨S, 0, none⟩), .int .i64 (f : Int), .int .i64 (t : Int)] V fun e w' => e = .returned (.tuple #[]) /\ SS w' B S G q m (k + 1) (adS f t s) /\ Below B V w' /\ KpG G V w' := by
  have hgi' := h.gi.ad hf ht
  obtain ⟨⟨ao, n, c, hS⟩, hG, hgi, hbg⟩ := h
  obtain ⟨xf, lf⟩ := hgi.get hf
  obtain ⟨xt, lt⟩ := hgi.get ht
  obtain ⟨y0, yf, yl⟩ := hG.cell xf
  obtain ⟨y1, -, -⟩ := hG.cell xt
  obtain ⟨-, -, -, -, -, -, -, x7, hSl⟩ := sol_cells hS.hd
  have hx := bits_xor_u64_nat _ _ lt lf
  have hn : n <= 100000 := by
    have h1 := own_len18 hS.ops
    have h2 := hgi.nt
    rw [List.length_map] at h1
    omega
  have hfm : (f : Int) < (m : Int) := by omega
  have htm : (t : Int) < (m : Int) := by omega
  have HAD : Hid (∀ (X : World) (H : Nat), X.heap.size = H -> Sol X B S ⟨1, 0, [], 0, -1, 0⟩ (.slice none 0 0) (.slice (some ⟨G, 0, none⟩) m q) ao n c (s.2.map opS) -> Su X G q (s.1.set t (s.1.getD t 0 ^^^ s.1.getD f 0)) -> Calls Tryz.prog 64 #[.pointer (some ⟨S, 0, none⟩), .int .i64 11, .slice (some ⟨H, 0, none⟩) 2 2] (X.alloc (.cells #[.int .i64 (f : Int), .int .i64 (t : Int)] 3)).drew fun e w' => e = .returned (.tuple #[]) /\ SS w' B S G q m (k + 1) (adS f t s) /\ Below B X w' /\ KpG G X w') := hide (fun X H hH h1 h2 => by
    subst hH
    have hb := (bnew X (.cells #[.int .i64 (f : Int), .int .i64 (t : Int)] 3)).drew
    have hn2 : Ns (X.alloc (.cells #[.int .i64 (f : Int), .int .i64 (t : Int)] 3)).drew (some ⟨X.heap.size, 0, none⟩) [(f : Int), (t : Int)] := (ns_two X f t).below ⟨rfl, rfl, rfl, Nat.le_refl _, fun _ _ => rfl⟩
    refine (rWriteS (h1.below hb) ⟨none, 0, 0, rfl⟩ 11 (some ⟨X.heap.size, 0, none⟩) 2 [(f : Int), (t : Int)] (by simp) hn2 hn).mono ?_
    rintro e w' ⟨rfl, ⟨ao', c', q1⟩, q2, q3⟩
    have h3 := h2.below hb
    refine ⟨rfl, ⟨⟨ao', n + 1, c', ?_⟩, ?_, hgi', hbg⟩, (hb.mono h1.vs).trans q2, (KpG.of_below hb).trans (KpG.of_s q3)⟩
    . show Sol w' B S _ _ _ ao' (n + 1) c' (((s.2 ++ [(f, t)])).map opS)
      rw [List.map_append]
      exact q1
    . obtain ⟨cur, e1, e2⟩ := h3
      exact Su.block ⟨cur, e1, e2⟩ (q3 G cur _ _ e1 (by decide) (by decide)))
  have HX1 : Hid (Sol (V.setCell ⟨G, t, none⟩ (.int .u64 ((s.1.getD t 0 ^^^ s.1.getD f 0 : Nat) : Int))) B S ⟨1, 0, [], 0, -1, 0⟩ (.slice none 0 0) (.slice (some ⟨G, 0, none⟩) m q) ao n c (s.2.map opS)) := hide (by
    obtain ⟨cur, e1, e2⟩ := hG
    exact hS.put e1 _ _)
  have HX2 : Hid (Su (V.setCell ⟨G, t, none⟩ (.int .u64 ((s.1.getD t 0 ^^^ s.1.getD f 0 : Nat) : Int))) G q (s.1.set t (s.1.getD t 0 ^^^ s.1.getD f 0))) := hide (hG.put _ _)
  have HX3 : Hid (Below B V (V.setCell ⟨G, t, none⟩ (.int .u64 ((s.1.getD t 0 ^^^ s.1.getD f 0 : Nat) : Int)))) := hide ((Below.refl _ _).setCell (p := ⟨G, t, none⟩) hbg _)
  have HX4 : Hid (KpG G V (V.setCell ⟨G, t, none⟩ (.int .u64 ((s.1.getD t 0 ^^^ s.1.getD f 0 : Nat) : Int)))) := hide (by
    obtain ⟨cur, e1, e2⟩ := hG
    exact KpG.set e1 _ _)
  have HXS : Hid ((V.setCell ⟨G, t, none⟩ (.int .u64 ((s.1.getD t 0 ^^^ s.1.getD f 0 : Nat) : Int))).heap.size = V.heap.size) := hide (by simp)
  clear hS hG hgi hgi' xf xt hn
  generalize s.1.getD f 0 = va at *
  generalize s.1.getD t 0 = vb at *
  go_enter Tryz.func38, Tryz.ntmps38
  go_wp2_with fail
  go_region
  go_wp2_with (go_at_call 64; (with_reducible refine Calls.mono (HAD.out _ _ HXS.out HX1.out HX2.out) ?_); rintro e w2 ⟨rfl, q1, q2, q3⟩; have HQ := hide (And.intro q1 (And.intro (HX3.out.trans q2) (HX4.out.trans q3))); clear q1 q2 q3)
  go_end0
  exact ⟨rfl, HQ.out⟩
def noB (rs : List Nat) (c a b : Nat) : Prop := ∀ j, a <= j -> j < b -> ∀ x, rs[j]? = some x -> x.testBit c = false
theorem noB.succ {rs : List Nat} {c a i : Nat} (h : noB rs c a i) (hb : (rs.getD i 0).testBit c = false) : noB rs c a (i + 1) := fun j h1 h2 x hx => by
  by_cases e : j = i
  . subst e
    rw [List.getD_eq_getElem?_getD, hx] at hb
    exact hb
  . exact h j h1 (by omega) x hx
theorem pr_here {m c : Nat} {s : GS} (hl : s.1.length = m) (hc : c < m) (hb : (s.1.getD c 0).testBit c = true) : prS c s = some s := by
  have h1 : s.1[c]? = some (s.1.getD c 0) := by
    rw [List.getD_eq_getElem?_getD, List.getElem?_eq_getElem (by omega)]
    rfl
  have hf : fdS s.1 c c = c := fd_eq (Nat.le_refl _) (by omega) (fun j h1 h2 => absurd h2 (by omega)) (.inr ⟨_, h1, hb⟩)
  unfold prS
  rw [hf, if_neg (by omega), if_pos rfl]
theorem pr_none {m c : Nat} {s : GS} (hl : s.1.length = m) (hc : c < m) (h : noB s.1 c c m) : prS c s = none := by
  have hf : fdS s.1 c c = m := fd_eq (by omega) (by omega) h (.inl hl.symm)
  unfold prS
  rw [hf, if_pos hl.symm]
theorem pr_at {m c i : Nat} {s : GS} (hl : s.1.length = m) (hci : c < i) (hi : i < m) (h : noB s.1 c c i) (hb : (s.1.getD i 0).testBit c = true) : prS c s = some (adS i c s) := by
  have h1 : s.1[i]? = some (s.1.getD i 0) := by
    rw [List.getD_eq_getElem?_getD, List.getElem?_eq_getElem (by omega)]
    rfl
  have hf : fdS s.1 c c = i := fd_eq (by omega) (by omega) h (.inr ⟨_, h1, hb⟩)
  unfold prS
  rw [hf, if_neg (by omega), if_neg (by omega)]
theorem rClear {V0 V : World} {B S G q m k : Nat} {s : GS} (h : SS V B S G q m k s) (hB : Below B V0 V) (hK : KpG G V0 V) (c : Nat) (hc : c < m) (hm : m <= 64) (hk : k <= 80000) : Calls Tryz.prog 19 #[.pointer (some ⟨S, 0, none⟩), .int .i64 (c : Int)] V fun e w' => (clS m c s = none -> e = .returned (.bool false)) /\ (∀ s', clS m c s = some s' -> e = .returned (.bool true) /\ SS w' B S G q m (k + 1 + m) s') /\ Below B V0 w' /\ KpG G V0 w' := by
  obtain ⟨x7, hSl⟩ := h.rows
  obtain ⟨y0, y1⟩ := h.word hc
  have hl := h.gi.len
  have c1 := rHas2 S G m q c _ c hc y1 (by omega) V x7 y0
  cases hb : (s.1.getD c 0).testBit c with
  | true =>
    rw [hb] at c1
    have HP := hide (pr_here hl hc hb)
    have HS1 : Hid (SS V B S G q m (k + 0) (swI c 0 s)) := hide h
    have HB1 := hide hB
    have HK1 := hide hK
    clear hb y0 y1 h hB hK hl
    go_enter Tryz.func19, Tryz.ntmps19
    go_wp2_with (go_at_call 37; (with_reducible refine Calls.mono c1 ?_); rintro e w1 ⟨rfl, rfl⟩)
    go_loopw [6, 46] (fun _ vi wr => ∃ i : Nat, vi = .int .i64 (i : Int) /\ i <= m /\ Hid (SS wr B S G q m (k + i) (swI c i (s))) /\ Hid (Below B V0 wr) /\ Hid (KpG G V0 wr)) (fun _ vi _ => m - (Go.RowKit.intOf vi).toNat)
    case atStart => exact ⟨0, rfl, Nat.zero_le _, HS1, HB1, HK1⟩
    case round =>
      obtain ⟨i, rfl, hi, HS, HB, HK⟩ := hrel
      obtain ⟨z7, zS⟩ := HS.out.rows
      by_cases h : i < m
      . have hd : decide ((i : Int) < (m : Int)) = true := decide_eq_true (by omega)
        by_cases hic : i = c
        . have hne : ((i : Int) != (c : Int)) = false := by rw [hic]; simp
          have HS2 : Hid (SS wr B S G q m (k + (i + 1)) (swI c (i + 1) (s))) := hide (by
            have : swI c (i + 1) (s) = swI c i (s) := by
              show swS c i (swI c i (s)) = _
              unfold swS
              rw [if_neg (fun e => e.1 hic)]
            rw [this]
            exact HS.out.more (by omega))
          go_wp2_with fail
          go_roundw
          case rel => exact ⟨i + 1, by go_num, by omega, HS2, HB, HK⟩
          case measure => simp [Go.RowKit.intOf]; omega
        . have hne : ((i : Int) != (c : Int)) = true := by simp; omega
          obtain ⟨u0, u1⟩ := HS.out.word h
          have cH := rHas2 S G m q i _ c h u1 (by omega) wr z7 u0
          cases hb : ((swI c i (s)).1.getD i 0).testBit c with
          | false =>
            rw [hb] at cH
            have HS2 : Hid (SS wr B S G q m (k + (i + 1)) (swI c (i + 1) (s))) := hide (by
              have : swI c (i + 1) (s) = swI c i (s) := by
                show swS c i (swI c i (s)) = _
                unfold swS
                rw [if_neg (fun e => by rw [hb] at e; cases e.2)]
              rw [this]
              exact HS.out.more (by omega))
            clear u0 u1 hb
            go_wp2_with (go_at_call 37; (with_reducible refine Calls.mono cH ?_); rintro e w2 ⟨rfl, rfl⟩)
            go_roundw
            case rel => exact ⟨i + 1, by go_num, by omega, HS2, HB, HK⟩
            case measure => simp [Go.RowKit.intOf]; omega
          | true =>
            rw [hb] at cH
            have cA : Calls Tryz.prog 38 #[.pointer (some ⟨S, 0, none⟩), .int .i64 (c : Int), .int .i64 (i : Int)] wr fun e w' => e = .returned (.tuple #[]) /\ SS w' B S G q m (k + (i + 1)) (swI c (i + 1) (s)) /\ Below B wr w' /\ KpG G wr w' := by
              have : swI c (i + 1) (s) = adS c i (swI c i (s)) := by
                show swS c i (swI c i (s)) = _
                unfold swS
                rw [if_pos ⟨hic, hb⟩]
              rw [this]
              exact rAdd HS.out c i hc h (by omega)
            clear u0 u1 hb
            go_wp2_with (first | (go_at_call 37; (with_reducible refine Calls.mono cH ?_); rintro e w2 ⟨rfl, rfl⟩) | (go_at_call 38; (with_reducible refine Calls.mono cA ?_); rintro e w3 ⟨rfl, q1, q2, q3⟩; have HS2 := hide q1; have HB2 := hide (HB.out.trans q2); have HK2 := hide (HK.out.trans q3); clear q1 q2 q3))
            go_roundw
            case rel => exact ⟨i + 1, by go_num, by omega, HS2, HB2, HK2⟩
            case measure => simp [Go.RowKit.intOf]; omega
      . obtain rfl : m = i := by omega
        have hd : decide ((m : Int) < (m : Int)) = false := decide_eq_false (by omega)
        have HC : Hid (clS m c s = some (swI c m (s))) := hide (by unfold clS; rw [HP.out]; rfl)
        go_wp2_with fail
        go_ret
        refine ⟨fun e => (by rw [HC.out] at e; cases e), fun s' e => ?_, HB.out, HK.out⟩
        rw [HC.out] at e
        cases e
        exact ⟨rfl, HS.out.more (by omega)⟩
  | false =>
    rw [hb] at c1
    have HS0 := hide h
    have HB0 := hide hB
    have HK0 := hide hK
    have HL := hide hl
    have HN : Hid (noB s.1 c c (c + 1)) := hide (noB.succ (fun j h1 h2 => absurd h2 (by omega)) hb)
    clear hb y0 y1 h hB hK hl
    go_enter Tryz.func19, Tryz.ntmps19
    go_wp2_with (go_at_call 37; (with_reducible refine Calls.mono c1 ?_); rintro e w1 ⟨rfl, rfl⟩)
    go_loopw [5] (fun vi wr => wr = w1 /\ ∃ i : Nat, vi = .int .i64 (i : Int) /\ c < i /\ i <= m /\ Hid (noB s.1 c c i)) (fun vi _ => m - (Go.RowKit.intOf vi).toNat)
    case atStart => exact ⟨rfl, c + 1, by go_num, by omega, by omega, HN⟩
    case round =>
      obtain ⟨rfl, i, rfl, hci, hi, HN⟩ := hrel
      by_cases h : i < m
      . have hd : decide ((i : Int) < (m : Int)) = true := decide_eq_true (by omega)
        have hde : ((i : Int) == (m : Int)) = false := beq_eq_false_iff_ne.2 (by omega)
        obtain ⟨u0, u1⟩ := HS0.out.word h
        have cH := rHas2 S G m q i _ c h u1 (by omega) _ x7 u0
        cases hb : (s.1.getD i 0).testBit c with
        | false =>
          rw [hb] at cH
          have HN2 := hide (HN.out.succ hb)
          clear hb u0 u1
          go_wp2_with (go_at_call 37; (with_reducible refine Calls.mono cH ?_); rintro e w2 ⟨rfl, rfl⟩)
          go_roundw
          case rel => exact ⟨trivial, i + 1, by go_num, by omega, by omega, HN2⟩
          case measure => simp [Go.RowKit.intOf]; omega
        | true =>
          rw [hb] at cH
          have HP := hide (pr_at HL.out hci h HN.out hb)
          have cA := rAdd HS0.out i c h hc (by omega)
          clear hb u0 u1
          go_wp2_with (first | (go_at_call 37; (with_reducible refine Calls.mono cH ?_); rintro e w2 ⟨rfl, rfl⟩) | (go_at_call 38; (with_reducible refine Calls.mono cA ?_); rintro e w3 ⟨rfl, q1, q2, q3⟩; have HS1 : Hid (SS w3 B S G q m (k + 1 + 0) (swI c 0 (adS i c s))) := hide q1; have HB1 := hide (HB0.out.trans q2); have HK1 := hide (HK0.out.trans q3); obtain ⟨t7, tS⟩ := q1.rows; clear q1 q2 q3))
          go_loopw [6, 46] (fun _ vi wr => ∃ r : Nat, vi = .int .i64 (r : Int) /\ r <= m /\ Hid (SS wr B S G q m (k + 1 + r) (swI c r (adS i c s))) /\ Hid (Below B V0 wr) /\ Hid (KpG G V0 wr)) (fun _ vi _ => m - (Go.RowKit.intOf vi).toNat)
          case atStart => exact ⟨0, rfl, Nat.zero_le _, HS1, HB1, HK1⟩
          case round =>
            obtain ⟨r, rfl, hi2, HS, HB, HK⟩ := hrel
            obtain ⟨z7, zS⟩ := HS.out.rows
            by_cases h2 : r < m
            . have hd : decide ((r : Int) < (m : Int)) = true := decide_eq_true (by omega)
              by_cases hic : r = c
              . have hne : ((r : Int) != (c : Int)) = false := by rw [hic]; simp
                have HS2 : Hid (SS wr B S G q m (k + 1 + (r + 1)) (swI c (r + 1) (adS i c s))) := hide (by
                  have : swI c (r + 1) (adS i c s) = swI c r (adS i c s) := by
                    show swS c r (swI c r (adS i c s)) = _
                    unfold swS
                    rw [if_neg (fun e => e.1 hic)]
                  rw [this]
                  exact HS.out.more (by omega))
                go_wp2_with fail
                go_roundw
                case rel => exact ⟨r + 1, by go_num, by omega, HS2, HB, HK⟩
                case measure => simp [Go.RowKit.intOf]; omega
              . have hne : ((r : Int) != (c : Int)) = true := by simp; omega
                obtain ⟨u0, u1⟩ := HS.out.word h2
                have cH := rHas2 S G m q r _ c h2 u1 (by omega) wr z7 u0
                cases hb : ((swI c r (adS i c s)).1.getD r 0).testBit c with
                | false =>
                  rw [hb] at cH
                  have HS2 : Hid (SS wr B S G q m (k + 1 + (r + 1)) (swI c (r + 1) (adS i c s))) := hide (by
                    have : swI c (r + 1) (adS i c s) = swI c r (adS i c s) := by
                      show swS c r (swI c r (adS i c s)) = _
                      unfold swS
                      rw [if_neg (fun e => by rw [hb] at e; cases e.2)]
                    rw [this]
                    exact HS.out.more (by omega))
                  clear u0 u1 hb
                  go_wp2_with (go_at_call 37; (with_reducible refine Calls.mono cH ?_); rintro e w2 ⟨rfl, rfl⟩)
                  go_roundw
                  case rel => exact ⟨r + 1, by go_num, by omega, HS2, HB, HK⟩
                  case measure => simp [Go.RowKit.intOf]; omega
                | true =>
                  rw [hb] at cH
                  have cA : Calls Tryz.prog 38 #[.pointer (some ⟨S, 0, none⟩), .int .i64 (c : Int), .int .i64 (r : Int)] wr fun e w' => e = .returned (.tuple #[]) /\ SS w' B S G q m (k + 1 + (r + 1)) (swI c (r + 1) (adS i c s)) /\ Below B wr w' /\ KpG G wr w' := by
                    have : swI c (r + 1) (adS i c s) = adS c r (swI c r (adS i c s)) := by
                      show swS c r (swI c r (adS i c s)) = _
                      unfold swS
                      rw [if_pos ⟨hic, hb⟩]
                    rw [this]
                    exact rAdd HS.out c r hc h2 (by omega)
                  clear u0 u1 hb
                  go_wp2_with (first | (go_at_call 37; (with_reducible refine Calls.mono cH ?_); rintro e w2 ⟨rfl, rfl⟩) | (go_at_call 38; (with_reducible refine Calls.mono cA ?_); rintro e w3 ⟨rfl, q1, q2, q3⟩; have HS2 := hide q1; have HB2 := hide (HB.out.trans q2); have HK2 := hide (HK.out.trans q3); clear q1 q2 q3))
                  go_roundw
                  case rel => exact ⟨r + 1, by go_num, by omega, HS2, HB2, HK2⟩
                  case measure => simp [Go.RowKit.intOf]; omega
            . obtain rfl : m = r := by omega
              have hd : decide ((m : Int) < (m : Int)) = false := decide_eq_false (by omega)
              have HC : Hid (clS m c s = some (swI c m (adS i c s))) := hide (by unfold clS; rw [HP.out]; rfl)
              go_wp2_with fail
              go_ret
              refine ⟨fun e => (by rw [HC.out] at e; cases e), fun s' e => ?_, HB.out, HK.out⟩
              rw [HC.out] at e
              cases e
              exact ⟨rfl, HS.out.more (by omega)⟩
      . obtain rfl : m = i := by omega
        have hd : decide ((m : Int) < (m : Int)) = false := decide_eq_false (by omega)
        have hde : ((m : Int) == (m : Int)) = true := beq_self_eq_true _
        have HC : Hid (clS m c s = none) := hide (by unfold clS; rw [pr_none HL.out hc HN.out]; rfl)
        go_wp2_with fail
        go_ret
        exact ⟨fun _ => rfl, fun s' e => (by rw [HC.out] at e; cases e), HB0.out, HK0.out⟩
end Go.Proofs.YtjiopaojhenanaaGreatDoor.Rwt
