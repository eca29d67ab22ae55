import Derived.Test.YtoickolhekhgmaaGreatDoorEnbcfec9a1
import Derived.Test.YtoickolhekhgmaaGreatDoorEn3daee758
import Derived.Test.YtoickolhekhgmaaGreatDoorEn4f60fbcf
import Derived.Test.YtoickolhekhgmaaGreatDoorEn02f42a08
namespace Go.Proofs.YtoickolhekhgmaaGreatDoor.Cir
end Go.Proofs.YtoickolhekhgmaaGreatDoor.Cir
namespace Go.Proofs.YtoickolhekhgmaaGreatDoor.Gt
end Go.Proofs.YtoickolhekhgmaaGreatDoor.Gt
namespace Go.Proofs.YtoickolhekhgmaaGreatDoor.Oct
end Go.Proofs.YtoickolhekhgmaaGreatDoor.Oct
namespace Go.Proofs.YtoickolhekhgmaaGreatDoor.Pau
end Go.Proofs.YtoickolhekhgmaaGreatDoor.Pau
namespace Go.Proofs.YtoickolhekhgmaaGreatDoor.Tok
end Go.Proofs.YtoickolhekhgmaaGreatDoor.Tok
set_option maxRecDepth 100000
set_option maxHeartbeats 4000000
namespace Go.Proofs.YtoickolhekhgmaaGreatDoor.Exp
open Go.RowKit Go.Shelf Go.Proofs.YtoickolhekhgmaaGreatDoor.Oct Go.Proofs.YtoickolhekhgmaaGreatDoor.Tok Go.Proofs.YtoickolhekhgmaaGreatDoor.Gt Go.Proofs.YtoickolhekhgmaaGreatDoor.Cir
open Go.Proofs.YtoickolhekhgmaaGreatDoor.Pau (P pV oP Wd rt thrR dThrough ck At4 bkp)
theorem dCarried (c : Circ) (ao : Option Addr) (k : Nat) (p : P) (hp : Wd p) (w : World) (hC : Ci w c ao k) : Calls Tryz.prog 14 #[cV c ao k, pV p] w fun e w' => e = .returned (.int .i64 (stk c p)) /\ Below w.heap.size w w' := by
  have c1 := fun V (h : Below w.heap.size w V) => eMay c ao k V (hC.below h)
  have c2 := fun V (h : Below w.heap.size w V) => eUnitary c ao k V (hC.below h)
  have c3 := fun V (h : Below w.heap.size w V) => eClifford c ao k V (hC.below h)
  have c4 := fun W => Pau.dRight p hp W
  have hE := chk_two c
  have HS : Hid (stk c p = if (chkC c).2 ≠ 0 then 80 else if c.ops.any unO = true ∨ c.ops.any clO = true then 220 else if rt p = true /\ p.n = c.q then 0 else 130) := hide rfl
  generalize stk c p = R at *
  generalize rt p = r at *
  generalize (chkC c).2 = E2 at *
  obtain ⟨q, b, ops⟩ := c
  obtain ⟨pn, px, pz, pp⟩ := p
  unfold cV pV at *
  simp only at *
  generalize ops.any unO = U at *
  generalize ops.any clO = L at *
  generalize ops.length = n at *
  have hx0 := BX.new w q b ao n k (.int .i64 pn) (.int .u64 (px : Int)) (.int .u64 (pz : Int)) (.int .i64 pp)
  have hB0 := BX.bel w q b ao n k (.int .i64 pn) (.int .u64 (px : Int)) (.int .u64 (pz : Int)) (.int .i64 pp)
  clear hC hp
  rcases hE with rfl | rfl
  . simp only [ne_eq, not_true_eq_false, if_false] at HS
    obtain ⟨x0, x1, x2, x3, x4, x5, x6, x7⟩ := hx0.cells
    have HX0 := hide hx0
    have HB0 := hide hB0
    clear hx0 hB0
    cases U with
    | true =>
      obtain rfl : R = 220 := by simpa using HS.out
      clear HS
      go_enter Tryz.func14, Tryz.ntmps14
      go_wp2_with (first
        | (go_at_call 40; refine (c1 _ HB0.out).mono ?_; rintro e w2 ⟨rfl, hb2⟩; have HB2 := hide (bkp HB0.out hb2); have HX2 := hide (HX0.out.below hb2); clear x0 x1 x2 x3 x4 x5 x6 x7 hb2 HB0 HX0 c1; obtain ⟨x0, x1, x2, x3, x4, x5, x6, x7⟩ := HX2.out.cells)
        | (go_at_call 41; refine (c2 _ HB2.out).mono ?_; rintro e w3 ⟨rfl, hb3⟩; have HB3 := hide (bkp HB2.out hb3)))
      go_ret
      exact ⟨rfl, HB3.out⟩
    | false =>
      cases L with
      | true =>
        obtain rfl : R = 220 := by simpa using HS.out
        clear HS
        go_enter Tryz.func14, Tryz.ntmps14
        go_wp2_with (first
          | (go_at_call 40; refine (c1 _ HB0.out).mono ?_; rintro e w2 ⟨rfl, hb2⟩; have HB2 := hide (bkp HB0.out hb2); have HX2 := hide (HX0.out.below hb2); clear x0 x1 x2 x3 x4 x5 x6 x7 hb2 HB0 HX0 c1; obtain ⟨x0, x1, x2, x3, x4, x5, x6, x7⟩ := HX2.out.cells)
          | (go_at_call 41; refine (c2 _ HB2.out).mono ?_; rintro e w3 ⟨rfl, hb3⟩; have HB3 := hide (bkp HB2.out hb3); have HX3 := hide (HX2.out.below hb3); clear x0 x1 x2 x3 x4 x5 x6 x7 hb3 HB2 HX2 c2; obtain ⟨x0, x1, x2, x3, x4, x5, x6, x7⟩ := HX3.out.cells)
          | (go_at_call 42; refine (c3 _ HB3.out).mono ?_; rintro e w4 ⟨rfl, hb4⟩; have HB4 := hide (bkp HB3.out hb4)))
        go_ret
        exact ⟨rfl, HB4.out⟩
      | false =>
        cases r with
        | false =>
          obtain rfl : R = 130 := by simpa using HS.out
          clear HS
          go_enter Tryz.func14, Tryz.ntmps14
          go_wp2_with (first
            | (go_at_call 40; refine (c1 _ HB0.out).mono ?_; rintro e w2 ⟨rfl, hb2⟩; have HB2 := hide (bkp HB0.out hb2); have HX2 := hide (HX0.out.below hb2); clear x0 x1 x2 x3 x4 x5 x6 x7 hb2 HB0 HX0 c1; obtain ⟨x0, x1, x2, x3, x4, x5, x6, x7⟩ := HX2.out.cells)
            | (go_at_call 41; refine (c2 _ HB2.out).mono ?_; rintro e w3 ⟨rfl, hb3⟩; have HB3 := hide (bkp HB2.out hb3); have HX3 := hide (HX2.out.below hb3); clear x0 x1 x2 x3 x4 x5 x6 x7 hb3 HB2 HX2 c2; obtain ⟨x0, x1, x2, x3, x4, x5, x6, x7⟩ := HX3.out.cells)
            | (go_at_call 42; refine (c3 _ HB3.out).mono ?_; rintro e w4 ⟨rfl, hb4⟩; have HB4 := hide (bkp HB3.out hb4); have HX4 := hide (HX3.out.below hb4); clear x0 x1 x2 x3 x4 x5 x6 x7 hb4 HB3 HX3 c3; obtain ⟨x0, x1, x2, x3, x4, x5, x6, x7⟩ := HX4.out.cells)
            | (go_at_call 21; refine (c4 _).mono ?_; rintro e w5 ⟨rfl, hb5⟩; have HB5 := hide (bkp HB4.out hb5)))
          go_ret
          exact ⟨rfl, HB5.out⟩
        | true =>
          have hq : (pn != q) = !decide (pn = q) := by
            by_cases h : pn = q <;> simp [h]
          have HRes : Hid (R = if decide (pn = q) = true then 0 else 130) := hide (by rw [HS.out]; simp)
          generalize decide (pn = q) = dq at *
          clear HS
          cases dq with
          | true =>
            simp only [Bool.not_true] at hq
            obtain rfl : R = 0 := HRes.out
            clear HRes
            go_enter Tryz.func14, Tryz.ntmps14
            go_wp2_with (first
              | (go_at_call 40; refine (c1 _ HB0.out).mono ?_; rintro e w2 ⟨rfl, hb2⟩; have HB2 := hide (bkp HB0.out hb2); have HX2 := hide (HX0.out.below hb2); clear x0 x1 x2 x3 x4 x5 x6 x7 hb2 HB0 HX0 c1; obtain ⟨x0, x1, x2, x3, x4, x5, x6, x7⟩ := HX2.out.cells)
              | (go_at_call 41; refine (c2 _ HB2.out).mono ?_; rintro e w3 ⟨rfl, hb3⟩; have HB3 := hide (bkp HB2.out hb3); have HX3 := hide (HX2.out.below hb3); clear x0 x1 x2 x3 x4 x5 x6 x7 hb3 HB2 HX2 c2; obtain ⟨x0, x1, x2, x3, x4, x5, x6, x7⟩ := HX3.out.cells)
              | (go_at_call 42; refine (c3 _ HB3.out).mono ?_; rintro e w4 ⟨rfl, hb4⟩; have HB4 := hide (bkp HB3.out hb4); have HX4 := hide (HX3.out.below hb4); clear x0 x1 x2 x3 x4 x5 x6 x7 hb4 HB3 HX3 c3; obtain ⟨x0, x1, x2, x3, x4, x5, x6, x7⟩ := HX4.out.cells)
              | (go_at_call 21; refine (c4 _).mono ?_; rintro e w5 ⟨rfl, hb5⟩; have HB5 := hide (bkp HB4.out hb5); have HX5 := hide (HX4.out.below hb5); clear x0 x1 x2 x3 x4 x5 x6 x7 hb5 HB4 HX4 c4; obtain ⟨x0, x1, x2, x3, x4, x5, x6, x7⟩ := HX5.out.cells))
            go_ret
            exact ⟨rfl, HB5.out⟩
          | false =>
            simp only [Bool.not_false] at hq
            obtain rfl : R = 130 := by simpa using HRes.out
            clear HRes
            go_enter Tryz.func14, Tryz.ntmps14
            go_wp2_with (first
              | (go_at_call 40; refine (c1 _ HB0.out).mono ?_; rintro e w2 ⟨rfl, hb2⟩; have HB2 := hide (bkp HB0.out hb2); have HX2 := hide (HX0.out.below hb2); clear x0 x1 x2 x3 x4 x5 x6 x7 hb2 HB0 HX0 c1; obtain ⟨x0, x1, x2, x3, x4, x5, x6, x7⟩ := HX2.out.cells)
              | (go_at_call 41; refine (c2 _ HB2.out).mono ?_; rintro e w3 ⟨rfl, hb3⟩; have HB3 := hide (bkp HB2.out hb3); have HX3 := hide (HX2.out.below hb3); clear x0 x1 x2 x3 x4 x5 x6 x7 hb3 HB2 HX2 c2; obtain ⟨x0, x1, x2, x3, x4, x5, x6, x7⟩ := HX3.out.cells)
              | (go_at_call 42; refine (c3 _ HB3.out).mono ?_; rintro e w4 ⟨rfl, hb4⟩; have HB4 := hide (bkp HB3.out hb4); have HX4 := hide (HX3.out.below hb4); clear x0 x1 x2 x3 x4 x5 x6 x7 hb4 HB3 HX3 c3; obtain ⟨x0, x1, x2, x3, x4, x5, x6, x7⟩ := HX4.out.cells)
              | (go_at_call 21; refine (c4 _).mono ?_; rintro e w5 ⟨rfl, hb5⟩; have HB5 := hide (bkp HB4.out hb5); have HX5 := hide (HX4.out.below hb5); clear x0 x1 x2 x3 x4 x5 x6 x7 hb5 HB4 HX4 c4; obtain ⟨x0, x1, x2, x3, x4, x5, x6, x7⟩ := HX5.out.cells))
            go_ret
            exact ⟨rfl, HB5.out⟩
  . obtain rfl : R = 80 := by simpa using HS.out
    clear HS
    obtain ⟨x0, x1, x2, x3, x4, x5, x6, x7⟩ := hx0.cells
    have HB0 := hide hB0
    clear hB0 hx0
    go_enter Tryz.func14, Tryz.ntmps14
    go_wp2_with (go_at_call 40; refine (c1 _ HB0.out).mono ?_; rintro e w2 ⟨rfl, hb2⟩; have HB2 := hide (bkp HB0.out hb2); clear hb2 c1)
    go_ret
    exact ⟨rfl, HB2.out⟩
open Go.Proofs.YtoickolhekhgmaaGreatDoor.Pau (P pV oP Wd rt thrR dThrough ck At4 bkp)
structure FJ (w : World) (q b : Int) (ao : Option Addr) (n k : Nat) (p : P) (W : World) : Prop where
  fi : FI w p W
  c : W.heap[w.heap.size]? = some (.cells #[.int .i64 q, .int .i64 b, .slice ao n k] 24 (0, 0))
theorem FJ.below {w : World} {q b : Int} {ao : Option Addr} {n k : Nat} {p : P} {W V : World} (h : FJ w q b ao n k p W) (hb : Below W.heap.size W V) : FJ w q b ao n k p V :=
  ⟨h.fi.below hb, (hb.block _ (Array.getElem?_eq_some_iff.1 h.c).1).trans h.c⟩
theorem FJ.set {w : World} {q b : Int} {ao : Option Addr} {n k : Nat} {p : P} {W : World} (h : FJ w q b ao n k p W) (r : P) : FJ w q b ao n k r (W.setRow (w.heap.size + 1) #[.int .i64 r.n, .int .u64 (r.x : Int), .int .u64 (r.z : Int), .int .i64 r.ph]) :=
  ⟨h.fi.set r, (setRow_other _ _ _ _ (by omega)).trans h.c⟩
theorem FJ.new (w : World) (q b : Int) (ao : Option Addr) (n k : Nat) (p : P) : FJ w q b ao n k p (((w.alloc (.cells #[.int .i64 q, .int .i64 b, .slice ao n k] 24)).alloc (.cells #[.int .i64 p.n, .int .u64 (p.x : Int), .int .u64 (p.z : Int), .int .i64 p.ph] 27)).alloc (.cells #[.int .i64 0, .int .u64 0, .int .u64 0, .int .i64 0] 27)) :=
  ⟨FI.new w q b ao n k p, ((BX.new w q b ao n k _ _ _ _).below (bnew _ _)).c⟩
theorem bw_take (ops : List COp) (p : P) (i : Nat) (o : COp) (hi : i < ops.length) (h : ops[ops.length - 1 - i]? = some o) : (ops.reverse.take (i + 1)).foldl bwS p = bwS ((ops.reverse.take i).foldl bwS p) o := by
  rw [List.take_add_one, List.getElem?_reverse hi, h, List.foldl_append]
  rfl
theorem dForth (c : Circ) (ao : Option Addr) (k : Nat) (p : P) (hp : Wd p) (w : World) (hC : Ci w c ao k) : Calls Tryz.prog 5 #[cV c ao k, pV p] w fun e w' => e = .returned (.tuple #[pV (fwR c p).1, .int .i64 (fwR c p).2]) /\ Below w.heap.size w w' := by
  have c1 := fun V (h : Below w.heap.size w V) => dCarried c ao k p hp V (hC.below h)
  have HTH : Hid (∀ q, Wd q -> ∀ (i : Nat) o, c.ops[i]? = some o -> ∀ aq cq V, Ns V aq o.qs -> Calls Tryz.prog 15 #[pV q, .int .i64 o.gate, .slice aq o.qs.length cq] V fun e w' => e = .returned (.tuple #[pV (thrR o.gate o.qs q).1, .int .i64 (thrR o.gate o.qs q).2]) /\ Below V.heap.size V w') := hide (fun q hq i o ho aq cq V hN => dThrough q hq _ o.qs (hC.qs o (List.mem_of_getElem? ho)) aq cq V hN)
  have HO := hide hC.ops
  have hlen := hC.len
  obtain ⟨F, hF⟩ : ∃ F : Nat -> P, F = fun i => fw (c.ops.take i) p := ⟨_, rfl⟩
  have HW' : Hid (∀ i, Wd (F i)) := hide (fun i => by rw [hF]; exact wd_fw _ _ hp)
  have HF' : Hid (∀ i o, c.ops[i]? = some o -> F (i + 1) = fwS (F i) o) := hide (fun i o h => by rw [hF]; exact fw_take _ _ _ _ h)
  have HF0' : Hid (F 0 = p) := hide (by rw [hF]; rfl)
  have HFN' : Hid (F c.ops.length = fw c.ops p) := hide (by rw [hF]; show fw (c.ops.take c.ops.length) p = _; rw [List.take_length])
  unfold fwR
  generalize fw c.ops p = FN at *
  clear hF hC hp
  generalize stk c p = E at *
  obtain ⟨q, b, ops⟩ := c
  obtain ⟨n, hn⟩ : ∃ n, ops.length = n := ⟨_, rfl⟩
  have HN := hide hn
  obtain ⟨pn, px, pz, pp⟩ := p
  unfold cV pV at *
  simp only at *
  rw [hn] at hlen HFN'
  simp only [hn] at c1 ⊢
  clear hn
  have hI0 := FJ.new w q b ao n k ⟨pn, px, pz, pp⟩
  have hx0 := (BX.new w q b ao n k (.int .i64 pn) (.int .u64 (px : Int)) (.int .u64 (pz : Int)) (.int .i64 pp)).below (bnew _ (.cells #[.int .i64 0, .int .u64 0, .int .u64 0, .int .i64 0] 27))
  obtain ⟨x0, x1, x2, x3, x4, x5, x6, x7⟩ := hx0.cells
  simp only at hI0
  by_cases hE : E = 0
  . subst hE
    simp only [if_true]
    go_enter Tryz.func5, Tryz.ntmps5
    go_wp2_with (go_at_call 14; refine (c1 _ hI0.fi.bel).mono ?_; rintro e w2 ⟨rfl, hb2⟩; have hI2 := hI0.below hb2; have hx2 := hx0.below hb2; clear x0 x1 x2 x3 x4 x5 x6 x7 hb2 hI0 hx0 c1; obtain ⟨x0, x1, x2, x3, x4, x5, x6, x7⟩ := hx2.cells)
    have HI2 := hide hI2
    clear hI2 hx2
    go_loopw [7] (fun vi wr => ∃ i : Nat, vi = .int .i64 ((i : Int)) /\ i <= n /\ Hid (FJ w q b ao n k (F i) wr)) (fun vi _ => n - (Go.RowKit.intOf vi).toNat)
    case atStart => exact ⟨0, rfl, Nat.zero_le _, hide (by rw [HF0'.out]; exact HI2.out)⟩
    case round =>
      obtain ⟨i, rfl, hi, HI⟩ := hrel
      clear x0 x1 x2 x3 x4 x5 x6 x7 HI2
      have hb := HI.out.fi.bel
      obtain ⟨y0, y1, y2, -⟩ := def_cells HI.out.c
      by_cases h : i < n
      . have hd : decide ((i : Int) < (n : Int)) = true := decide_eq_true (by omega)
        have hiZ : (i : Int) < (n : Int) := by omega
        obtain ⟨o, ho⟩ : ∃ o, ops[i]? = some o := ⟨_, List.getElem?_eq_getElem (by rw [HN.out]; exact h)⟩
        have HS := hide (HF'.out i o ho)
        obtain ⟨g, off, aq, cq, rfl, hgl, hoc⟩ := (HO.out.below hb).at ho
        have k0 := hoc.kind
        have HOC := hide hoc
        have c2 := fun V (h : Below wr.heap.size wr V) => HTH.out (F i) (HW'.out i) i o ho aq cq V (hoc.ns.below h)
        unfold fwS at HS
        generalize thrR o.gate o.qs (F i) = R at *
        generalize F i = qi at *
        obtain ⟨⟨rn, rx, rz, rp⟩, re⟩ := R
        obtain ⟨qn, qx, qz, qp⟩ := qi
        simp only at c2 HS
        clear hoc ho
        by_cases hk : o.kind = 1
        . have HS2 : Hid (F (i + 1) = ⟨rn, rx, rz, rp⟩) := hide (HS.out.trans (if_pos hk))
          rw [hk] at k0
          have HK : Hid (∀ V, Below wr.heap.size wr V -> (V.cell? ⟨w.heap.size, 2, none⟩ = some (.slice (some ⟨g, off, none⟩) n k) /\ w.heap.size < V.heap.size) /\ (V.cell? ⟨w.heap.size + 1, 0, none⟩ = some (.int .i64 qn) /\ V.cell? ⟨w.heap.size + 1, 1, none⟩ = some (.int .u64 (qx : Int)) /\ V.cell? ⟨w.heap.size + 1, 2, none⟩ = some (.int .u64 (qz : Int)) /\ V.cell? ⟨w.heap.size + 1, 3, none⟩ = some (.int .i64 qp) /\ w.heap.size + 1 < V.heap.size) /\ V.cell? ⟨g, off + i * 6 + 1, none⟩ = some (.int .i64 o.gate) /\ V.cell? ⟨g, off + i * 6 + 2, none⟩ = some (.slice aq o.qs.length cq) /\ g < V.heap.size) := hide (fun V hV => ⟨⟨(hV.cell (p := ⟨w.heap.size, 2, none⟩) (World.block_lt_of_cell? _ _ y2)).trans y2, Nat.lt_of_lt_of_le (World.block_lt_of_cell? _ _ y2) hV.size⟩, (HI.out.fi.p.below hV).cells, (HOC.out.below hV).gate, (HOC.out.below hV).qs, Nat.lt_of_lt_of_le hgl hV.size⟩)
          have HC2 := hide c2
          have HB0 := hide hb
          clear HS c2 hb
          generalize o.gate = gate at *
          generalize o.qs.length = lq at *
          clear hk
          go_wp2_with fail
          clear y0 y1 y2 k0
          refine wp_region_quiet_S (C := fun V => Below wr.heap.size wr V) (by kernel_rfl) 16 rfl rfl rfl (by kernel_rfl) (by kernel_rfl) (Pau.bdrew (Below.refl _ _) 1) (fun a v w => Pau.store_swap rfl (by decide) (by decide) a v w) ?_
          simp only [List.take_succ_cons, List.take_zero]
          repeat
            refine wpQuiet_step (fun K hK => ?_)
            go_simp
            first
              | (refine hK _ ?_; clear hK K)
              | (apply Exists.intro
                 refine ⟨fun V hV => ?_, hK _ ?_⟩
                 first
                   | ((with_reducible refine Calls.mono (HC2.out V hV) ?_); rintro e y ⟨rfl, hb⟩; exact ⟨rfl, bkp hV hb⟩)
                   | (obtain ⟨⟨z0, z1⟩, ⟨d0, d1, d2, d3, d4⟩, d5, d6, d7⟩ := HK.out V hV; go_simp; rfl)
                 clear hK K)
          refine wpQuiet_nil ?_
          intro W3 hW
          have hR := HI.out.fi.p.below hW
          have HI3 := hide (HI.out.below hW)
          unfold At4 at hR
          refine ⟨_, Pau.store_run rfl rfl rfl hR (by exact Pau.infoP) (by rfl) (Pau.allP _ _ _ _), ?_⟩
          go_wp2_with fail
          go_roundw
          case rel => exact ⟨i + 1, by go_num, by omega, hide (by rw [HS2.out]; exact HI3.out.set ⟨rn, rx, rz, rp⟩)⟩
          case measure => simp [Go.RowKit.intOf]; omega
        . have e1 : (o.kind == 1) = false := by simpa using hk
          have HS2 : Hid (F (i + 1) = ⟨qn, qx, qz, qp⟩) := hide (HS.out.trans (if_neg hk))
          clear HS hk c2
          generalize o.kind = kind at *
          go_wp2_with fail
          go_roundw
          case rel => exact ⟨i + 1, by go_num, by omega, hide (by rw [HS2.out]; exact HI.out)⟩
          case measure => simp [Go.RowKit.intOf]; omega
      . obtain rfl : n = i := by omega
        have hd : decide ((n : Int) < (n : Int)) = false := decide_eq_false (by omega)
        have HI3 : Hid (FJ w q b ao n k FN wr) := hide (by rw [← HFN'.out]; exact HI.out)
        clear HI
        obtain ⟨a0, a1, a2, a3, a4⟩ := HI3.out.fi.p.cells
        obtain ⟨fn, fx, fz, fp⟩ := FN
        have hR := HI3.out.fi.z
        unfold At4 at hR
        go_wp2_with (refine wpList_store_row rfl _ _ _ rfl (w.heap.size + 2) _ rfl rfl _ _ hR (by exact Pau.infoP) (by rfl) (Pau.allP _ _ _ _) ?_)
        refine bodyPost_ret (Pau.results_ct rfl _ _ (w.heap.size + 2) _ _ _ _ rfl (setRow_heap _ _ _ _ _ _ hR) Tryz.underlying27 rfl (by exact Pau.infoP)) rfl ?_
        exact ⟨rfl, below_setRow HI3.out.fi.bel (by omega) _⟩
  . simp only [if_neg hE]
    have e1 : (E != 0) = true := by simpa using hE
    go_enter Tryz.func5, Tryz.ntmps5
    go_wp2_with (first | (go_at_call 14; refine (c1 _ hI0.fi.bel).mono ?_; rintro e w2 ⟨rfl, hb2⟩; have hI2 := hI0.below hb2; have hR := hI2.fi.z; unfold At4 at hR; clear x0 x1 x2 x3 x4 x5 x6 x7 hb2 hI0 hx0 c1) | refine wpList_store_row rfl _ _ _ rfl (w.heap.size + 2) #[.int .i64 0, .int .u64 0, .int .u64 0, .int .i64 0] rfl (by rfl) _ _ hR (by exact Pau.infoP) (by rfl) (Pau.allP _ _ _ _) ?_)
    refine bodyPost_ret (Pau.results_ct rfl _ _ (w.heap.size + 2) _ _ _ _ rfl (setRow_heap _ _ _ _ _ _ hR) Tryz.underlying27 rfl (by exact Pau.infoP)) rfl ?_
    exact ⟨rfl, below_setRow hI2.fi.bel (by omega) _⟩
theorem dBack (c : Circ) (ao : Option Addr) (k : Nat) (p : P) (hp : Wd p) (w : World) (hC : Ci w c ao k) : Calls Tryz.prog 7 #[cV c ao k, pV p] w fun e w' => e = .returned (.tuple #[pV (bwR c p).1, .int .i64 (bwR c p).2]) /\ Below w.heap.size w w' := by
  have c1 := fun V (h : Below w.heap.size w V) => dCarried c ao k p hp V (hC.below h)
  have HTH : Hid (∀ q, Wd q -> ∀ (i : Nat) o, c.ops[i]? = some o -> ∀ aq cq V, Ns V aq o.qs -> Calls Tryz.prog 15 #[pV q, .int .i64 (rw' o.gate).v, .slice aq o.qs.length cq] V fun e w' => e = .returned (.tuple #[pV (thrR (rw' o.gate).v o.qs q).1, .int .i64 (thrR (rw' o.gate).v o.qs q).2]) /\ Below V.heap.size V w') := hide (fun q hq i o ho aq cq V hN => dThrough q hq _ o.qs (hC.qs o (List.mem_of_getElem? ho)) aq cq V hN)
  have HO := hide hC.ops
  have hlen := hC.len
  obtain ⟨F, hF⟩ : ∃ F : Nat -> P, F = fun i => (c.ops.reverse.take i).foldl bwS p := ⟨_, rfl⟩
  have HW' : Hid (∀ i, Wd (F i)) := hide (fun i => by rw [hF]; exact wd_bw _ _ hp)
  have HF' : Hid (∀ i o, i < c.ops.length -> c.ops[c.ops.length - 1 - i]? = some o -> F (i + 1) = bwS (F i) o) := hide (fun i o hi h => by rw [hF]; exact bw_take _ _ _ _ hi h)
  have HF0' : Hid (F 0 = p) := hide (by rw [hF]; rfl)
  have HFN' : Hid (F c.ops.length = bw c.ops p) := hide (by rw [hF]; show (c.ops.reverse.take c.ops.length).foldl bwS p = c.ops.reverse.foldl bwS p; rw [List.take_of_length_le (by simp)])
  unfold bwR
  generalize bw c.ops p = FN at *
  clear hF hC hp
  generalize stk c p = E at *
  obtain ⟨q, b, ops⟩ := c
  obtain ⟨n, hn⟩ : ∃ n, ops.length = n := ⟨_, rfl⟩
  have HN := hide hn
  obtain ⟨pn, px, pz, pp⟩ := p
  unfold cV pV at *
  simp only at *
  rw [hn] at hlen HFN'
  simp only [hn] at c1 HF' ⊢
  clear hn
  have hI0 := FJ.new w q b ao n k ⟨pn, px, pz, pp⟩
  have hx0 := (BX.new w q b ao n k (.int .i64 pn) (.int .u64 (px : Int)) (.int .u64 (pz : Int)) (.int .i64 pp)).below (bnew _ (.cells #[.int .i64 0, .int .u64 0, .int .u64 0, .int .i64 0] 27))
  obtain ⟨x0, x1, x2, x3, x4, x5, x6, x7⟩ := hx0.cells
  simp only at hI0
  by_cases hE : E = 0
  . subst hE
    simp only [if_true]
    go_enter Tryz.func7, Tryz.ntmps7
    have hwn : IntKind.i64.wrap ((n : Int) - 1) = (n : Int) - 1 := by rw [IntKind.wrap_i64]; omega
    go_wp2_with (go_at_call 14; refine (c1 _ hI0.fi.bel).mono ?_; rintro e w2 ⟨rfl, hb2⟩; have hI2 := hI0.below hb2; have hx2 := hx0.below hb2; clear x0 x1 x2 x3 x4 x5 x6 x7 hb2 hI0 hx0 c1; obtain ⟨x0, x1, x2, x3, x4, x5, x6, x7⟩ := hx2.cells)
    have HI2 := hide hI2
    clear hI2 hx2
    go_loopw [7] (fun vi wr => ∃ i : Nat, vi = .int .i64 ((n : Int) - 1 - (i : Int)) /\ i <= n /\ Hid (FJ w q b ao n k (F i) wr)) (fun vi _ => (Go.RowKit.intOf vi + 1).toNat)
    case atStart => exact ⟨0, by simp, Nat.zero_le _, hide (by rw [HF0'.out]; exact HI2.out)⟩
    case round =>
      obtain ⟨i, rfl, hi, HI⟩ := hrel
      clear x0 x1 x2 x3 x4 x5 x6 x7 HI2
      have hb := HI.out.fi.bel
      obtain ⟨y0, y1, y2, -⟩ := def_cells HI.out.c
      by_cases h : i < n
      . obtain ⟨j, hj⟩ : ∃ j, j + i + 1 = n := ⟨n - 1 - i, by omega⟩
        have hji : n - 1 - i = j := by omega
        have hkz : (n : Int) - 1 - (i : Int) = (j : Int) := by omega
        rw [hkz]
        have hjn : j < n := by omega
        have hiZ : (j : Int) < (n : Int) := by omega
        have hw1 : IntKind.i64.wrap ((j : Int) - 1) = (j : Int) - 1 := by rw [IntKind.wrap_i64]; omega
        have hnx : (j : Int) - 1 = (n : Int) - 1 - ((i + 1 : Nat) : Int) := by omega
        have HNX := hide hnx
        obtain ⟨o, ho⟩ : ∃ o, ops[j]? = some o := ⟨_, List.getElem?_eq_getElem (by rw [HN.out]; exact hjn)⟩
        have HS := hide (HF'.out i o h (by rw [hji]; exact ho))
        have HI1 := hide h
        clear hkz hnx hji hj hwn h
        obtain ⟨g, off, aq, cq, rfl, hgl, hoc⟩ := (HO.out.below hb).at ho
        have k0 := hoc.kind
        have HOC := hide hoc
        have c2 := fun V (h : Below wr.heap.size wr V) => HTH.out (F i) (HW'.out i) j o ho aq cq V (hoc.ns.below h)
        unfold bwS at HS
        generalize thrR (rw' o.gate).v o.qs (F i) = R at *
        generalize F i = qi at *
        obtain ⟨⟨rn, rx, rz, rp⟩, re⟩ := R
        obtain ⟨qn, qx, qz, qp⟩ := qi
        simp only at c2 HS
        clear hoc ho
        by_cases hk : o.kind = 1
        . have HS2 : Hid (F (i + 1) = ⟨rn, rx, rz, rp⟩) := hide (HS.out.trans (if_pos hk))
          rw [hk] at k0
          have HK : Hid (∀ V, Below wr.heap.size wr V -> (V.cell? ⟨w.heap.size, 2, none⟩ = some (.slice (some ⟨g, off, none⟩) n k) /\ w.heap.size < V.heap.size) /\ (V.cell? ⟨w.heap.size + 1, 0, none⟩ = some (.int .i64 qn) /\ V.cell? ⟨w.heap.size + 1, 1, none⟩ = some (.int .u64 (qx : Int)) /\ V.cell? ⟨w.heap.size + 1, 2, none⟩ = some (.int .u64 (qz : Int)) /\ V.cell? ⟨w.heap.size + 1, 3, none⟩ = some (.int .i64 qp) /\ w.heap.size + 1 < V.heap.size) /\ V.cell? ⟨g, off + j * 6 + 1, none⟩ = some (.int .i64 o.gate) /\ V.cell? ⟨g, off + j * 6 + 2, none⟩ = some (.slice aq o.qs.length cq) /\ g < V.heap.size) := hide (fun V hV => ⟨⟨(hV.cell (p := ⟨w.heap.size, 2, none⟩) (World.block_lt_of_cell? _ _ y2)).trans y2, Nat.lt_of_lt_of_le (World.block_lt_of_cell? _ _ y2) hV.size⟩, (HI.out.fi.p.below hV).cells, (HOC.out.below hV).gate, (HOC.out.below hV).qs, Nat.lt_of_lt_of_le hgl hV.size⟩)
          have HC2 := hide c2
          have HB0 := hide hb
          clear HS c2 hb
          generalize o.gate = gate at *
          generalize o.qs.length = lq at *
          clear hk
          go_wp2_with fail
          clear y0 y1 y2 k0
          refine wp_region_quiet_S (C := fun V => Below wr.heap.size wr V) (by kernel_rfl) 17 rfl rfl rfl (by kernel_rfl) (by kernel_rfl) (Pau.bdrew (Below.refl _ _) 1) (fun a v w => Pau.store_swap rfl (by decide) (by decide) a v w) ?_
          simp only [List.take_succ_cons, List.take_zero]
          repeat
            refine wpQuiet_step (fun K hK => ?_)
            go_simp
            first
              | (refine hK _ ?_; clear hK K)
              | (apply Exists.intro
                 refine ⟨fun V hV => ?_, hK _ ?_⟩
                 first
                   | ((with_reducible refine Calls.mono (HC2.out V hV) ?_); rintro e y ⟨rfl, hb⟩; exact ⟨rfl, bkp hV hb⟩)
                   | ((with_reducible refine Calls.mono (hInverse gate V) ?_); rintro e y ⟨rfl, rfl⟩; exact ⟨rfl, hV⟩)
                   | (obtain ⟨⟨z0, z1⟩, ⟨d0, d1, d2, d3, d4⟩, d5, d6, d7⟩ := HK.out V hV; go_simp; rfl)
                 clear hK K)
          refine wpQuiet_nil ?_
          intro W3 hW
          have hR := HI.out.fi.p.below hW
          have HI3 := hide (HI.out.below hW)
          unfold At4 at hR
          refine ⟨_, Pau.store_run rfl rfl rfl hR (by exact Pau.infoP) (by rfl) (Pau.allP _ _ _ _), ?_⟩
          go_wp2_with fail
          go_roundw
          case rel => exact ⟨i + 1, by rw [← HNX.out], by have := HI1.out; omega, hide (by rw [HS2.out]; exact HI3.out.set ⟨rn, rx, rz, rp⟩)⟩
          case measure => simp [Go.RowKit.intOf]
        . have e1 : (o.kind == 1) = false := by simpa using hk
          have HS2 : Hid (F (i + 1) = ⟨qn, qx, qz, qp⟩) := hide (HS.out.trans (if_neg hk))
          clear HS hk c2
          generalize o.kind = kind at *
          go_wp2_with fail
          go_roundw
          case rel => exact ⟨i + 1, by rw [← HNX.out], by have := HI1.out; omega, hide (by rw [HS2.out]; exact HI.out)⟩
          case measure => simp [Go.RowKit.intOf]
      . obtain rfl : n = i := by omega
        have hd : decide ((n : Int) - 1 - (n : Int) ≥ 0) = false := decide_eq_false (by omega)
        have HI3 : Hid (FJ w q b ao n k FN wr) := hide (by rw [← HFN'.out]; exact HI.out)
        clear HI
        obtain ⟨a0, a1, a2, a3, a4⟩ := HI3.out.fi.p.cells
        obtain ⟨fn, fx, fz, fp⟩ := FN
        have hR := HI3.out.fi.z
        unfold At4 at hR
        go_wp2_with (refine wpList_store_row rfl _ _ _ rfl (w.heap.size + 2) _ rfl rfl _ _ hR (by exact Pau.infoP) (by rfl) (Pau.allP _ _ _ _) ?_)
        refine bodyPost_ret (Pau.results_ct rfl _ _ (w.heap.size + 2) _ _ _ _ rfl (setRow_heap _ _ _ _ _ _ hR) Tryz.underlying27 rfl (by exact Pau.infoP)) rfl ?_
        exact ⟨rfl, below_setRow HI3.out.fi.bel (by omega) _⟩
  . simp only [if_neg hE]
    have e1 : (E != 0) = true := by simpa using hE
    go_enter Tryz.func7, Tryz.ntmps7
    go_wp2_with (first | (go_at_call 14; refine (c1 _ hI0.fi.bel).mono ?_; rintro e w2 ⟨rfl, hb2⟩; have hI2 := hI0.below hb2; have hR := hI2.fi.z; unfold At4 at hR; clear x0 x1 x2 x3 x4 x5 x6 x7 hb2 hI0 hx0 c1) | refine wpList_store_row rfl _ _ _ rfl (w.heap.size + 2) #[.int .i64 0, .int .u64 0, .int .u64 0, .int .i64 0] rfl (by rfl) _ _ hR (by exact Pau.infoP) (by rfl) (Pau.allP _ _ _ _) ?_)
    refine bodyPost_ret (Pau.results_ct rfl _ _ (w.heap.size + 2) _ _ _ _ rfl (setRow_heap _ _ _ _ _ _ hR) Tryz.underlying27 rfl (by exact Pau.infoP)) rfl ?_
    exact ⟨rfl, below_setRow hI2.fi.bel (by omega) _⟩
end Go.Proofs.YtoickolhekhgmaaGreatDoor.Exp
