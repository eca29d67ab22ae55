import Derived.Test.YtoickolhekhgmaaGreatDoorEnbcfec9a1
import Derived.Test.YtoickolhekhgmaaGreatDoorEn71ea049b
namespace Go.Proofs.YtoickolhekhgmaaGreatDoor.Cir
end Go.Proofs.YtoickolhekhgmaaGreatDoor.Cir
namespace Go.Proofs.YtoickolhekhgmaaGreatDoor.Gt
end Go.Proofs.YtoickolhekhgmaaGreatDoor.Gt
namespace Go.Proofs.YtoickolhekhgmaaGreatDoor.Lay
end Go.Proofs.YtoickolhekhgmaaGreatDoor.Lay
namespace Go.Proofs.YtoickolhekhgmaaGreatDoor.Oct
end Go.Proofs.YtoickolhekhgmaaGreatDoor.Oct
namespace Go.Proofs.YtoickolhekhgmaaGreatDoor.Pau
end Go.Proofs.YtoickolhekhgmaaGreatDoor.Pau
namespace Go.Proofs.YtoickolhekhgmaaGreatDoor.Tok
end Go.Proofs.YtoickolhekhgmaaGreatDoor.Tok
set_option maxRecDepth 100000
set_option maxHeartbeats 2000000
namespace Go.Proofs.YtoickolhekhgmaaGreatDoor.Exp
open Go.RowKit Go.Shelf Go.Proofs.YtoickolhekhgmaaGreatDoor.Oct Go.Proofs.YtoickolhekhgmaaGreatDoor.Tok Go.Proofs.YtoickolhekhgmaaGreatDoor.Gt Go.Proofs.YtoickolhekhgmaaGreatDoor.Cir
open Go.Proofs.YtoickolhekhgmaaGreatDoor.Pau (P pV oP Wd rt thrR pThrough pCheck ck At4 Ts Ti bkp)
open Go.Proofs.YtoickolhekhgmaaGreatDoor.Lay (lBackward back_stops KB It oa oa_some list_inR op_inR alloc_setRow infoO6)
open Go.Proofs.YtoickolhekhgmaaGreatDoor.Lay (any_inR)
attribute [local go_sem] Oper.semAt_some
def noDef (ops : Array Oper) : Bool := ops.all fun o => match o.op with | .defer _ => false | _ => true
theorem noDef_of {ops : Array Oper} (h : noDef ops = true) : ∀ o ∈ ops, ∀ c, o.op ≠ .defer c := by
  intro o ho c e
  unfold noDef at h
  rw [Array.all_eq_true_iff_forall_mem] at h
  have := h o ho
  rw [e] at this
  simp at this
theorem region_quiet_S_in {P : Program} {C : World -> Prop} {Q : Exit -> Act -> World -> Prop} {m lb : Nat} {id : Nat} {a : Act} {w : World} {l : List Oper} {oA oB : Oper} {x : Operand} {ix : Nat} (hnd : noDef l.toArray = true) (hm : P.follows .mixedOrders = true) (n : Nat) (hn : l.drop n = [oA, oB]) (hoA : oA.op = .extract x ix) (hBd : oB.dst = none)
    (hB : (Region.noSelect (l.take (n + 1)).toArray && Region.lexFrom .any (l.take (n + 1)).toArray (n + 1) 0 (Array.replicate (n + 2) false)) = true) (hF : frontSB .any l.toArray n = true) (hC : C { w with drawn := w.drawn + 1 })
    (swapB : ∀ (a : Act) (v : Value) (w : World), (execOp (a.put oA.dst v).eval oB).run P w = (execOp a.eval oB).run P w)
    (h : wpQuiet P (l.take (n + 1)).toArray C (fun a' => ∀ w', C w' -> ∃ w'', (execOp a'.eval oB).run P w' = .ok .skip w'' /\ (Exit.normal ≠ .outgrown /\ Q .normal a' w'')) (l.take (n + 1)) a) : (Code.region id l.toArray true).wpIn (Fence.wide.inRound lb) m P Q a w := by
  have hf := frontS_of hF
  have hsz : l.length = n + 2 := by simpa using hf.size
  have hpop : l.toArray.pop = (l.take (n + 1)).toArray := by
    apply Array.ext'
    simp [List.dropLast_eq_take, hsz]
  have h1 : l.toArray[n]? = some oA := by
    have := congrArg (·[0]?) hn
    simpa using this
  have h2 : l.toArray[n + 1]? = some oB := by
    have := congrArg (·[1]?) hn
    simpa using this
  have htl : (l.take (n + 1)).length = n + 1 := by simp; omega
  rw [Bool.and_eq_true] at hB
  have hB2 := hB.2
  have H := wpAnyQ_lex (P := P) (C := C) (md := .any) hB.1 (l.take (n + 1)) 0 (Array.replicate (n + 2) false) a (by simp) (by rw [htl]; exact hB2) h
  refine wpIn_region_any hm (any_inR (noDef_of hnd) _ _ _ _ ?_)
  rw [htl, ← hpop] at H
  have := wpAny_of_frontS (P := P) (C := C) (Q := fun e a w => e ≠ .outgrown /\ Q e a w) hf h1 h2 hBd (fun a w1 w2 v _ hq => extract_pure hoA a w1 w2 v hq) swapB (n + 1) (Array.replicate (n + 2) false) a _ hC (by simp) (by simp) H
  simpa [hsz] using this
theorem fi_own {β : Type} (w : World) (f : β -> P) (B : Nat) (hB : w.heap.size <= B) : OwnFrom B (fun (s : β) W => FI w (f s) W) := fun s W W' row hs hg hr => by
  have key : ∀ (g : Nat) (cs : Array Value) (t : TypeId) (fr : Nat × Nat), W.heap[g]? = some (Obj.cells cs t fr) -> W'.heap[g]? = W.heap[g]? := fun g cs t fr hgc => hg.block g (Array.getElem?_eq_some_iff.1 hgc).1 (fun e => by
    obtain ⟨-, o, ho, hc⟩ := hr g e.symm
    rw [hgc] at ho
    cases ho
    cases hc)
  exact ⟨hs.bel.grown hg hs.bel.size (fun k e => Nat.le_trans hB (hr k e).1), (key _ _ _ _ hs.p).trans hs.p, (key _ _ _ _ hs.z).trans hs.z⟩
theorem keeps_below {w w' : World} (h : Below w.heap.size w w') : KeepsOthers w w' := ⟨h.size, fun k _ hk _ => (h.block k (Array.getElem?_eq_some_iff.1 hk).1).trans hk⟩
theorem big_own {β : Type} (n B : Nat) : OwnFrom B (fun (_ : β) W => n < W.heap.size) := fun _ _ _ _ hs hg _ => Nat.lt_of_lt_of_le hs hg.size
theorem KeepsOthers.setRow {W : World} {g : Nat} {old : Array Value} {t : TypeId} {fr : Nat × Nat} (h : W.heap[g]? = some (.cells old t fr)) (cs : Array Value) : KeepsOthers W (W.setRow g cs) :=
  ⟨by simp [World.setRow], fun k o hk ho => by
    by_cases e : k = g
    . subst e
      rw [h] at hk
      cases hk
      cases ho
    . exact (setRow_other _ _ _ _ e).trans hk⟩
theorem xBack (c : Circ) (ao : Option Addr) (k : Nat) (p : P) (hp : Wd p) (w : World) (hT : Tbl.Tg w) (hC : Ci w c ao k) : Calls Tryz.prog 6 #[cV c ao k, pV p] w fun e w' => e = .returned (.tuple #[pV (bwR c p).1, .int .i64 (bwR c p).2]) /\ Below w.heap.size w w' := by
  have c1 := fun V (h : Below w.heap.size w V) => xStuck c ao k p hp V (hT.tb.below h) (hC.below h)
  have HTH : Hid (∀ q, Wd q -> ∀ (i : Nat) o, c.ops[i]? = some o -> ∀ aq cq V, Below w.heap.size w V -> o.qs.length <= cq -> Ns V aq o.qs -> Calls Tryz.prog 13 #[pV q, .int .i64 (rw' o.gate).v, .slice aq o.qs.length cq] V fun e w' => e = .returned (.tuple #[pV (thrR (rw' o.gate).v o.qs q).1, .int .i64 (thrR (rw' o.gate).v o.qs q).2]) /\ Below V.heap.size V w') := hide (fun q hq i o ho aq cq V hb hr hN => pThrough q hq (rw' o.gate).v o.qs (hC.qs o (List.mem_of_getElem? ho)) aq cq hr V (hT.tb.below hb) (hT.ts.below hb) (hT.ti.below hb) hN)
  have HO := hide hC.ops
  have hlen := hC.len
  have HIV := hide (fun g V (h : Below w.heap.size w V) => gInverse g V (hT.tb.below h))
  have HBK := hide (fun V => lBackward ao c.ops.length k V)
  have HST := hide (fun Bs V hw hB hBs (hlen : c.ops.length <= 4096) => back_stops Fence.wide 2 trivial rfl (by omega) c.ops w Bs ao k hlen hC.ops V hw hB hBs)
  have HWD : Hid (∀ l : List COp, Wd (l.foldl bwS p)) := hide (fun l => wd_bw l p hp)
  have hok : stk c p = 0 -> c.ops.length <= 4096 := fun h => (chkC_ok (stk_ok h)).2.2.2.2.1
  unfold bwR bw
  obtain ⟨FN, hFN⟩ : ∃ FN, c.ops.reverse.foldl bwS p = FN := ⟨_, rfl⟩
  rw [hFN]
  have HFN := hide hFN
  clear hFN
  obtain ⟨fn, fx, fz, fp⟩ := FN
  generalize stk c p = E at *
  obtain ⟨q, b, ops⟩ := c
  obtain ⟨n, hn⟩ : ∃ n, ops.length = n := ⟨_, rfl⟩
  have HN := hide hn
  obtain ⟨pn, px, pz, pp⟩ := p
  unfold cV pV at *
  simp only at *
  simp only [hn] at c1 hok HBK ⊢
  clear hn hT hC hp
  have hI0 := FI.new w q b ao n k ⟨pn, px, pz, pp⟩
  have hx0 := (BX.new w q b ao n k (.int .i64 pn) (.int .u64 (px : Int)) (.int .u64 (pz : Int)) (.int .i64 pp)).below (bnew _ (.cells #[.int .i64 0, .int .u64 0, .int .u64 0, .int .i64 0] 27))
  obtain ⟨x0, x1, x2, x3, x4, x5, x6, x7⟩ := hx0.cells
  simp only at hI0
  by_cases hE : E = 0
  . subst hE
    simp only [if_true]
    have hlen4 := hok rfl
    refine (callsIn_wide (n := 3)).1 ?_
    refine callsIn_of_wp_marks Tryz.func6 rfl trivial ?_ rfl
    simp only [Tryz.ntmps6, List.size_toArray, List.length_cons, List.length_nil, Nat.reduceAdd, Nat.reduceSub, Array.replicate_succ, Array.replicate_zero, List.push_toArray, List.append_toArray, List.nil_append, List.cons_append]
    refine wpIn_wide.2 ?_
    go_wp2_with (first
      | (go_at_call 12; refine (c1 _ hI0.bel).mono ?_; rintro e w2 ⟨rfl, hb2⟩; have HI2 := hide (hI0.below hb2); have hx2 := hx0.below hb2; clear x0 x1 x2 x3 x4 x5 x6 x7 hb2 hI0 hx0 c1; obtain ⟨x0, x1, x2, x3, x4, x5, x6, x7⟩ := hx2.cells)
      | (go_at_call 16; refine (HBK.out _).mono ?_; rintro e w5 ⟨rfl, hw5⟩; have HW5 := hide hw5; clear hw5 x0 x1 x2 x3 x4 x5 x6 x7 hx2))
    refine (wpIn_wide (n := 3)).1 ?_
    have hb5 : Below w2.heap.size w2 w5 := by rw [HW5.out]; exact bnew _ _
    have hc5 : w5.cell? ⟨w2.heap.size, 0, none⟩ = some (.slice ao ops.length k) := by rw [HW5.out, HN.out]; exact cell_of_row _ _ 0 _ _ _ (heap_alloc_new w2 _)
    have hlt5 : w2.heap.size < w5.heap.size := World.block_lt_of_cell? _ _ hc5
    have HI5 := hide (HI2.out.below hb5)
    have hgp : w.heap.size + 2 < w2.heap.size := HI2.out.z.lt
    have hws : w.heap.size <= w2.heap.size := by omega
    refine wpIn_rangeFunc_ownH rfl (by omega) (gf := 48) (lb := #[.pointer (some ⟨w2.heap.size, 0, none⟩)]) rfl trivial (enters_of Tryz.func48 (by kernel_rfl) rfl)
      (HST.out w2.heap.size w5 HI5.out.bel hlt5 hc5 (by rw [HN.out]; exact hlen4)) KB.trans (KB.put (by omega) hlt5) (Below.refl _ _) (fun _ => rfl)
      (fun pre W => FI w ((pre.map fun x => oa ops x.i).foldl bwS ⟨pn, px, pz, pp⟩) W /\ w2.heap.size < W.heap.size)
      (fun _ _ _ => False)
      ((fi_own w _ _ (by omega)).and (big_own _ _))
      (fun _ _ _ _ _ hs _ _ => hs)
      ⟨HI5.out, hlt5⟩
      (fun x a' W => ∃ Bx, w.heap.size <= Bx /\ W.heap[Bx]? = some (.cells (opC (oa ops x.i, .slice x.aq (oa ops x.i).qs.length x.cq)).toArray 48 (0, 0)) /\ a' = { tmps := #[.agg #[.int .i64 q, .int .i64 b, .slice ao n k], .agg #[.int .i64 pn, .int .u64 (px : Int), .int .u64 (pz : Int), .int .i64 pp], .pointer (some ⟨w.heap.size, 0, none⟩), .pointer (some ⟨w.heap.size + 1, 0, none⟩), .pointer (some ⟨w.heap.size + 1 + 1, 0, none⟩), .int .i64 0, .int .i64 0, undef, .pointer (some ⟨Bx, 0, none⟩), .agg #[.int .i64 q, .int .i64 b, .slice ao n k], .agg #[.int .i64 pn, .int .u64 (px : Int), .int .u64 (pz : Int), .int .i64 pp], .int .i64 0, .int .i64 0, .bool false, undef, undef, .pointer (some ⟨w.heap.size, 2, none⟩), .slice ao n k, .func (.func 48) #[] #[.pointer (some ⟨w2.heap.size, 0, none⟩)], .int .i64 (x.i : Int), opV (oa ops x.i) x.aq x.cq, undef, undef, undef, undef, undef, undef, undef, undef, undef, undef, undef, undef, undef, undef], defers := [] })
      (fun x a' _ X Y row hs hg hr => by
        obtain ⟨Bx, h1, h2, h3⟩ := hs
        exact ⟨Bx, h1, (hg.block Bx (Array.getElem?_eq_some_iff.1 h2).1 (fun e => by
          obtain ⟨-, o, ho, hc⟩ := hr Bx e.symm
          rw [h2] at ho
          cases ho
          cases hc)).trans h2, h3⟩)
      ?assign ?body ?done ?stop
    case assign =>
      rintro l pre x W K hFI hK
      have hk := hK { tmps := #[.agg #[.int .i64 q, .int .i64 b, .slice ao n k], .agg #[.int .i64 pn, .int .u64 (px : Int), .int .u64 (pz : Int), .int .i64 pp], .pointer (some ⟨w.heap.size, 0, none⟩), .pointer (some ⟨w.heap.size + 1, 0, none⟩), .pointer (some ⟨w.heap.size + 1 + 1, 0, none⟩), .int .i64 0, .int .i64 0, undef, .pointer (some ⟨W.heap.size, 0, none⟩), .agg #[.int .i64 q, .int .i64 b, .slice ao n k], .agg #[.int .i64 pn, .int .u64 (px : Int), .int .u64 (pz : Int), .int .i64 pp], .int .i64 0, .int .i64 0, .bool false, undef, undef, .pointer (some ⟨w.heap.size, 2, none⟩), .slice ao n k, .func (.func 48) #[] #[.pointer (some ⟨w2.heap.size, 0, none⟩)], .int .i64 (x.i : Int), opV (oa ops x.i) x.aq x.cq, undef, undef, undef, undef, undef, undef, undef, undef, undef, undef, undef, undef, undef, undef], defers := [] } (W.alloc (.cells (opC (oa ops x.i, .slice x.aq (oa ops x.i).qs.length x.cq)).toArray 48)) ((KeepsOthers.alloc _ _).from _) ⟨(Below.refl _ W).alloc hFI.1.bel.size _, Below.heap_alloc W _ w2.heap.size hFI.2⟩ ⟨hFI.1.below (bnew _ _), Nat.lt_of_lt_of_le hFI.2 (by simp)⟩ ⟨W.heap.size, hFI.1.bel.size, heap_alloc_new W _, rfl⟩
      clear hK
      unfold It.enc
      gi_wp2_with (refine list_inR rfl (by simp) (fun K hK => wp_store_row _ _ _ rfl W.heap.size (opC (oa ops x.i, .slice x.aq (oa ops x.i).qs.length x.cq)).toArray (by rfl) (by rfl) _ _ (heap_alloc_new W _) (by exact infoO6) (by rfl) (by simp [opC, Value.oneCell']) (hK _ _ ?_)); rw [alloc_setRow])
      exact hk
    case body =>
      rintro l pre x a' W hl ⟨r, hr⟩ ⟨hFI, hbig⟩ ⟨Bx, hBx, hbx, rfl⟩ hlt
      have hq' := HWD.out (pre.map fun x => oa ops x.i)
      have HSn : Hid (((pre ++ [x]).map fun x => oa ops x.i).foldl bwS ⟨pn, px, pz, pp⟩ = bwS ((pre.map fun x => oa ops x.i).foldl bwS ⟨pn, px, pz, pp⟩) (oa ops x.i)) := hide (by rw [List.map_append, List.foldl_append]; rfl)
      generalize (pre.map fun x => oa ops x.i).foldl bwS ⟨pn, px, pz, pp⟩ = qi at *
      have c3 := fun V (h : Below w.heap.size w V) => HTH.out qi hq' x.i _ (oa_some x.hi) x.aq x.cq V h x.room (x.ns.below h)
      have hbc := fun j => cell_of_row W Bx j _ _ _ hbx
      have hbl : Bx < W.heap.size := (Array.getElem?_eq_some_iff.1 hbx).1
      have k0 := hbc 0
      have k1 := hbc 1
      have k2 := hbc 2
      have HFI := hide hFI
      obtain ⟨a0, a1, a2, a3, a4⟩ := hFI.p.cells
      have hB0 := hFI.bel
      unfold bwS at HSn
      generalize oa ops x.i = o at *
      generalize thrR (rw' o.gate).v o.qs qi = R at *
      obtain ⟨⟨rn, rx, rz, rp⟩, re⟩ := R
      obtain ⟨qn, qx, qz, qp⟩ := qi
      simp only at a0 a1 a2 a3 c3 HSn
      clear hFI hbc hq' hr
      obtain ⟨kind, gate, qs, bit, cond, whn⟩ := o
      simp only [opC, List.getElem?_toArray, List.getElem?_cons_zero, List.getElem?_cons_succ] at k0 k1 k2 c3 HSn
      generalize qs.length = lq at *
      by_cases hk : kind = 1
      . subst hk
        have HS2 : Hid (((pre ++ [x]).map fun x => oa ops x.i).foldl bwS ⟨pn, px, pz, pp⟩ = ⟨rn, rx, rz, rp⟩) := hide HSn.out
        clear HSn
        have HB0 := hide hB0
        have HC3 := hide c3
        have HK : Hid (∀ V, Below W.heap.size W V -> (V.cell? ⟨w.heap.size + 1, 0, none⟩ = some (.int .i64 qn) /\ V.cell? ⟨w.heap.size + 1, 1, none⟩ = some (.int .u64 (qx : Int)) /\ V.cell? ⟨w.heap.size + 1, 2, none⟩ = some (.int .u64 (qz : Int)) /\ V.cell? ⟨w.heap.size + 1, 3, none⟩ = some (.int .i64 qp) /\ w.heap.size + 1 < V.heap.size) /\ V.cell? ⟨Bx, 1, none⟩ = some (.int .i64 gate) /\ V.cell? ⟨Bx, 2, none⟩ = some (.slice x.aq lq x.cq) /\ Bx < V.heap.size) := hide (fun V hV => ⟨(HFI.out.p.below hV).cells, (hV.cell (p := ⟨Bx, 1, none⟩) hbl).trans k1, (hV.cell (p := ⟨Bx, 2, none⟩) hbl).trans k2, Nat.lt_of_lt_of_le hbl hV.size⟩)
        clear c3 hB0
        gi_wp2
        refine region_quiet_S_in (C := fun V => Below W.heap.size W V) (by kernel_rfl) (by kernel_rfl) 9 rfl rfl rfl (by kernel_rfl) (by kernel_rfl) (Pau.bdrew (Below.refl _ _) 1) (fun a v w => Pau.store_swap rfl (by decide) (by decide) a v w) ?_
        clear a0 a1 a2 a3 a4 k0 k1 k2
        simp only [List.take_succ_cons, List.take_zero]
        repeat
          refine wpQuiet_step (fun K hK => ?_)
          go_simp
          first
            | (refine hK _ ?_; clear hK K)
            | (apply Exists.intro
               refine ⟨fun V hV => ?_, hK _ ?_⟩
               first
                 | ((with_reducible refine Calls.mono (HIV.out _ V (bkp HB0.out hV)) ?_); rintro e y ⟨rfl, hb⟩; exact ⟨rfl, bkp hV hb⟩)
                 | ((with_reducible refine Calls.mono (HC3.out V (bkp HB0.out hV)) ?_); rintro e y ⟨rfl, hb⟩; exact ⟨rfl, bkp hV hb⟩)
                 | (obtain ⟨⟨d0, d1, d2, d3, d4⟩, d5, d6, d7⟩ := HK.out V hV; go_simp; rfl)
               clear hK K)
        refine wpQuiet_nil ?_
        intro W3 hW
        have hR := HFI.out.p.below hW
        have HI3 := hide (HFI.out.below hW)
        have hKO := (keeps_below hW).trans (KeepsOthers.setRow (g := w.heap.size + 1) hR #[.int .i64 rn, .int .u64 (rx : Int), .int .u64 (rz : Int), .int .i64 rp])
        unfold At4 at hR
        refine ⟨_, Pau.store_run rfl rfl rfl hR (by exact Pau.infoP) (by rfl) (Pau.allP _ _ _ _), by simp, ?_⟩
        gi_wp2
        refine ⟨hKO.from _, ⟨below_setRow (hW.mono HFI.out.bel.size) (by omega) _, (setRow_other _ _ _ _ (by omega)).trans (hW.block _ hbig)⟩, ?_, ?_⟩
        . show FI w (((pre ++ [x]).map fun x => oa ops x.i).foldl bwS ⟨pn, px, pz, pp⟩) _
          rw [HS2.out]
          exact HI3.out.set ⟨rn, rx, rz, rp⟩
        . exact Nat.lt_of_lt_of_le hbig hKO.size
      . have e1 : (kind == 1) = false := by simpa using hk
        have HS2 : Hid (((pre ++ [x]).map fun x => oa ops x.i).foldl bwS ⟨pn, px, pz, pp⟩ = ⟨qn, qx, qz, qp⟩) := hide (HSn.out.trans (if_neg hk))
        clear HSn hk c3
        gi_wp2
        refine ⟨(KeepsOthers.refl _).from _, KB.refl _ _ _, ?_, hbig⟩
        show FI w (((pre ++ [x]).map fun x => oa ops x.i).foldl bwS ⟨pn, px, pz, pp⟩) _
        rw [HS2.out]
        exact HFI.out
    case done =>
      rintro D ys W hD hS ⟨hFI, hbig⟩ hK
      have HS : Hid ((ys.map fun x => oa ops x.i) = ops.reverse) := hide (by
        have h1 : (ys.map fun x => oa ops x.i) = (ys.map It.i).map (oa ops) := by rw [List.map_map]; rfl
        rw [h1, hS, List.map_reverse]
        congr 1
        apply List.ext_getElem?
        intro j
        rw [List.getElem?_map]
        rcases Nat.lt_or_ge j ops.length with h | h
        . rw [List.getElem?_range h, oa_some h]
          rfl
        . rw [List.getElem?_eq_none (by simpa using h), List.getElem?_eq_none h]
          rfl)
      rw [HS.out, HFN.out] at hFI
      clear HS hS
      have HFI := hide hFI
      obtain ⟨a0, a1, a2, a3, a4⟩ := hFI.p.cells
      have hR := hFI.z
      simp only at a0 a1 a2 a3
      unfold At4 at hR
      clear hFI
      go_wp2_with (refine wpList_store_row rfl _ _ _ rfl (w.heap.size + 2) #[.int .i64 fn, .int .u64 (fx : Int), .int .u64 (fz : Int), .int .i64 fp] rfl (by rfl) _ _ hR (by exact Pau.infoP) (by rfl) (Pau.allP _ _ _ _) ?_)
      have hK2 : (W.setRow (w.heap.size + 2) #[.int .i64 fn, .int .u64 (fx : Int), .int .u64 (fz : Int), .int .i64 fp]).heap[D]? = some (.deferred (some [])) := (setRow_other _ _ _ _ (by omega)).trans hK
      have hR2 := setRow_heap W (w.heap.size + 2) _ #[.int .i64 fn, .int .u64 (fx : Int), .int .u64 (fz : Int), .int .i64 fp] _ _ hR
      refine ⟨by simp, .inl ⟨_, _, rfl, run_takeDeferred hK2, ?_⟩⟩
      refine ⟨_, Pau.results_ct rfl _ _ (w.heap.size + 2) _ _ _ _ rfl (((grownBy_putObj' _ D (.deferred none)).block (w.heap.size + 2) (Array.getElem?_eq_some_iff.1 hR2).1 (fun e => by cases e; omega)).trans hR2) Tryz.underlying27 rfl (by exact Pau.infoP), by simp, ?_⟩
      exact (below_setRow HFI.out.bel (by omega) _).trans (belowK_b (w := w) (Nat.le_refl _) _ D _ _ (by omega) hK2 rfl rfl)
    case stop =>
      rintro D c pre W _ _ h _
      exact h.elim
  . simp only [if_neg hE]
    have e1 : (E != 0) = true := by simpa using hE
    go_enter Tryz.func6, Tryz.ntmps6
    go_wp2_with (first | (go_at_call 12; refine (c1 _ hI0.bel).mono ?_; rintro e w2 ⟨rfl, hb2⟩; have hI2 := hI0.below hb2; have hR := hI2.z; unfold At4 at hR; clear x0 x1 x2 x3 x4 x5 x6 x7 hb2 hI0 hx0 c1) | refine wpList_store_row rfl _ _ _ rfl (w.heap.size + 2) #[.int .i64 0, .int .u64 0, .int .u64 0, .int .i64 0] rfl (by rfl) _ _ hR (by exact Pau.infoP) (by rfl) (Pau.allP _ _ _ _) ?_)
    refine bodyPost_ret (Pau.results_ct rfl _ _ (w.heap.size + 2) _ _ _ _ rfl (setRow_heap _ _ _ _ _ _ hR) Tryz.underlying27 rfl (by exact Pau.infoP)) rfl ?_
    exact ⟨rfl, below_setRow hI2.bel (by omega) _⟩
end Go.Proofs.YtoickolhekhgmaaGreatDoor.Exp
