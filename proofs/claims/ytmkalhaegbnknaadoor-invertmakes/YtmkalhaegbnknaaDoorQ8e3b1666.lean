import Derived.Test.YtmkalhaegbnknaaDoorQ0ea0ffd8
import Derived.Test.YtmkalhaegbnknaaDoorQd1241542
set_option maxRecDepth 100000
set_option maxHeartbeats 4000000
namespace Go.Proofs.YtmkalhaegbnknaaDoor.Cir
open Go.RowKit Go.Shelf Go.Proofs.YtmkalhaegbnknaaDoor.Oct Go.Proofs.YtmkalhaegbnknaaDoor.Tok Go.Proofs.YtmkalhaegbnknaaDoor.Gt Go.Proofs.YtmkalhaegbnknaaDoor.Rf
theorem OpsOwn.elem17 {w : World} {B n c : Nat} {ao : Option Addr} {l : List COp} (h : OpsOwn w B ao n c l) {i : Nat} {o : COp} (hi : l[i]? = some o) : ∃ g, ao = some ⟨g, 0, none⟩ /\ ∃ v, IsI w v o.qs /\ w.cell? ⟨g, i * 6 + 2, none⟩ = some v := by
  obtain ⟨xs, h1, h2, h3, h4, h5⟩ := h
  rw [h2, List.getElem?_map] at hi
  obtain ⟨x, hx, rfl⟩ := Option.map_eq_some_iff.1 hi
  have hlt : i < xs.length := (List.getElem?_eq_some_iff.1 hx).1
  obtain ⟨g, rfl, -⟩ := own_some h3 (by omega)
  exact ⟨g, rfl, x.2, (h4 x (List.mem_of_getElem? hx)).isI, own_at h3 _ _ (opC_at xs i x hx 2 x.2 rfl)⟩
theorem list_app1_17 {ops : Array Oper} {rest : List Oper} {o : Oper} {a : Act} {Q : Exit -> Act -> World -> Prop} {X : World} (hgd : o.guard = none) (s x : Operand)
    (ho : o.op = .call { callee := .builtin .append, args := #[s, x], argTypes := #[22, 22] }) {B n c : Nat} {d : Option Addr} {xs : List (COp × Value)} (h1 : X.ownsRow B 41 6 (.slice d n c) n (xs.flatMap opC)) (p : COp) (aq : Option Addr) (cq m : Nat) (hm : p.qs.length = m) (hr : m <= cq) (hN : Ns X aq p.qs) (H : Nat) (hH : X.heap.size = H) (hn : n <= 1000000000) (hB : B <= X.heap.size) (cells : Array Value) (hcells : cells = (opC (p, Value.slice aq m cq)).toArray) (hs : a.eval s = .slice d n c) (hx : a.eval x = .slice (some ⟨H, 0, none⟩) 1 1)
    (h : ∀ ao' cap w', w'.ownsRow B 41 6 (.slice ao' (n + 1) cap) (n + 1) ((xs ++ [(p, Value.slice aq m cq)]).flatMap opC) -> X.grownBy w' (ob d) -> wpList Tryd.prog ops Q rest (a.put o.dst (.slice ao' (n + 1) cap)) w') : wpList Tryd.prog ops Q (o :: rest) a (X.alloc (.cells cells 41)) := by
  refine wpList_plain hgd fun K hK => ?_
  subst hH hm
  have hb : Below X.heap.size X (X.alloc (.cells cells 41)) := bnew _ _
  obtain ⟨ao', cap, w', hrn, h3, h4⟩ := run_app_in17 (c2 := 1) (ao := some ⟨X.heap.size, 0, none⟩) (h1.alloc (.cells cells 41)) (xs2 := [(p, Value.slice aq p.qs.length cq)]) (n2 := 1) rfl (fun y hy => by
    rw [List.mem_singleton] at hy
    subst hy
    exact ⟨aq, cq, rfl, hr, hN.below hb⟩) (.inr ⟨X.heap.size, 0, rfl, fun j u hu => by
      rw [Nat.zero_add, cell_of_row _ _ _ _ _ _ (heap_alloc_new X _), hcells]
      simpa using hu⟩) (by omega) (Nat.le_trans hB hb.size) o.type
  unfold Oper.wp execOp
  simp only [ho, resolve, invoke, builtin, Sem.run_bind, Sem.run_pure, Result.andThen_ok, List.map_toArray, List.map_cons, List.map_nil, hs, hx, hrn]
  exact hK _ _ (h ao' cap w' h3 ((grown_alloc X _ _).trans h4))
theorem dInverse_80 (c : Circ) (ao : Option Addr) (k : Nat) (hk : ((chkC c).2 == 0) = false) (w : World) (hC : Ci w c ao k) : Calls Tryd.prog 6 #[cV c ao k] w fun e w' => e = .returned (.tuple #[cV nulC none 0, .int .i64 80]) /\ Below w.heap.size w w' := by
  have c1 := fun V (h : Below w.heap.size w V) => eMay c ao k V (hC.below h)
  rw [hk] at c1
  obtain ⟨q, b, l⟩ := c
  unfold cV nulC at *
  simp only [List.length_nil] at *
  generalize l.length = n at *
  clear hC hk
  have HB0 := hide (show Below w.heap.size w ((w.alloc (.cells #[.int .i64 q, .int .i64 b, .slice ao n k] 24)).alloc (.cells #[.int .i64 0, .int .i64 0, .slice none 0 0] 24)) from (bnew _ _).trans ((bnew _ _).mono (by simp)))
  go_enter Tryd.func6, Tryd.ntmps6
  go_wp2_with (first
    | (go_at_call 23; refine (c1 _ HB0.out).mono ?_; rintro e w1 ⟨rfl, hb1⟩; obtain ⟨m1, m2⟩ := may_keep hb1; obtain ⟨x0, x1, x2, x3⟩ := def_cells m1; have HB1 := hide (HB0.out.trans (hb1.mono HB0.out.size)); have HM1 := hide m1; have HM2 := hide m2; clear hb1 m1 m2)
    | refine wpList_store_row rfl _ _ _ rfl (w.heap.size + 1) _ rfl rfl _ _ HM2.out (by exact infoCi) (by rfl) (by simp [Value.oneCell']) ?_)
  refine bodyPost_ret (results_ct rfl _ _ (w.heap.size + 1) _ _ _ _ rfl (setRow_heap _ _ _ _ _ _ HM2.out) Tryd.underlying24 rfl (by exact infoCi)) rfl ?_
  exact ⟨rfl, Below.row HB1.out _ _ (by omega)⟩
theorem dInverse_170 (c : Circ) (ao : Option Addr) (k : Nat) (hk : ((chkC c).2 == 0) = true) (hu : c.ops.any unO = true) (w : World) (hC : Ci w c ao k) : Calls Tryd.prog 6 #[cV c ao k] w fun e w' => e = .returned (.tuple #[cV nulC none 0, .int .i64 170]) /\ Below w.heap.size w w' := by
  have c1 := fun V (h : Below w.heap.size w V) => eMay c ao k V (hC.below h)
  have c2 := fun V (h : Below w.heap.size w V) => eUnitary c ao k V (hC.below h)
  rw [hk] at c1
  rw [hu] at c2
  obtain ⟨q, b, l⟩ := c
  unfold cV nulC at *
  simp only [List.length_nil, Bool.not_true] at *
  generalize l.length = n at *
  clear hu
  clear hC hk
  have HB0 := hide (show Below w.heap.size w ((w.alloc (.cells #[.int .i64 q, .int .i64 b, .slice ao n k] 24)).alloc (.cells #[.int .i64 0, .int .i64 0, .slice none 0 0] 24)) from (bnew _ _).trans ((bnew _ _).mono (by simp)))
  go_enter Tryd.func6, Tryd.ntmps6
  go_wp2_with (first
    | (go_at_call 23; refine (c1 _ HB0.out).mono ?_; rintro e w1 ⟨rfl, hb1⟩; obtain ⟨m1, m2⟩ := may_keep hb1; obtain ⟨x0, x1, x2, x3⟩ := def_cells m1; have HB1 := hide (HB0.out.trans (hb1.mono HB0.out.size)); have HM1 := hide m1; have HM2 := hide m2; clear hb1 m1 m2)
    | (go_at_call 24; refine (c2 _ HB1.out).mono ?_; rintro e w2 ⟨rfl, hb2⟩; have m1 := (hb2.block _ (Array.getElem?_eq_some_iff.1 HM1.out).1).trans HM1.out; have m2 := (hb2.block _ (Array.getElem?_eq_some_iff.1 HM2.out).1).trans HM2.out; obtain ⟨y0, y1, y2, y3⟩ := def_cells m1; have HB2 := hide (HB1.out.trans (hb2.mono HB1.out.size)); have HM3 := hide m1; have HM4 := hide m2; clear hb2 m1 m2)
    | refine wpList_store_row rfl _ _ _ rfl (w.heap.size + 1) _ rfl rfl _ _ HM4.out (by exact infoCi) (by rfl) (by simp [Value.oneCell']) ?_)
  refine bodyPost_ret (results_ct rfl _ _ (w.heap.size + 1) _ _ _ _ rfl (setRow_heap _ _ _ _ _ _ HM4.out) Tryd.underlying24 rfl (by exact infoCi)) rfl ?_
  exact ⟨rfl, Below.row HB2.out _ _ (by omega)⟩
theorem dInverse_ok (c : Circ) (ao : Option Addr) (k : Nat) (hk : (chkC c).2 = 0) (hu : c.ops.any unO = false) (hS : Szs c.ops) (w : World) (hC : Ci w c ao k) : Calls Tryd.prog 6 #[cV c ao k] w fun e w' => ∃ bo j, e = .returned (.tuple #[cV ⟨c.q, c.b, c.ops.reverse.map ivO⟩ bo j, .int .i64 0]) /\ OpsAt w' w.heap.size bo c.ops.length j (c.ops.reverse.map ivO) /\ Below w.heap.size w w' := by
  have c1 := fun V (h : Below w.heap.size w V) => eMay c ao k V (hC.below h)
  have c2 := fun V (h : Below w.heap.size w V) => eUnitary c ao k V (hC.below h)
  have c3 := fun V (h : Below w.heap.size w V) => eCopyO c ao k hS V (hC.below h)
  have c4 := fun V => dEmpty c ao k V
  have HOK := hide (chkC_ok hk).2.2.2.2.2
  have hlen := (chkC_ok hk).2.2.2.2.1
  rw [hk] at c1
  rw [hu] at c2
  obtain ⟨q, b, l⟩ := c
  unfold cV at *
  simp only [Bool.not_false, List.length_map, List.length_reverse, beq_self_eq_true] at *
  obtain ⟨n, hn⟩ : ∃ n, l.length = n := ⟨_, rfl⟩
  have HL := hide hn
  rw [hn] at c1 c2 c3 c4 hlen ⊢
  obtain ⟨rl, hrl⟩ : ∃ rl, l.reverse = rl := ⟨_, rfl⟩
  have HRL := hide hrl
  rw [hrl]
  clear hC hS hk hu hn hrl
  have HB0 := hide (show Below w.heap.size w ((w.alloc (.cells #[.int .i64 q, .int .i64 b, .slice ao n k] 24)).alloc (.cells #[.int .i64 0, .int .i64 0, .slice none 0 0] 24)) from (bnew _ _).trans ((bnew _ _).mono (by simp)))
  have g0 : wrap64 ((n : Int) - 1) = (n : Int) - 1 := by unfold wrap64; omega
  go_enter Tryd.func6, Tryd.ntmps6
  go_wp2_with (first
    | (go_at_call 23; refine (c1 _ HB0.out).mono ?_; rintro e w1 ⟨rfl, hb1⟩; obtain ⟨m1, m2⟩ := may_keep hb1; obtain ⟨x0, x1, x2, x3⟩ := def_cells m1; have HB1 := hide (HB0.out.trans (hb1.mono HB0.out.size)); have HM1 := hide m1; have HM2 := hide m2; clear hb1 m1 m2)
    | (go_at_call 24; refine (c2 _ HB1.out).mono ?_; rintro e w2 ⟨rfl, hb2⟩; have m1 := (hb2.block _ (Array.getElem?_eq_some_iff.1 HM1.out).1).trans HM1.out; have m2 := (hb2.block _ (Array.getElem?_eq_some_iff.1 HM2.out).1).trans HM2.out; obtain ⟨y0, y1, y2, y3⟩ := def_cells m1; have HB2 := hide (HB1.out.trans (hb2.mono HB1.out.size)); have HM3 := hide m1; have HM4 := hide m2; clear hb2 m1 m2)
    | (go_at_call 4; refine (c3 _ HB2.out).mono ?_; rintro e w3 ⟨co, cj, rfl, hO3, hb3⟩; have HB3 := hide (HB2.out.trans (hb3.mono HB2.out.size)); have m1 := (hb3.block _ (Array.getElem?_eq_some_iff.1 HM3.out).1).trans HM3.out; have m2 := (hb3.block _ (Array.getElem?_eq_some_iff.1 HM4.out).1).trans HM4.out; obtain ⟨v0, v1, v2, v3⟩ := def_cells m1; have HM5 := hide m1; have HM6 := hide m2; have HO3 := hide hO3; clear hb3 hO3 m1 m2)
    | (go_at_call 25; refine (c4 _).mono ?_; rintro e w4 ⟨rfl, hb4⟩; have HB4 := hide hb4; have md := (hb4.block w3.heap.size (by simp)).trans (heap_alloc_new w3 _); have HMD := hide md; obtain ⟨u0, u1, u2, u3⟩ := def_cells md; clear hb4 md))
  try simp only [g0]
  clear g0
  have hal : Below w4.heap.size w4 (w4.alloc (.cells #[.int .i64 q, .int .i64 b, .slice none 0 0] 24)) := bnew _ _
  have hal3 : Below w3.heap.size w3 (w3.alloc (.cells #[.int .i64 q, .int .i64 b, .slice co n cj] 24)) := bnew _ _
  have h34 := hal3.trans (HB4.out.mono hal3.size)
  have HS0 : Hid (Below w3.heap.size w3 (w4.alloc (.cells #[.int .i64 q, .int .i64 b, .slice none 0 0] 24)) /\ (w4.alloc (.cells #[.int .i64 q, .int .i64 b, .slice none 0 0] 24)).heap[w3.heap.size]? = some (.cells #[.int .i64 q, .int .i64 b, .slice co n cj] 24) /\ (w4.alloc (.cells #[.int .i64 q, .int .i64 b, .slice none 0 0] 24)).heap[w4.heap.size]? = some (.cells #[.int .i64 q, .int .i64 b, .slice none 0 0] 24) /\ w3.heap.size < w4.heap.size /\ w4.heap.size < (w4.alloc (.cells #[.int .i64 q, .int .i64 b, .slice none 0 0] 24)).heap.size) := hide ⟨h34.trans (hal.mono h34.size), (hal.block _ u3).trans HMD.out, heap_alloc_new _ _, u3, by simp⟩
  have HOI := hide HO3.out.at.rd.1
  have HOE := hide (fun t o (ho : l[t]? = some o) => HO3.out.elem17 ho)
  have hZ6 := HM6.out
  clear hal hal3 h34 u0 u1 u2 u3 v0 v1 v2 v3 x0 x1 x2 x3 y0 y1 y2 y3 c1 c2 c3 c4 HM1 HM2 HM3 HM4 HM5 HMD HB0 HB1 HB2 HO3 HB4
  have HZ6 := hide hZ6
  clear hZ6 HM6
  generalize (w4.alloc (.cells #[.int .i64 q, .int .i64 b, .slice none 0 0] 24)) = w5 at *
  generalize w4.heap.size = D2 at *
  generalize hD1 : w3.heap.size = D1 at *
  have hD12 := HS0.out.2.2.2.1
  have HD1 := hide hD1
  clear hD1
  go_loopw [6, 7] (fun vi _ wr => ∃ i : Nat, i <= n /\ vi = .int .i64 ((n : Int) - 1 - (i : Int)) /\ Below w3.heap.size w3 wr /\ wr.heap[D1]? = some (.cells #[.int .i64 q, .int .i64 b, .slice co n cj] 24) /\ D2 < wr.heap.size /\ ∃ (bo : Option Addr) (j : Nat) (ys : List (COp × Value)), wr.heap[D2]? = some (.cells #[.int .i64 q, .int .i64 b, .slice bo i j] 24 (0, 0)) /\ i = ys.length /\ ys.map (·.1) = (rl.take i).map ivO /\ (∀ y ∈ ys, IsI w3 y.2 y.1.qs) /\ wr.ownsRow D2 41 6 (.slice bo i j) i (ys.flatMap opC)) (fun vi _ _ => (Go.RowKit.intOf vi + 1).toNat)
  case atStart => exact ⟨0, Nat.zero_le _, by simp, by rw [HD1.out]; exact HS0.out.1, HS0.out.2.1, HS0.out.2.2.2.2, none, 0, [], HS0.out.2.2.1, rfl, rfl, (fun _ h => absurd h List.not_mem_nil), rfl, .inl ⟨rfl, rfl⟩⟩
  case round =>
    obtain ⟨i, hi, rfl, hb, hmd, hD2l, bo, j, ys, hmo, hyl, hym, hyr, how⟩ := hrel
    have HB3r := hide hb
    have HMD1 := hide hmd
    have HMO := hide hmo
    have HYL := hide hyl
    have HYM := hide hym
    have HYR := hide hyr
    have HOW := hide how
    obtain ⟨r0, r1, r2, r3⟩ := def_cells hmo
    obtain ⟨p0, p1, p2, p3⟩ := def_cells hmd
    have hD13 : w3.heap.size = D1 := HD1.out
    clear hb hmd hmo hyl hym hyr how
    by_cases h : i < n
    . obtain ⟨t, ht⟩ : ∃ t : Nat, (n : Int) - 1 - (i : Int) = (t : Int) := ⟨n - 1 - i, by omega⟩
      have htn : t < n := by omega
      obtain ⟨o, ho⟩ : ∃ o, l[t]? = some o := ⟨_, List.getElem?_eq_getElem (by rw [HL.out]; exact htn)⟩
      have hro : rl[i]? = some o := by
        rw [← HRL.out, List.getElem?_reverse (by rw [HL.out]; exact h), HL.out, show n - 1 - i = t by omega]
        exact ho
      have hmay := HOK.out o (List.mem_of_getElem? ho)
      obtain ⟨g, off, aq, cq, rfl, hgl0, hoc0⟩ := HOI.out.at ho
      have hoc := hoc0.below HB3r.out
      have hgl : g < wr.heap.size := Nat.lt_of_lt_of_le hgl0 HB3r.out.size
      have k0 := hoc.kind
      have k1 := hoc.gate
      have k2 := hoc.qs
      have k3 := hoc.bit
      have k4 := hoc.cond
      have k5 := hoc.whn
      have hroom := hoc.room
      have HII : Hid (IsI w3 (.slice aq o.qs.length cq) o.qs) := hide (by
        obtain ⟨g', e, v, hv, hc⟩ := HOE.out t o ho
        simp only [Option.some.injEq, Addr.mk.injEq] at e
        have := hoc0.qs
        rw [e.1, e.2.1, Nat.zero_add, hc] at this
        rw [← Option.some.inj this]
        exact hv)
      have HNS := hide hoc0.ns
      have HRO := hide hro
      have HGT : Hid (o.kind ≠ 1 -> ivO o = o) := hide (fun hk => by
        rcases may_gt hmay with ⟨e, -⟩ | ⟨-, e⟩
        . exact absurd e hk
        . unfold ivO
          rw [e, iv_zero, ← e])
      obtain ⟨kind, gate, qs, bit, cond, whn⟩ := o
      simp only at k0 k1 k2 k3 k4 k5 hroom HNS HGT HII
      obtain ⟨m, hm⟩ : ∃ m, qs.length = m := ⟨_, rfl⟩
      have HQ := hide hm
      rw [hm] at k2 hroom HII
      clear hoc hoc0 ho hro hmay hgl0 hm HOI HOK HOE
      rw [ht]
      have hd1 : decide ((t : Int) ≥ 0) = true := decide_eq_true (by omega)
      have hd2 : decide (0 <= (t : Int)) = true := decide_eq_true (by omega)
      have htt : (t : Int) < (n : Int) := by omega
      have gw : wrap64 ((t : Int) - 1) = (t : Int) - 1 := by unfold wrap64; omega
      have HT := hide ht
      clear ht
      by_cases hk : kind = 1
      . subst hk
        have HXB : Hid (∀ q9, q9 < wr.heap.size -> (wr.alloc (.cells #[.int .i64 1, .int .i64 (rw' gate).v, .slice aq m cq, .int .i64 bit, .int .i64 cond, .int .i64 whn] 41)).heap[q9]? = wr.heap[q9]?) := hide (fun q9 h9 => Below.heap_alloc _ _ _ h9)
        have HXS : Hid ((wr.alloc (.cells #[.int .i64 1, .int .i64 (rw' gate).v, .slice aq m cq, .int .i64 bit, .int .i64 cond, .int .i64 whn] 41)).heap.size = wr.heap.size + 1) := hide (by simp)
        have HXO : Hid ((wr.alloc (.cells #[.int .i64 1, .int .i64 (rw' gate).v, .slice aq m cq, .int .i64 bit, .int .i64 cond, .int .i64 whn] 41)).ownsRow D2 41 6 (.slice bo i j) i (ys.flatMap opC)) := hide (own_of_block HOW.out (fun q9 hq9 => HXB.out q9 (own_lt HOW.out q9 hq9).2))
        have HXW : Hid (Below w3.heap.size w3 (wr.alloc (.cells #[.int .i64 1, .int .i64 (rw' gate).v, .slice aq m cq, .int .i64 bit, .int .i64 cond, .int .i64 whn] 41))) := hide (HB3r.out.trans ((bnew _ _).mono HB3r.out.size))
        have HXN : Hid (Ns (wr.alloc (.cells #[.int .i64 1, .int .i64 (rw' gate).v, .slice aq m cq, .int .i64 bit, .int .i64 cond, .int .i64 whn] 41)) aq qs) := hide (HNS.out.below HXW.out)
        go_wp2_with (first
          | (go_at_call 26; refine (hInverse gate _).mono ?_; rintro e w9 ⟨rfl, rfl⟩)
          | (at_builtin; refine list_app1_17 rfl _ _ rfl HXO.out ⟨1, (rw' gate).v, qs, bit, cond, whn⟩ aq cq m HQ.out hroom HXN.out (wr.heap.size + 1) HXS.out (by omega) (by rw [HXS.out]; omega) _ rfl rfl rfl ?_))
        intro ao6 c6 w6 ho5 hg6
        have ho6 : w6.ownsRow D2 41 6 (.slice ao6 (i + 1) c6) (i + 1) ((ys ++ [((⟨1, (rw' gate).v, qs, bit, cond, whn⟩ : COp), Value.slice aq m cq)]).flatMap opC) := by
          rw [List.flatMap_append]
          simpa using ho5
        have hkp : ∀ (x : Nat) (cs : Array Value), x < wr.heap.size -> wr.heap[x]? = some (.cells cs 24 (0, 0)) -> w6.heap[x]? = some (.cells cs 24 (0, 0)) := fun x cs hx hc => (hg6.block x (by rw [HXS.out]; omega) (fun e => own_ne HOW.out hc (by decide) e.symm)).trans ((HXB.out x hx).trans hc)
        have d6 := hkp _ _ hD2l HMO.out
        have e6d := hkp _ _ (by omega) HMD1.out
        have hb6 : Below w3.heap.size w3 w6 := HXW.out.grown hg6 (by rw [HXS.out]; omega) (fun q9 hq9 => by have := (own_lt HOW.out q9 hq9).1; omega)
        obtain ⟨v0', v1', v2', v3'⟩ := def_cells d6
        have vf : w6.frozen? ⟨D2, 2, none⟩ = false := by simp [World.frozen?, d6]
        have HF : Hid (Below w3.heap.size w3 (w6.setRow D2 #[.int .i64 q, .int .i64 b, .slice ao6 (i + 1) c6]) /\ (w6.setRow D2 #[.int .i64 q, .int .i64 b, .slice ao6 (i + 1) c6]).heap[D1]? = some (.cells #[.int .i64 q, .int .i64 b, .slice (some ⟨g, off, none⟩) n cj] 24) /\ D2 < (w6.setRow D2 #[.int .i64 q, .int .i64 b, .slice ao6 (i + 1) c6]).heap.size /\ ∃ (bo : Option Addr) (j : Nat) (ys : List (COp × Value)), (w6.setRow D2 #[.int .i64 q, .int .i64 b, .slice ao6 (i + 1) c6]).heap[D2]? = some (.cells #[.int .i64 q, .int .i64 b, .slice bo (i + 1) j] 24 (0, 0)) /\ i + 1 = ys.length /\ ys.map (·.1) = (rl.take (i + 1)).map ivO /\ (∀ y ∈ ys, IsI w3 y.2 y.1.qs) /\ (w6.setRow D2 #[.int .i64 q, .int .i64 b, .slice ao6 (i + 1) c6]).ownsRow D2 41 6 (.slice bo (i + 1) j) (i + 1) (ys.flatMap opC)) := hide (by
          refine ⟨Below.row hb6 _ _ (by omega), (setRow_other _ _ _ _ (by omega)).trans e6d, ?_, ao6, c6, ys ++ [((⟨1, (rw' gate).v, qs, bit, cond, whn⟩ : COp), Value.slice aq m cq)], setRow_heap _ _ _ _ _ _ d6, ?_, ?_, ?_, own_of_block ho6 (fun q9 hq9 => setRow_other _ _ _ _ (fun e => own_ne ho6 d6 (by decide) (by rw [← e]; exact hq9)))⟩
          . exact (Array.getElem?_eq_some_iff.1 (setRow_heap _ _ _ _ _ _ d6)).1
          . rw [List.length_append, ← HYL.out]
            rfl
          . rw [List.map_append, HYM.out, List.take_add_one, HRO.out, List.map_append]
            rfl
          . intro y hy
            rcases List.mem_append.1 hy with hy | hy
            . exact HYR.out y hy
            . rw [List.mem_singleton] at hy
              subst hy
              exact HII.out)
        have HE : Hid (w6.setCell ⟨D2, 2, none⟩ (.slice ao6 (i + 1) c6) = w6.setRow D2 #[.int .i64 q, .int .i64 b, .slice ao6 (i + 1) c6]) := hide (by
          rw [setCell_eq_setRow _ _ 2 _ _ _ _ d6]
          rfl)
        clear ho5 ho6 hg6 hkp d6 e6d hb6
        go_wp2_with fail
        rw [HE.out]
        go_roundw
        case rel => exact ⟨i + 1, by omega, by rw [show (n : Int) - 1 - ((i + 1 : Nat) : Int) = (t : Int) - 1 by have := HT.out; omega], HF.out⟩
        case measure => (simp [Go.RowKit.intOf]; try omega)
      . have e0 : (kind == 1) = false := by simpa using hk
        have HGZ := hide (HGT.out hk)
        clear hk
        have HXB : Hid (∀ q9, q9 < wr.heap.size -> (wr.alloc (.cells #[.int .i64 kind, .int .i64 gate, .slice aq m cq, .int .i64 bit, .int .i64 cond, .int .i64 whn] 41)).heap[q9]? = wr.heap[q9]?) := hide (fun q9 h9 => Below.heap_alloc _ _ _ h9)
        have HXS : Hid ((wr.alloc (.cells #[.int .i64 kind, .int .i64 gate, .slice aq m cq, .int .i64 bit, .int .i64 cond, .int .i64 whn] 41)).heap.size = wr.heap.size + 1) := hide (by simp)
        have HXO : Hid ((wr.alloc (.cells #[.int .i64 kind, .int .i64 gate, .slice aq m cq, .int .i64 bit, .int .i64 cond, .int .i64 whn] 41)).ownsRow D2 41 6 (.slice bo i j) i (ys.flatMap opC)) := hide (own_of_block HOW.out (fun q9 hq9 => HXB.out q9 (own_lt HOW.out q9 hq9).2))
        have HXW : Hid (Below w3.heap.size w3 (wr.alloc (.cells #[.int .i64 kind, .int .i64 gate, .slice aq m cq, .int .i64 bit, .int .i64 cond, .int .i64 whn] 41))) := hide (HB3r.out.trans ((bnew _ _).mono HB3r.out.size))
        have HXN : Hid (Ns (wr.alloc (.cells #[.int .i64 kind, .int .i64 gate, .slice aq m cq, .int .i64 bit, .int .i64 cond, .int .i64 whn] 41)) aq qs) := hide (HNS.out.below HXW.out)
        go_wp2_with (first
          | (at_builtin; refine list_app1_17 rfl _ _ rfl HXO.out ⟨kind, gate, qs, bit, cond, whn⟩ aq cq m HQ.out hroom HXN.out (wr.heap.size + 1) HXS.out (by omega) (by rw [HXS.out]; omega) _ rfl rfl rfl ?_))
        intro ao6 c6 w6 ho5 hg6
        have ho6 : w6.ownsRow D2 41 6 (.slice ao6 (i + 1) c6) (i + 1) ((ys ++ [((⟨kind, gate, qs, bit, cond, whn⟩ : COp), Value.slice aq m cq)]).flatMap opC) := by
          rw [List.flatMap_append]
          simpa using ho5
        have hkp : ∀ (x : Nat) (cs : Array Value), x < wr.heap.size -> wr.heap[x]? = some (.cells cs 24 (0, 0)) -> w6.heap[x]? = some (.cells cs 24 (0, 0)) := fun x cs hx hc => (hg6.block x (by rw [HXS.out]; omega) (fun e => own_ne HOW.out hc (by decide) e.symm)).trans ((HXB.out x hx).trans hc)
        have d6 := hkp _ _ hD2l HMO.out
        have e6d := hkp _ _ (by omega) HMD1.out
        have hb6 : Below w3.heap.size w3 w6 := HXW.out.grown hg6 (by rw [HXS.out]; omega) (fun q9 hq9 => by have := (own_lt HOW.out q9 hq9).1; omega)
        obtain ⟨v0', v1', v2', v3'⟩ := def_cells d6
        have vf : w6.frozen? ⟨D2, 2, none⟩ = false := by simp [World.frozen?, d6]
        have HF : Hid (Below w3.heap.size w3 (w6.setRow D2 #[.int .i64 q, .int .i64 b, .slice ao6 (i + 1) c6]) /\ (w6.setRow D2 #[.int .i64 q, .int .i64 b, .slice ao6 (i + 1) c6]).heap[D1]? = some (.cells #[.int .i64 q, .int .i64 b, .slice (some ⟨g, off, none⟩) n cj] 24) /\ D2 < (w6.setRow D2 #[.int .i64 q, .int .i64 b, .slice ao6 (i + 1) c6]).heap.size /\ ∃ (bo : Option Addr) (j : Nat) (ys : List (COp × Value)), (w6.setRow D2 #[.int .i64 q, .int .i64 b, .slice ao6 (i + 1) c6]).heap[D2]? = some (.cells #[.int .i64 q, .int .i64 b, .slice bo (i + 1) j] 24 (0, 0)) /\ i + 1 = ys.length /\ ys.map (·.1) = (rl.take (i + 1)).map ivO /\ (∀ y ∈ ys, IsI w3 y.2 y.1.qs) /\ (w6.setRow D2 #[.int .i64 q, .int .i64 b, .slice ao6 (i + 1) c6]).ownsRow D2 41 6 (.slice bo (i + 1) j) (i + 1) (ys.flatMap opC)) := hide (by
          refine ⟨Below.row hb6 _ _ (by omega), (setRow_other _ _ _ _ (by omega)).trans e6d, ?_, ao6, c6, ys ++ [((⟨kind, gate, qs, bit, cond, whn⟩ : COp), Value.slice aq m cq)], setRow_heap _ _ _ _ _ _ d6, ?_, ?_, ?_, own_of_block ho6 (fun q9 hq9 => setRow_other _ _ _ _ (fun e => own_ne ho6 d6 (by decide) (by rw [← e]; exact hq9)))⟩
          . exact (Array.getElem?_eq_some_iff.1 (setRow_heap _ _ _ _ _ _ d6)).1
          . rw [List.length_append, ← HYL.out]
            rfl
          . rw [List.map_append, HYM.out, List.take_add_one, HRO.out, List.map_append]
            show _ ++ [_] = _ ++ [ivO ⟨kind, gate, qs, bit, cond, whn⟩]
            rw [HGZ.out]
          . intro y hy
            rcases List.mem_append.1 hy with hy | hy
            . exact HYR.out y hy
            . rw [List.mem_singleton] at hy
              subst hy
              exact HII.out)
        have HE : Hid (w6.setCell ⟨D2, 2, none⟩ (.slice ao6 (i + 1) c6) = w6.setRow D2 #[.int .i64 q, .int .i64 b, .slice ao6 (i + 1) c6]) := hide (by
          rw [setCell_eq_setRow _ _ 2 _ _ _ _ d6]
          rfl)
        clear ho5 ho6 hg6 hkp d6 e6d hb6
        go_wp2_with fail
        rw [HE.out]
        go_roundw
        case rel => exact ⟨i + 1, by omega, by rw [show (n : Int) - 1 - ((i + 1 : Nat) : Int) = (t : Int) - 1 by have := HT.out; omega], HF.out⟩
        case measure => (simp [Go.RowKit.intOf]; try omega)
    . obtain rfl : n = i := by omega
      rw [show (n : Int) - 1 - (n : Int) = -1 by omega]
      have hz := (HB3r.out.block (w.heap.size + 1) (Array.getElem?_eq_some_iff.1 HZ6.out).1).trans HZ6.out
      have HZ := hide hz
      have hzl : w.heap.size + 1 < D2 := by have := (Array.getElem?_eq_some_iff.1 HZ6.out).1; omega
      clear hz
      go_wp2_with (refine wpList_store_row rfl _ _ _ rfl (w.heap.size + 1) _ rfl rfl _ _ HZ.out (by exact infoCi) (by rfl) (by simp [Value.oneCell']) ?_)
      refine bodyPost_ret (results_ct rfl _ _ (w.heap.size + 1) _ _ _ _ rfl (setRow_heap _ _ _ _ _ _ HZ.out) Tryd.underlying24 rfl (by exact infoCi)) rfl ?_
      refine ⟨bo, j, rfl, ?_, Below.row (HB3.out.trans (HB3r.out.mono HB3.out.size)) _ _ (by omega)⟩
      have hne : ∀ (b : Nat) (cs : Array Value) (t : TypeId) (fr : Nat × Nat) (cs' : Array Value), wr.heap[b]? = some (.cells cs t fr) -> t ≠ 24 -> (wr.setRow (w.heap.size + 1) cs').heap[b]? = wr.heap[b]? := fun b cs t fr cs' hb ht => setRow_other _ _ _ _ (fun e => by
        rw [e, HZ.out] at hb
        simp only [Option.some.injEq, Obj.cells.injEq] at hb
        exact ht hb.2.1.symm)
      refine ⟨ys, HYL.out, ?_, own_base17 (own_of_block HOW.out (fun q9 hq9 => by
        obtain ⟨cs, fr, hc⟩ := own_cells' HOW.out hq9
        exact hne q9 cs _ fr _ hc (by decide))) (by have := HB3.out.size; omega), fun y hy => ((HYR.out y hy).block (fun g cs fr hg => HB3r.out.block g (Array.getElem?_eq_some_iff.1 hg).1)).block (fun g cs fr hg => hne g cs _ fr _ hg (by decide))⟩
      rw [HYM.out, List.take_of_length_le (by rw [← HRL.out, List.length_reverse, HL.out]; exact Nat.le_refl _)]
theorem OpsAt.at_base17 {w : World} {B B' n c : Nat} {ao : Option Addr} {l : List COp} (h : OpsAt w B ao n c l) (hb : B' <= B) : OpsAt w B' ao n c l := by
  obtain ⟨xs, h1, h2, h3, h4⟩ := h
  exact ⟨xs, h1, h2, own_base17 h3 hb, h4⟩
theorem OpsAt.row17 {w : World} {B n c : Nat} {ao : Option Addr} {l : List COp} (h : OpsAt w B ao n c l) {g : Nat} {cs : Array Value} {t : TypeId} {fr : Nat × Nat} (hg : w.heap[g]? = some (.cells cs t fr)) (h1 : t ≠ 41) (h2 : t ≠ 3) (cs' : Array Value) : OpsAt (w.setRow g cs') B ao n c l := by
  obtain ⟨xs, e1, e2, e3, e4⟩ := h
  refine ⟨xs, e1, e2, own_of_block e3 (fun k hk => setRow_other _ _ _ _ (fun e => ?_)), fun x hx => (e4 x hx).block (fun b cs2 fr2 hb => setRow_other _ _ _ _ (fun e => ?_))⟩
  . subst e
    exact own_ne e3 hg h1 hk
  . subst e
    rw [hg] at hb
    cases hb
    exact h2 rfl
theorem OpsAt.nil17 (w : World) (B : Nat) : OpsAt w B none 0 0 [] := (OpsOwn.nil w B).at
theorem ci_at17 {w : World} {B j : Nat} {c : Circ} {bo : Option Addr} (hS : Szs c.ops) (h : OpsAt w B bo c.ops.length j c.ops) : Ci w c bo j := by
  have := h.rd
  exact ⟨this.1, this.2, by have := hS.1; omega, fun o ho => by have := hS.2 o ho; omega⟩
theorem dInverse (c : Circ) (ao : Option Addr) (k : Nat) (hS : Szs c.ops) (w : World) (hC : Ci w c ao k) : Calls Tryd.prog 6 #[cV c ao k] w fun e w' => ∃ bo j, e = .returned (.tuple #[cV (ivP c).1 bo j, .int .i64 (ivP c).2]) /\ OpsAt w' w.heap.size bo (ivP c).1.ops.length j (ivP c).1.ops /\ Below w.heap.size w w' := by
  unfold ivP
  rcases chk_two c with hk | hk
  . rw [if_neg (by simp [hk])]
    cases hu : c.ops.any unO with
    | false =>
      rw [if_neg (by simp)]
      refine (dInverse_ok c ao k hk hu hS w hC).mono ?_
      rintro e w' ⟨bo, j, rfl, h1, h2⟩
      exact ⟨bo, j, rfl, by simpa using h1, h2⟩
    | true =>
      rw [if_pos rfl]
      refine (dInverse_170 c ao k (by rw [hk]; rfl) hu w hC).mono ?_
      rintro e w' ⟨rfl, h2⟩
      exact ⟨none, 0, rfl, OpsAt.nil17 _ _, h2⟩
  . rw [if_pos (by rw [hk]; decide)]
    refine (dInverse_80 c ao k (by rw [hk]; rfl) w hC).mono ?_
    rintro e w' ⟨rfl, h2⟩
    exact ⟨none, 0, rfl, OpsAt.nil17 _ _, h2⟩
theorem dMirror_ok (c : Circ) (ao : Option Addr) (k : Nat) (hi : ivP c = (⟨c.q, c.b, c.ops.reverse.map ivO⟩, 0)) (hl : c.ops.length + c.ops.length <= 4096) (hS : Szs c.ops) (w : World) (hC : Ci w c ao k) : Calls Tryd.prog 11 #[cV c ao k] w fun e w' => ∃ bo j, e = .returned (.tuple #[cV ⟨c.q, c.b, c.ops ++ c.ops.reverse.map ivO⟩ bo j, .int .i64 0]) /\ OpsAt w' w.heap.size bo (c.ops.length + c.ops.length) j (c.ops ++ c.ops.reverse.map ivO) /\ Below w.heap.size w w' := by
  have c1 := fun V (h : Below w.heap.size w V) => dInverse c ao k hS V (hC.below h)
  have hSr := szs_iv c hS
  rw [hi] at c1 hSr
  have HCE := hide (fun V => dEmpty c ao k V)
  have HCM0 := hide (fun V (h : Below w.heap.size w V) => dMore ⟨c.q, c.b, []⟩ c none ao 0 k hS (by simp; omega) V (OpsAt.nil17 V 0) (hC.below h))
  have HCN0 := hide (fun V co cc dx dj (B1 : Nat) (h1 : OpsAt V B1 co c.ops.length cc c.ops) (h2 : Ci V ⟨c.q, c.b, c.ops.reverse.map ivO⟩ dx dj) => dMore c ⟨c.q, c.b, c.ops.reverse.map ivO⟩ co dx cc dj hSr (by simp; omega) V h1 h2)
  have HCI := hide (fun (V : World) (B : Nat) dx dj (h : OpsAt V B dx (c.ops.reverse.map ivO).length dj (c.ops.reverse.map ivO)) => ci_at17 (c := ⟨c.q, c.b, c.ops.reverse.map ivO⟩) hSr h)
  obtain ⟨q, b, l⟩ := c
  unfold cV at *
  simp only [List.length_map, List.length_reverse, List.length_append, List.nil_append, List.length_nil] at *
  generalize l.reverse.map ivO = rl at *
  generalize l.length = n at *
  clear hC hS hi hSr
  have g0 : wrap64 (2 * (n : Int)) = 2 * (n : Int) := by unfold wrap64; omega
  have d0 : decide (2 * (n : Int) > 4096) = false := decide_eq_false (by omega)
  have d1 : decide ((4096 : Int) < 2 * (n : Int)) = false := decide_eq_false (by omega)
  have HB0 := hide (show Below w.heap.size w ((w.alloc (.cells #[.int .i64 q, .int .i64 b, .slice ao n k] 24)).alloc (.cells #[.int .i64 0, .int .i64 0, .slice none 0 0] 24)) from (bnew _ _).trans ((bnew _ _).mono (by simp)))
  go_enter Tryd.func11, Tryd.ntmps11
  go_wp2_with (go_at_call 6; refine (c1 _ HB0.out).mono ?_; rintro e w1 ⟨do1, dj, rfl, hO1, hb1⟩; obtain ⟨m1, m2⟩ := may_keep hb1; obtain ⟨x0, x1, x2, x3⟩ := def_cells m1; have HBa := hide (HB0.out.trans (hb1.mono HB0.out.size)); have HM1 := hide m1; have HM2 := hide m2; have HO1 := hide hO1; clear hb1 m1 m2 hO1)
  have hal : Below w1.heap.size w1 (w1.alloc (.cells #[.int .i64 q, .int .i64 b, .slice do1 n dj] 24)) := bnew _ _
  have HS1 : Hid ((w1.alloc (.cells #[.int .i64 q, .int .i64 b, .slice do1 n dj] 24)).heap[w.heap.size]? = some (.cells #[.int .i64 q, .int .i64 b, .slice ao n k] 24) /\ (w1.alloc (.cells #[.int .i64 q, .int .i64 b, .slice do1 n dj] 24)).heap[w1.heap.size]? = some (.cells #[.int .i64 q, .int .i64 b, .slice do1 n dj] 24)) := hide ⟨(hal.block _ (Array.getElem?_eq_some_iff.1 HM1.out).1).trans HM1.out, heap_alloc_new _ _⟩
  have HZ1 : Hid ((w1.alloc (.cells #[.int .i64 q, .int .i64 b, .slice do1 n dj] 24)).heap[w.heap.size + 1]? = some (.cells #[.int .i64 0, .int .i64 0, .slice none 0 0] 24)) := hide ((hal.block _ (Array.getElem?_eq_some_iff.1 HM2.out).1).trans HM2.out)
  have HB1 : Hid (Below w.heap.size w (w1.alloc (.cells #[.int .i64 q, .int .i64 b, .slice do1 n dj] 24))) := hide (HBa.out.trans (hal.mono HBa.out.size))
  have HCM := HCM0
  have HCN := hide (fun V (h : Below (w1.alloc (.cells #[.int .i64 q, .int .i64 b, .slice do1 n dj] 24)).heap.size (w1.alloc (.cells #[.int .i64 q, .int .i64 b, .slice do1 n dj] 24)) V) co cc (B1 : Nat) (h1 : OpsAt V B1 co n cc l) => HCN0.out V co cc do1 dj B1 h1 ((HCI.out w1 _ do1 dj HO1.out).below (hal.trans (h.mono hal.size))))
  have hDW := (Array.getElem?_eq_some_iff.1 HM2.out).1
  clear x0 x1 x2 x3 c1 HM1 HM2 HO1 HBa HCI HCM0 HCN0 hal HB0
  generalize (w1.alloc (.cells #[.int .i64 q, .int .i64 b, .slice do1 n dj] 24)) = W1 at *
  generalize w1.heap.size = D at *
  refine wp_region_held_drew (S := (fun V : World => V.heap[w.heap.size]? = some (.cells #[.int .i64 q, .int .i64 b, .slice ao n k] 24) /\ V.heap[D]? = some (.cells #[.int .i64 q, .int .i64 b, .slice do1 n dj] 24))) (by kernel_rfl) HS1.out (fun hHeld => ?_)
  refine take_to (i := 0) (d := 21) (v := ?_) rfl rfl (by kernel_rfl) (by kernel_rfl) (by kernel_rfl) (fun _ _ _ h => h) (Or.inl ⟨by rfl, ?_⟩) (by assumption) ?_
  rotate_left 1
  . intro W hSw
    obtain ⟨hc1, hc2⟩ := hSw
    obtain ⟨s0, s1, s2, s3⟩ := def_cells hc1
    obtain ⟨t0, t1, t2, t3⟩ := def_cells hc2
    go_simp
    with_reducible rfl
  simp only [Act.put, List.setIfInBounds_toArray, List.set_cons_zero, List.set_cons_succ]
  refine take_to (i := 2) (d := 23) (v := ?_) rfl rfl (by kernel_rfl) (by kernel_rfl) (by kernel_rfl) (fun _ _ _ h => h) (Or.inl ⟨by rfl, ?_⟩) (by assumption) ?_
  rotate_left 1
  . intro W hSw
    obtain ⟨hc1, hc2⟩ := hSw
    obtain ⟨s0, s1, s2, s3⟩ := def_cells hc1
    obtain ⟨t0, t1, t2, t3⟩ := def_cells hc2
    go_simp
    with_reducible rfl
  simp only [Act.put, List.setIfInBounds_toArray, List.set_cons_zero, List.set_cons_succ]
  refine take_to (i := 4) (d := 25) (v := ?_) rfl rfl (by kernel_rfl) (by kernel_rfl) (by kernel_rfl) (fun _ _ _ h => h) (Or.inl ⟨by rfl, ?_⟩) (by assumption) ?_
  rotate_left 1
  . intro W hSw
    obtain ⟨hc1, hc2⟩ := hSw
    obtain ⟨s0, s1, s2, s3⟩ := def_cells hc1
    obtain ⟨t0, t1, t2, t3⟩ := def_cells hc2
    go_simp
    with_reducible rfl
  simp only [Act.put, List.setIfInBounds_toArray, List.set_cons_zero, List.set_cons_succ]
  refine wpAnyH_ready (rs := [1]) (by kernel_rfl) (by simp) ?_
  refine AllReadyH.cons (o := { dst := some 22, op := Op.call { callee := Callee.value (Operand.func 25), args := #[Operand.tmp 21], argTypes := #[24] }, type := 24, pos := "ref.go:104", after := #[{ on := 0, ground := Ground.data }], guard := none }) rfl (fun K hK => ?_) AllReadyH.nil
  go_simp
  go_at_call 25
  refine Calls.mono (HCE.out W1.drew) ?_
  rintro e w5 ⟨rfl, hb5⟩
  have hS5 : (fun V : World => V.heap[w.heap.size]? = some (.cells #[.int .i64 q, .int .i64 b, .slice ao n k] 24) /\ V.heap[D]? = some (.cells #[.int .i64 q, .int .i64 b, .slice do1 n dj] 24)) w5 := ⟨(hb5.block _ (Array.getElem?_eq_some_iff.1 HS1.out.1).1).trans HS1.out.1, (hb5.block _ (Array.getElem?_eq_some_iff.1 HS1.out.2).1).trans HS1.out.2⟩
  have hbw5 : Below W1.heap.size W1 w5 := (Below.refl _ _).drew.trans hb5
  go_wp2_with fail
  refine hK.out _ _ hS5 (fun hHeld => ?_)
  clear hK K
  refine wpAnyH_ready (rs := [3]) (by kernel_rfl) (by simp) ?_
  refine AllReadyH.cons (o := { dst := some 24, op := Op.call { callee := Callee.value (Operand.func 31), args := #[Operand.tmp 22, Operand.tmp 23], argTypes := #[24, 24] }, type := 24, pos := "ref.go:104", after := #[{ on := 1, ground := Ground.data }, { on := 2, ground := Ground.data }, { on := 1, ground := Ground.chain }], guard := none }) rfl (fun K hK => ?_) AllReadyH.nil
  go_simp
  go_at_call 31
  refine Calls.mono (HCM.out w5 (HB1.out.trans (hbw5.mono HB1.out.size))) ?_
  rintro e w6 ⟨co6, c6, rfl, hO6, hb6⟩
  have hS6 : (fun V : World => V.heap[w.heap.size]? = some (.cells #[.int .i64 q, .int .i64 b, .slice ao n k] 24) /\ V.heap[D]? = some (.cells #[.int .i64 q, .int .i64 b, .slice do1 n dj] 24)) w6 := ⟨(hb6.block _ (Array.getElem?_eq_some_iff.1 hS5.1).1).trans hS5.1, (hb6.block _ (Array.getElem?_eq_some_iff.1 hS5.2).1).trans hS5.2⟩
  have hbw6 : Below W1.heap.size W1 w6 := hbw5.trans (hb6.mono hbw5.size)
  go_wp2_with fail
  refine hK.out _ _ hS6 (fun hHeld => ?_)
  clear hK K
  refine wpAnyH_ready (rs := [5]) (by kernel_rfl) (by simp) ?_
  refine AllReadyH.cons (o := { dst := some 26, op := Op.call { callee := Callee.value (Operand.func 31), args := #[Operand.tmp 24, Operand.tmp 25], argTypes := #[24, 24] }, type := 24, pos := "ref.go:104", after := #[{ on := 3, ground := Ground.data }, { on := 4, ground := Ground.data }, { on := 3, ground := Ground.chain }], guard := none }) rfl (fun K hK => ?_) AllReadyH.nil
  go_simp
  go_at_call 31
  refine Calls.mono (HCN.out w6 hbw6 co6 c6 _ hO6) ?_
  rintro e w7 ⟨co7, c7, rfl, hO7, hb7⟩
  have hS7 : (fun V : World => V.heap[w.heap.size]? = some (.cells #[.int .i64 q, .int .i64 b, .slice ao n k] 24) /\ V.heap[D]? = some (.cells #[.int .i64 q, .int .i64 b, .slice do1 n dj] 24)) w7 := ⟨(hb7.block _ (Array.getElem?_eq_some_iff.1 hS6.1).1).trans hS6.1, (hb7.block _ (Array.getElem?_eq_some_iff.1 hS6.2).1).trans hS6.2⟩
  have hbw7 : Below W1.heap.size W1 w7 := hbw6.trans (hb7.mono hbw6.size)
  have hz7 := (hbw7.block _ (Array.getElem?_eq_some_iff.1 HZ1.out).1).trans HZ1.out
  go_wp2_with fail
  refine hK.out _ _ hS7 (fun hHeld => ?_)
  clear hK K
  refine wpAnyH_ready (rs := [6]) (by kernel_rfl) (by simp) ?_
  refine AllReadyH.cons (o := { dst := none, op := Op.store 24 (Operand.tmp 2) (Operand.tmp 26), type := 0, pos := "ref.go:104", after := #[{ on := 5, ground := Ground.data }, { on := 5, ground := Ground.chain }, { on := 0, ground := Ground.phase }, { on := 1, ground := Ground.phase }, { on := 2, ground := Ground.phase }, { on := 3, ground := Ground.phase }, { on := 4, ground := Ground.phase }, { on := 5, ground := Ground.phase }], guard := none }) rfl (fun K hK => ?_) AllReadyH.nil
  obtain ⟨z0, z1, z2, z3⟩ := def_cells hz7
  have zf : ∀ x, w7.frozen? ⟨w.heap.size + 1, x, none⟩ = false := fun x => by simp [World.frozen?, hz7]
  go_simp
  rw [c3_set w7 _ _ _ _ _ _ _ _ hz7]
  have hS8 : (fun V : World => V.heap[w.heap.size]? = some (.cells #[.int .i64 q, .int .i64 b, .slice ao n k] 24) /\ V.heap[D]? = some (.cells #[.int .i64 q, .int .i64 b, .slice do1 n dj] 24)) (w7.setRow (w.heap.size + 1) #[.int .i64 q, .int .i64 b, .slice co7 (n + n) c7]) := ⟨(setRow_other _ _ _ _ (by omega)).trans hS7.1, (setRow_other _ _ _ _ (by omega)).trans hS7.2⟩
  refine hK.out _ _ hS8 (fun hHeld => ?_)
  clear hK K
  try simp only [Act.put, List.setIfInBounds_toArray, List.set_cons_zero, List.set_cons_succ]
  refine take_to (i := 7) (d := 3) (v := ?_) rfl rfl (by kernel_rfl) (by kernel_rfl) (by kernel_rfl) (fun _ _ _ h => h) (Or.inl ⟨by rfl, ?_⟩) (by assumption) ?_
  rotate_left 1
  . intro W hSw
    obtain ⟨hc1, hc2⟩ := hSw
    obtain ⟨s0, s1, s2, s3⟩ := def_cells hc1
    obtain ⟨t0, t1, t2, t3⟩ := def_cells hc2
    go_simp
    with_reducible rfl
  simp only [Act.put, List.setIfInBounds_toArray, List.set_cons_zero, List.set_cons_succ]
  refine wpAnyH_done (by kernel_rfl) ?_ _
  have HZ7 := hide hz7
  have HO7 := hide (hO7.at_base17 (Nat.le_trans HB1.out.size hbw6.size))
  have HB7 := hide (HB1.out.trans (hbw7.mono HB1.out.size))
  clear hS5 hS6 hS7 hS8 hb5 hb6 hb7 hbw5 hbw6 hbw7 hO6 hO7 hz7 hHeld z0 z1 z2 z3 zf
  go_wp2_with fail
  refine bodyPost_ret (results_ct rfl _ _ (w.heap.size + 1) _ _ _ _ rfl (setRow_heap _ _ _ _ _ _ HZ7.out) Tryd.underlying24 rfl (by exact infoCi)) rfl ?_
  exact ⟨co7, c7, rfl, HO7.out.row17 HZ7.out (by decide) (by decide) _, Below.row HB7.out _ _ (by omega)⟩
end Go.Proofs.YtmkalhaegbnknaaDoor.Cir
