import Derived.Test.YtmkalhaegbnknaaDoorQ8b47a7e4
set_option maxRecDepth 100000
set_option maxHeartbeats 2000000
namespace Go.Proofs.YtmkalhaegbnknaaDoor.Cir
open Go.RowKit Go.Shelf Go.Proofs.YtmkalhaegbnknaaDoor.Oct Go.Proofs.YtmkalhaegbnknaaDoor.Tok Go.Proofs.YtmkalhaegbnknaaDoor.Gt
theorem OpsOwn.gate1 {w : World} {B g n c : Nat} {l : List COp} (h : OpsOwn w B (some ⟨g, 0, none⟩) n c l) {i : Nat} {o : COp} (hi : l[i]? = some o) : B <= g /\ g < w.heap.size /\ w.cell? ⟨g, i * 6 + 1, none⟩ = some (.int .i64 o.gate) /\ (∀ k, w.frozen? ⟨g, k, none⟩ = false) /\ (∀ v, OpsOwn (w.setCell ⟨g, i * 6 + 1, none⟩ (.int .i64 v)) B (some ⟨g, 0, none⟩) n c (l.set i { o with gate := v })) := by
  obtain ⟨xs, h1, h2, h3, h4, h5⟩ := h
  rw [h2, List.getElem?_map] at hi
  obtain ⟨x, hx, rfl⟩ := Option.map_eq_some_iff.1 hi
  obtain ⟨gcs, gfr, hgc⟩ := own_cells' h3 (k := g) rfl
  have hg := own_lt h3 g rfl
  refine ⟨hg.1, hg.2, own_at h3 _ _ (opC_at xs i x hx 1 _ rfl), own_free h3, fun v => ?_⟩
  refine ⟨xs.set i ({ x.1 with gate := v }, x.2), by rw [List.length_set]; exact h1, by rw [h2, List.map_set], ?_, fun y hy => ?_, h5.set hx _⟩
  . rw [← flat_set xs i x ({ x.1 with gate := v }, x.2) 1 (.int .i64 v) hx (by decide) rfl]
    exact own_set h3 _ _
  . have hk : ∀ (b : Nat) (cs : Array Value) (fr : Nat × Nat), w.heap[b]? = some (Obj.cells cs 3 fr) -> (w.setCell ⟨g, i * 6 + 1, none⟩ (.int .i64 v)).heap[b]? = w.heap[b]? := fun b cs fr hb => Below.heap_setCell _ _ _ _ (fun e => by
      have e' : b = g := e
      rw [e', hgc] at hb
      simp at hb)
    rcases mem_set hy with rfl | ⟨j', -, hj'⟩
    . exact (h4 x (List.mem_of_getElem? hx)).block hk
    . exact (h4 y (List.mem_of_getElem? hj')).block hk
theorem OpsOwn.ne {w : World} {B n c : Nat} {bo : Option Addr} {l : List COp} (h : OpsOwn w B bo n c l) {x : Nat} {cs : Array Value} {t : TypeId} {fr : Nat × Nat} (hx : w.heap[x]? = some (.cells cs t fr)) (ht : t ≠ 41) : ob bo ≠ some x := by
  obtain ⟨xs, h1, h2, h3, h4, h5⟩ := h
  exact own_ne h3 hx ht
def ivL (l : List COp) (i : Nat) : List COp := (l.take i).map ivO ++ l.drop i
theorem ivL_at (l : List COp) (i : Nat) (o : COp) (h : l[i]? = some o) : (ivL l i)[i]? = some o := by
  have hl := (List.getElem?_eq_some_iff.1 h).1
  unfold ivL
  rw [List.getElem?_append_right (by simp; omega)]
  simp [Nat.min_eq_left (Nat.le_of_lt hl), h]
theorem ivL_set (l : List COp) (i : Nat) (o : COp) (h : l[i]? = some o) : (ivL l i).set i (ivO o) = ivL l (i + 1) := by
  have hl := (List.getElem?_eq_some_iff.1 h).1
  have e : l.drop i = o :: l.drop (i + 1) := by
    rw [List.drop_eq_getElem_cons hl, (List.getElem?_eq_some_iff.1 h).2]
  unfold ivL
  rw [List.set_append, if_neg (by simp; omega), List.length_map, List.length_take, Nat.min_eq_left (Nat.le_of_lt hl), Nat.sub_self, e, List.set_cons_zero, List.take_add_one, h, List.map_append, List.append_assoc]
  rfl
theorem iInverse_ok (c : Circ) (ao : Option Addr) (k : Nat) (hS : Szs c.ops) (hk : (chkC c).2 = 0) (hu : c.ops.any unO = false) (w : World) (hT : Tb w) (hC : Ci w c ao k) : Calls Tryd.prog 5 #[cV c ao k] w fun e w' => ∃ bo j, e = .returned (.tuple #[cV ⟨c.q, c.b, c.ops.reverse.map ivO⟩ bo j, .int .i64 0]) /\ OpsOwn w' w.heap.size bo c.ops.length j (c.ops.reverse.map ivO) /\ Below w.heap.size w w' := by
  have c1 := fun V (h : Below w.heap.size w V) => cCheck c ao k V (hT.below h) (hC.below h)
  have c2 := fun V (h : Below w.heap.size w V) => cUnitary c ao k V (hC.below h)
  have c3 := fun V (h : Below w.heap.size w V) => cCopyO c ao k hS V (hC.below h)
  have c4 := fun V (h : Below w.heap.size w V) g => gInverse g V (hT.below h)
  have c5 := fun V bo j (h : OpsOwn V w.heap.size bo c.ops.length j c.ops) => iReverse c.ops bo j w.heap.size V h
  have hnb := hS.1
  rw [hk] at c1
  rw [hu] at c2
  obtain ⟨q, b, l⟩ := c
  unfold cV at *
  simp only [Bool.not_false, List.length_map, List.length_reverse] at *
  generalize (chkC ⟨q, b, l⟩).1 = z at *
  obtain ⟨n, hn⟩ : ∃ n, l.length = n := ⟨_, rfl⟩
  have HL := hide (show l.reverse.length = n by rw [List.length_reverse]; exact hn)
  rw [hn] at c1 c2 c3 c5 hnb ⊢
  clear hT hC hS hk hu hn
  generalize hrl : l.reverse = rl at *
  clear hrl
  have HB0 := hide (show Below w.heap.size w ((w.alloc (.cells #[.int .i64 q, .int .i64 b, .slice ao n k] 24)).alloc (.cells #[.int .i64 0, .int .i64 0, .slice none 0 0] 24)) from (bnew _ _).trans ((bnew _ _).mono (by simp)))
  go_enter Tryd.func5, Tryd.ntmps5
  go_wp2_with (first
    | (go_at_call 18; refine (c1 _ HB0.out).mono ?_; rintro e w1 ⟨rfl, hb1⟩; obtain ⟨m1, m2⟩ := may_keep hb1; obtain ⟨x0, x1, x2, x3⟩ := def_cells m1; have HB1 := hide (HB0.out.trans (hb1.mono HB0.out.size)); have HM1 := hide m1; have HM2 := hide m2; clear hb1 m1 m2)
    | (go_at_call 19; refine (c2 _ HB1.out).mono ?_; rintro e w2 ⟨rfl, hb2⟩; have m1 := (hb2.block _ (Array.getElem?_eq_some_iff.1 HM1.out).1).trans HM1.out; have m2 := (hb2.block _ (Array.getElem?_eq_some_iff.1 HM2.out).1).trans HM2.out; clear x0 x1 x2 x3; obtain ⟨x0, x1, x2, x3⟩ := def_cells m1; have HB2 := hide (HB1.out.trans (hb2.mono HB1.out.size)); have HM3 := hide m2; clear hb2 m1 m2)
    | (go_at_call 20; refine (c3 _ HB2.out).mono ?_; rintro e w3 ⟨bo, j, rfl, hO, hb3⟩; have HO := hide (hO.base HB2.out.size); have HB3 := hide (HB2.out.trans (hb3.mono HB2.out.size)); have m2 := (hb3.block _ (Array.getElem?_eq_some_iff.1 HM3.out).1).trans HM3.out; have HM4 := hide m2; clear hb3 hO m2)
    | (go_at_call 21; refine (c5 _ bo j (HO.out.below (bnew _ _))).mono ?_; rintro e w4 ⟨rfl, hO, hoth, hb4⟩; have m5 := (hoth _ ((HO.out.below (bnew w3 (.cells #[.int .i64 q, .int .i64 b, .slice bo n j] 24))).ne (heap_alloc_new _ _) (by decide))).trans (heap_alloc_new w3 _); have m6 := (hoth _ ((HO.out.below (bnew w3 (.cells #[.int .i64 q, .int .i64 b, .slice bo n j] 24))).ne ((Below.heap_alloc _ _ _ (Array.getElem?_eq_some_iff.1 HM4.out).1).trans HM4.out) (by decide))).trans ((Below.heap_alloc _ _ _ (Array.getElem?_eq_some_iff.1 HM4.out).1).trans HM4.out); have HB4 := hide ((HB3.out.trans ((bnew w3 (.cells #[.int .i64 q, .int .i64 b, .slice bo n j] 24)).mono HB3.out.size)).trans hb4); have HO4 := hide hO; obtain ⟨y0, y1, y2, y3⟩ := def_cells m5; have HM5 := hide m5; have HM6 := hide m6; clear hO hoth hb4 m5 m6))
  generalize w3.heap.size = D at *
  go_loopw [7, 29] (fun _ vi wr => ∃ i : Nat, vi = .int .i64 (i : Int) /\ i <= n /\ Below w.heap.size w wr /\ wr.heap[D]? = some (.cells #[.int .i64 q, .int .i64 b, .slice bo n j] 24 (0, 0)) /\ wr.heap[w.heap.size + 1]? = some (.cells #[.int .i64 0, .int .i64 0, .slice none 0 0] 24 (0, 0)) /\ OpsOwn wr w.heap.size bo n j (ivL rl i)) (fun _ vi _ => n - (Go.RowKit.intOf vi).toNat)
  case atStart => exact ⟨0, rfl, Nat.zero_le _, HB4.out, HM5.out, HM6.out, HO4.out⟩
  case round =>
    obtain ⟨i, rfl, hi, hb, hm0, hm1, hO⟩ := hrel
    by_cases h : i < n
    . have hd : decide ((i : Int) < (n : Int)) = true := decide_eq_true (by omega)
      have hkk : (i : Int) < (n : Int) := by omega
      obtain ⟨o, ho⟩ : ∃ o, rl[i]? = some o := ⟨_, List.getElem?_eq_getElem (by rw [HL.out]; exact h)⟩
      obtain ⟨g, rfl⟩ : ∃ g, bo = some ⟨g, 0, none⟩ := by
        obtain ⟨xs, e1, e2, e3, -⟩ := hO
        obtain ⟨g, e, -⟩ := own_some e3 (by omega)
        exact ⟨g, e⟩
      have hgt := hO.gate1 (ivL_at rl i o ho)
      have hne := hO.ne hm0 (by decide)
      have hne1 := hO.ne hm1 (by decide)
      have HK : Hid (∀ W, Below wr.heap.size wr W -> W.cell? ⟨D, 2, none⟩ = some (.slice (some ⟨g, 0, none⟩) n j) /\ W.cell? ⟨g, i * 6 + 1, none⟩ = some (.int .i64 o.gate) /\ W.frozen? ⟨g, i * 6 + 1, none⟩ = false /\ Below w.heap.size w W) := hide (fun W hW => by
        have t := hO.below hW
        obtain ⟨-, -, u1, u2, -⟩ := t.gate1 (ivL_at rl i o ho)
        obtain ⟨-, -, v2, -⟩ := def_cells ((hW.block _ (Array.getElem?_eq_some_iff.1 hm0).1).trans hm0)
        exact ⟨v2, u1, u2 _, hb.trans (hW.mono hb.size)⟩)
      have HF : Hid (∀ W, Below wr.heap.size wr W -> Below w.heap.size w (W.setCell ⟨g, i * 6 + 1, none⟩ (.int .i64 (rw' o.gate).v)) /\ (W.setCell ⟨g, i * 6 + 1, none⟩ (.int .i64 (rw' o.gate).v)).heap[D]? = some (.cells #[.int .i64 q, .int .i64 b, .slice (some ⟨g, 0, none⟩) n j] 24 (0, 0)) /\ (W.setCell ⟨g, i * 6 + 1, none⟩ (.int .i64 (rw' o.gate).v)).heap[w.heap.size + 1]? = some (.cells #[.int .i64 0, .int .i64 0, .slice none 0 0] 24 (0, 0)) /\ OpsOwn (W.setCell ⟨g, i * 6 + 1, none⟩ (.int .i64 (rw' o.gate).v)) w.heap.size (some ⟨g, 0, none⟩) n j (ivL rl (i + 1))) := hide (fun W hW => by
        have t := hO.below hW
        obtain ⟨-, -, -, -, u3⟩ := t.gate1 (ivL_at rl i o ho)
        refine ⟨(hb.trans (hW.mono hb.size)).setCell (p := ⟨g, i * 6 + 1, none⟩) hgt.1 _, (Below.heap_setCell _ _ _ _ (fun e => hne (by rw [show g = D from e.symm]; rfl))).trans ((hW.block _ (Array.getElem?_eq_some_iff.1 hm0).1).trans hm0), (Below.heap_setCell _ _ _ _ (fun e => hne1 (by rw [show g = w.heap.size + 1 from e.symm]; rfl))).trans ((hW.block _ (Array.getElem?_eq_some_iff.1 hm1).1).trans hm1), ?_⟩
        rw [← ivL_set rl i o ho]
        exact u3 _)
      clear hgt hne hne1 hO hm0 hm1 hb ho y0 y1 y2 y3
      generalize o.gate = gt at *
      have HC4 := hide c4
      clear c1 c2 c3 c4 c5
      go_wp2_with fail
      refine wp_region_quiet_last2 (C := fun W => Below wr.heap.size wr W) (by kernel_rfl) 11 rfl (by kernel_rfl) (by kernel_rfl) (below_drewN (Below.refl _ _) 1) ?_
      simp only [List.take_succ_cons, List.take_zero]
      repeat
        refine wpQuiet_step (fun K hK => ?_)
        go_simp
        first
          | (refine hK _ ?_; clear hK K)
          | (apply Exists.intro
             refine ⟨fun W hW => ?_, hK _ ?_⟩
             first
               | with_reducible rfl
               | (refine (HC4.out _ (HK.out W hW).2.2.2 _).mono ?_; rintro e x ⟨rfl, q⟩; exact ⟨rfl, hW.trans (q.mono hW.size)⟩)
               | (obtain ⟨a0, a1, a2, a3⟩ := HK.out W hW; go_simp; rfl)
             clear hK K)
      refine wpQuiet_nil ?_
      intro W hW
      obtain ⟨a0, a1, a2, a3⟩ := HK.out W hW
      have HWf := hide (HF.out W hW)
      clear hW HK HF a3
      go_wp2_with fail
      go_roundw
      case rel => exact ⟨i + 1, by go_num, by omega, HWf.out⟩
      case measure => simp [Go.RowKit.intOf]; omega
    . obtain rfl : n = i := by omega
      have HF : Hid (OpsOwn wr w.heap.size bo n j (rl.map ivO)) := hide (by
        have := hO
        unfold ivL at this
        rwa [List.take_of_length_le (by rw [HL.out]; exact Nat.le_refl _), List.drop_of_length_le (by rw [HL.out]; exact Nat.le_refl _), List.append_nil] at this)
      obtain ⟨z0, z1, z2, z3⟩ := def_cells hm0
      have HM1' := hide hm1
      have HBr := hide hb
      clear hb hm0 hm1 hO c1 c2 c3 c4 c5 y0 y1 y2 y3
      go_wp2_with (refine wpList_store_row rfl _ _ _ rfl (w.heap.size + 1) _ rfl rfl _ _ HM1'.out (by exact infoCi) (by rfl) (by simp [Value.oneCell']) ?_)
      refine bodyPost_ret (results_ct rfl _ _ (w.heap.size + 1) _ _ _ _ rfl (setRow_heap _ _ _ _ _ _ HM1'.out) Tryd.underlying24 rfl (by exact infoCi)) rfl ?_
      exact ⟨bo, j, rfl, HF.out.row HM1'.out (by decide) (by decide) _, Below.row HBr.out _ _ (by omega)⟩
theorem iInverse_80 (c : Circ) (ao : Option Addr) (k : Nat) (hk : (chkC c).2 = 80) (w : World) (hT : Tb w) (hC : Ci w c ao k) : Calls Tryd.prog 5 #[cV c ao k] w fun e w' => e = .returned (.tuple #[cV nulC none 0, .int .i64 80]) /\ Below w.heap.size w w' := by
  have c1 := fun V (h : Below w.heap.size w V) => cCheck c ao k V (hT.below h) (hC.below h)
  rw [hk] at c1
  obtain ⟨q, b, l⟩ := c
  unfold cV nulC at *
  simp only [List.length_nil] at *
  generalize (chkC ⟨q, b, l⟩).1 = z at *
  generalize l.length = n at *
  clear hT hC hk
  have HB0 := hide (show Below w.heap.size w ((w.alloc (.cells #[.int .i64 q, .int .i64 b, .slice ao n k] 24)).alloc (.cells #[.int .i64 0, .int .i64 0, .slice none 0 0] 24)) from (bnew _ _).trans ((bnew _ _).mono (by simp)))
  go_enter Tryd.func5, Tryd.ntmps5
  go_wp2_with (first
    | (go_at_call 18; refine (c1 _ HB0.out).mono ?_; rintro e w1 ⟨rfl, hb1⟩; obtain ⟨m1, m2⟩ := may_keep hb1; have HB1 := hide (HB0.out.trans (hb1.mono HB0.out.size)); have HM2 := hide m2; clear hb1 m1 m2)
    | refine wpList_store_row rfl _ _ _ rfl (w.heap.size + 1) _ rfl rfl _ _ HM2.out (by exact infoCi) (by rfl) (by simp [Value.oneCell']) ?_)
  refine bodyPost_ret (results_ct rfl _ _ (w.heap.size + 1) _ _ _ _ rfl (setRow_heap _ _ _ _ _ _ HM2.out) Tryd.underlying24 rfl (by exact infoCi)) rfl ?_
  exact ⟨rfl, Below.row HB1.out _ _ (by omega)⟩
theorem iInverse_170 (c : Circ) (ao : Option Addr) (k : Nat) (hk : (chkC c).2 = 0) (hu : c.ops.any unO = true) (w : World) (hT : Tb w) (hC : Ci w c ao k) : Calls Tryd.prog 5 #[cV c ao k] w fun e w' => e = .returned (.tuple #[cV nulC none 0, .int .i64 170]) /\ Below w.heap.size w w' := by
  have c1 := fun V (h : Below w.heap.size w V) => cCheck c ao k V (hT.below h) (hC.below h)
  have c2 := fun V (h : Below w.heap.size w V) => cUnitary c ao k V (hC.below h)
  rw [hk] at c1
  rw [hu] at c2
  obtain ⟨q, b, l⟩ := c
  unfold cV nulC at *
  simp only [List.length_nil, Bool.not_true] at *
  generalize (chkC ⟨q, b, l⟩).1 = z at *
  generalize l.length = n at *
  clear hT hC hk hu
  have HB0 := hide (show Below w.heap.size w ((w.alloc (.cells #[.int .i64 q, .int .i64 b, .slice ao n k] 24)).alloc (.cells #[.int .i64 0, .int .i64 0, .slice none 0 0] 24)) from (bnew _ _).trans ((bnew _ _).mono (by simp)))
  go_enter Tryd.func5, Tryd.ntmps5
  go_wp2_with (first
    | (go_at_call 18; refine (c1 _ HB0.out).mono ?_; rintro e w1 ⟨rfl, hb1⟩; obtain ⟨m1, m2⟩ := may_keep hb1; obtain ⟨x0, x1, x2, x3⟩ := def_cells m1; have HB1 := hide (HB0.out.trans (hb1.mono HB0.out.size)); have HM1 := hide m1; have HM2 := hide m2; clear hb1 m1 m2)
    | (go_at_call 19; refine (c2 _ HB1.out).mono ?_; rintro e w2 ⟨rfl, hb2⟩; have m2 := (hb2.block _ (Array.getElem?_eq_some_iff.1 HM2.out).1).trans HM2.out; have HB2 := hide (HB1.out.trans (hb2.mono HB1.out.size)); have HM3 := hide m2; clear hb2 m2)
    | refine wpList_store_row rfl _ _ _ rfl (w.heap.size + 1) _ rfl rfl _ _ HM3.out (by exact infoCi) (by rfl) (by simp [Value.oneCell']) ?_)
  refine bodyPost_ret (results_ct rfl _ _ (w.heap.size + 1) _ _ _ _ rfl (setRow_heap _ _ _ _ _ _ HM3.out) Tryd.underlying24 rfl (by exact infoCi)) rfl ?_
  exact ⟨rfl, Below.row HB2.out _ _ (by omega)⟩
theorem iInverse (c : Circ) (ao : Option Addr) (k : Nat) (hS : Szs c.ops) (w : World) (hT : Tb w) (hC : Ci w c ao k) : Calls Tryd.prog 5 #[cV c ao k] w fun e w' => ∃ bo j, e = .returned (.tuple #[cV (ivP c).1 bo j, .int .i64 (ivP c).2]) /\ OpsOwn w' w.heap.size bo (ivP c).1.ops.length j (ivP c).1.ops /\ Below w.heap.size w w' := by
  unfold ivP
  rcases chk_two c with hk | hk
  . rw [if_neg (by simp [hk])]
    cases hu : c.ops.any unO with
    | false =>
      rw [if_neg (by simp)]
      refine (iInverse_ok c ao k hS hk hu w hT hC).mono ?_
      rintro e w' ⟨bo, j, rfl, h1, h2⟩
      exact ⟨bo, j, rfl, by simpa using h1, h2⟩
    | true =>
      rw [if_pos rfl]
      refine (iInverse_170 c ao k hk hu w hT hC).mono ?_
      rintro e w' ⟨rfl, h2⟩
      exact ⟨none, 0, rfl, OpsOwn.nil _ _, h2⟩
  . rw [if_pos (by rw [hk]; decide)]
    refine (iInverse_80 c ao k hk w hT hC).mono ?_
    rintro e w' ⟨rfl, h2⟩
    exact ⟨none, 0, rfl, OpsOwn.nil _ _, h2⟩
theorem szs_iv (c : Circ) (h : Szs c.ops) : Szs (ivP c).1.ops := by
  unfold ivP
  split
  . exact ⟨by simp [nulC], fun o ho => by simp [nulC] at ho⟩
  . split
    . exact ⟨by simp [nulC], fun o ho => by simp [nulC] at ho⟩
    . refine ⟨by simpa using h.1, fun o ho => ?_⟩
      simp only [List.mem_map, List.mem_reverse] at ho
      obtain ⟨o', ho', rfl⟩ := ho
      exact h.2 o' ho'
end Go.Proofs.YtmkalhaegbnknaaDoor.Cir
