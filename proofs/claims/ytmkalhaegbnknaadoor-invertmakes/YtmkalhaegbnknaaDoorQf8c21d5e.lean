import Derived.Test.YtmkalhaegbnknaaDoorQ9aed214b
import Derived.Test.YtmkalhaegbnknaaDoorQ17892cb4
set_option maxRecDepth 100000
set_option maxHeartbeats 4000000
namespace Go.Proofs.YtmkalhaegbnknaaDoor.Cir
open Go.RowKit Go.Shelf Go.Proofs.YtmkalhaegbnknaaDoor.Oct Go.Proofs.YtmkalhaegbnknaaDoor.Tok Go.Proofs.YtmkalhaegbnknaaDoor.Gt
theorem iMirror (c : Circ) (ao : Option Addr) (k : Nat) (hS : Szs c.ops) (w : World) (hT : Tb w) (hC : Ci w c ao k) : Calls Tryd.prog 10 #[cV c ao k] w fun e w' => ∃ bo j, e = .returned (.tuple #[cV (miP c).1 bo j, .int .i64 (miP c).2]) /\ OpsOwn w' w.heap.size bo (miP c).1.ops.length j (miP c).1.ops /\ Below w.heap.size w w' := by
  rw [mi_app]
  have c1 := fun V (h : Below w.heap.size w V) => iInverse c ao k hS V (hT.below h) (hC.below h)
  have c2 := fun V (h : Below w.heap.size w V) bo j (hb : Ci V (ivP c).1 bo j) => cAppendA c (ivP c).1 ao bo k j hS (szs_iv c hS) V (hT.below h) (hC.below h) hb
  have c3 := fun V B bo j (h : OpsOwn V B bo (ivP c).1.ops.length j (ivP c).1.ops) => ci_szs (szs_iv c hS) h
  generalize appP c (ivP c).1 = A at *
  generalize ivP c = R at *
  obtain ⟨q, b, l⟩ := c
  obtain ⟨⟨q1, b1, l1⟩, e1⟩ := R
  obtain ⟨⟨q2, b2, l2⟩, e2⟩ := A
  unfold cV nulC at *
  simp only at *
  generalize l.length = n at *
  generalize hn1 : l1.length = n1 at *
  generalize hn2 : l2.length = n2 at *
  clear hT hC hS
  have HB0 := hide (show Below w.heap.size w ((w.alloc (.cells #[.int .i64 q, .int .i64 b, .slice ao n k] 24)).alloc (.cells #[.int .i64 0, .int .i64 0, .slice none 0 0] 24)) from (bnew _ _).trans ((bnew _ _).mono (by simp)))
  by_cases h1 : e1 = 0
  . subst h1
    rw [if_neg (by simp)]
    by_cases h2 : e2 = 0
    . subst h2
      rw [if_neg (by simp)]
      simp only
      rw [hn2]
      clear hn1 hn2
      go_enter Tryd.func10, Tryd.ntmps10
      go_wp2_with (first
        | (go_at_call 5; refine (c1 _ HB0.out).mono ?_; rintro e w1 ⟨bo, j, rfl, hO1, hb1⟩; obtain ⟨m1, m2⟩ := may_keep hb1; obtain ⟨x0, x1, x2, x3⟩ := def_cells m1; have HB1 := hide (HB0.out.trans (hb1.mono HB0.out.size)); have HM2 := hide m2; have HO1 := hide hO1; clear hb1 m1 m2 hO1)
        | (go_at_call 30; refine (c2 _ (HB1.out.trans ((bnew _ _).mono HB1.out.size)) bo j (c3 _ _ _ _ (HO1.out.below (bnew _ _)))).mono ?_; rintro e w2 ⟨co, cap, rfl, hO2, hb2⟩; have hb1' := HB1.out.trans ((bnew w1 (.cells #[.int .i64 q1, .int .i64 b1, .slice bo n1 j] 24)).mono HB1.out.size); have m2 := (hb2.block _ (Nat.lt_of_lt_of_le (Array.getElem?_eq_some_iff.1 HM2.out).1 (by simp))).trans ((Below.heap_alloc _ _ _ (Array.getElem?_eq_some_iff.1 HM2.out).1).trans HM2.out); have HM3 := hide m2; have HB2 := hide (hb1'.trans (hb2.mono hb1'.size)); have HO2 := hide (hO2.base hb1'.size); clear hb2 hO2 m2 hb1')
        | refine wpList_store_row rfl _ _ _ rfl (w.heap.size + 1) _ rfl rfl _ _ ((Below.heap_alloc _ _ _ (Array.getElem?_eq_some_iff.1 HM3.out).1).trans HM3.out) (by exact infoCi) (by rfl) (by simp [Value.oneCell']) ?_)
      have hm := (Below.heap_alloc w2 (.cells #[.int .i64 q2, .int .i64 b2, .slice co n2 cap] 24) _ (Array.getElem?_eq_some_iff.1 HM3.out).1).trans HM3.out
      refine bodyPost_ret (results_ct rfl _ _ (w.heap.size + 1) _ _ _ _ rfl (setRow_heap _ _ _ _ _ _ hm) Tryd.underlying24 rfl (by exact infoCi)) rfl ?_
      exact ⟨co, cap, rfl, (HO2.out.below (bnew _ _)).row hm (by decide) (by decide) _, Below.row (HB2.out.trans ((bnew _ _).mono HB2.out.size)) _ _ (by omega)⟩
    . rw [if_pos h2]
      simp only [List.length_nil]
      have f1 : (e2 == 0) = false := by simpa using h2
      have f2 : (e2 != 0) = true := by simpa using h2
      clear hn1 hn2 h2
      go_enter Tryd.func10, Tryd.ntmps10
      go_wp2_with (first
        | (go_at_call 5; refine (c1 _ HB0.out).mono ?_; rintro e w1 ⟨bo, j, rfl, hO1, hb1⟩; obtain ⟨m1, m2⟩ := may_keep hb1; obtain ⟨x0, x1, x2, x3⟩ := def_cells m1; have HB1 := hide (HB0.out.trans (hb1.mono HB0.out.size)); have HM2 := hide m2; have HO1 := hide hO1; clear hb1 m1 m2 hO1)
        | (go_at_call 30; refine (c2 _ (HB1.out.trans ((bnew _ _).mono HB1.out.size)) bo j (c3 _ _ _ _ (HO1.out.below (bnew _ _)))).mono ?_; rintro e w2 ⟨co, cap, rfl, hO2, hb2⟩; have hb1' := HB1.out.trans ((bnew w1 (.cells #[.int .i64 q1, .int .i64 b1, .slice bo n1 j] 24)).mono HB1.out.size); have m2 := (hb2.block _ (Nat.lt_of_lt_of_le (Array.getElem?_eq_some_iff.1 HM2.out).1 (by simp))).trans ((Below.heap_alloc _ _ _ (Array.getElem?_eq_some_iff.1 HM2.out).1).trans HM2.out); have HM3 := hide m2; have HB2 := hide (hb1'.trans (hb2.mono hb1'.size)); clear hb2 hO2 m2 hb1')
        | refine wpList_store_row rfl _ _ _ rfl (w.heap.size + 1) _ rfl rfl _ _ ((Below.heap_alloc _ _ _ (Array.getElem?_eq_some_iff.1 HM3.out).1).trans HM3.out) (by exact infoCi) (by rfl) (by simp [Value.oneCell']) ?_)
      have hm := (Below.heap_alloc w2 (.cells #[.int .i64 q2, .int .i64 b2, .slice co n2 cap] 24) _ (Array.getElem?_eq_some_iff.1 HM3.out).1).trans HM3.out
      refine bodyPost_ret (results_ct rfl _ _ (w.heap.size + 1) _ _ _ _ rfl (setRow_heap _ _ _ _ _ _ hm) Tryd.underlying24 rfl (by exact infoCi)) rfl ?_
      exact ⟨none, 0, rfl, OpsOwn.nil _ _, Below.row (HB2.out.trans ((bnew _ _).mono HB2.out.size)) _ _ (by omega)⟩
  . rw [if_pos h1]
    simp only [List.length_nil]
    have f1 : (e1 == 0) = false := by simpa using h1
    have f2 : (e1 != 0) = true := by simpa using h1
    clear hn1 hn2 h1
    go_enter Tryd.func10, Tryd.ntmps10
    go_wp2_with (first
      | (go_at_call 5; refine (c1 _ HB0.out).mono ?_; rintro e w1 ⟨bo, j, rfl, hO1, hb1⟩; obtain ⟨m1, m2⟩ := may_keep hb1; have HB1 := hide (HB0.out.trans (hb1.mono HB0.out.size)); have HM2 := hide m2; clear hb1 m1 m2 hO1)
      | refine wpList_store_row rfl _ _ _ rfl (w.heap.size + 1) _ rfl rfl _ _ ((Below.heap_alloc _ _ _ (Array.getElem?_eq_some_iff.1 HM2.out).1).trans HM2.out) (by exact infoCi) (by rfl) (by simp [Value.oneCell']) ?_)
    have hm := (Below.heap_alloc w1 (.cells #[.int .i64 q1, .int .i64 b1, .slice bo n1 j] 24) _ (Array.getElem?_eq_some_iff.1 HM2.out).1).trans HM2.out
    refine bodyPost_ret (results_ct rfl _ _ (w.heap.size + 1) _ _ _ _ rfl (setRow_heap _ _ _ _ _ _ hm) Tryd.underlying24 rfl (by exact infoCi)) rfl ?_
    exact ⟨none, 0, rfl, OpsOwn.nil _ _, Below.row (HB1.out.trans ((bnew _ _).mono HB1.out.size)) _ _ (by omega)⟩
end Go.Proofs.YtmkalhaegbnknaaDoor.Cir
