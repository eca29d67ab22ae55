import Derived.Test.YthndpbjplcphpaaDoorQ1fe2a0a0
set_option maxRecDepth 100000
set_option maxHeartbeats 4000000
namespace Go.Proofs.YthndpbjplcphpaaDoor.Lay
open Go.RowKit Go.Shelf Go.Proofs.YthndpbjplcphpaaDoor.Oct Go.Proofs.YthndpbjplcphpaaDoor.Tok Go.Proofs.YthndpbjplcphpaaDoor.Gt Go.Proofs.YthndpbjplcphpaaDoor.Cir
theorem ex_start (w : World) : (((w.alloc (.cells #[.int .i64 0, .int .i64 0, .slice none 0 0] 24)).alloc (.cells #[.int .i64 1, .int .i64 2] 3)).alloc (.cells #[.int .i64 0, .int .i64 0, .slice none 0 0, .int .i64 0, .int .i64 0, .int .i64 0] 57)).heap[w.heap.size + 1 + 1]? = some (.cells #[.int .i64 0, .int .i64 0, .slice none 0 0, .int .i64 0, .int .i64 0, .int .i64 0] 57 (0, 0)) /\ ExS w (w.heap.size + 1 + 1) (w.heap.size + 1) ((((w.alloc (.cells #[.int .i64 0, .int .i64 0, .slice none 0 0] 24)).alloc (.cells #[.int .i64 1, .int .i64 2] 3)).alloc (.cells #[.int .i64 0, .int .i64 0, .slice none 0 0, .int .i64 0, .int .i64 0, .int .i64 0] 57)).setRow (w.heap.size + 1 + 1) #[.int .i64 4, .int .i64 0, .slice (some ⟨w.heap.size + 1, 0, none⟩) 2 2, .int .i64 0, .int .i64 (-1), .int .i64 0]) /\ ((((w.alloc (.cells #[.int .i64 0, .int .i64 0, .slice none 0 0] 24)).alloc (.cells #[.int .i64 1, .int .i64 2] 3)).alloc (.cells #[.int .i64 0, .int .i64 0, .slice none 0 0, .int .i64 0, .int .i64 0, .int .i64 0] 57)).setRow (w.heap.size + 1 + 1) #[.int .i64 4, .int .i64 0, .slice (some ⟨w.heap.size + 1, 0, none⟩) 2 2, .int .i64 0, .int .i64 (-1), .int .i64 0]).heap[w.heap.size]? = some (.cells #[.int .i64 0, .int .i64 0, .slice none 0 0] 24 (0, 0)) := by
  have h1 : (((w.alloc (.cells #[.int .i64 0, .int .i64 0, .slice none 0 0] 24)).alloc (.cells #[.int .i64 1, .int .i64 2] 3)).alloc (.cells #[.int .i64 0, .int .i64 0, .slice none 0 0, .int .i64 0, .int .i64 0, .int .i64 0] 57)).heap[w.heap.size + 1 + 1]? = some (.cells #[.int .i64 0, .int .i64 0, .slice none 0 0, .int .i64 0, .int .i64 0, .int .i64 0] 57 (0, 0)) := by
    have := heap_alloc_new ((w.alloc (.cells #[.int .i64 0, .int .i64 0, .slice none 0 0] 24)).alloc (.cells #[.int .i64 1, .int .i64 2] 3)) (.cells #[.int .i64 0, .int .i64 0, .slice none 0 0, .int .i64 0, .int .i64 0, .int .i64 0] 57)
    simpa using this
  have h2 : ((w.alloc (.cells #[.int .i64 0, .int .i64 0, .slice none 0 0] 24)).alloc (.cells #[.int .i64 1, .int .i64 2] 3)).heap[w.heap.size + 1]? = some (.cells #[.int .i64 1, .int .i64 2] 3 (0, 0)) := by
    have := heap_alloc_new (w.alloc (.cells #[.int .i64 0, .int .i64 0, .slice none 0 0] 24)) (.cells #[.int .i64 1, .int .i64 2] 3)
    simpa using this
  have h3 := heap_alloc_new w (.cells #[.int .i64 0, .int .i64 0, .slice none 0 0] 24)
  refine ⟨h1, ⟨?_, setRow_heap _ _ _ _ _ _ h1, ?_⟩, ?_⟩
  . exact Below.row (((bnew w _).alloc (by simp) _).alloc (by simp; omega) _) _ _ (by omega)
  . exact (setRow_other _ _ _ _ (by omega)).trans (kp (bnew _ _) h2)
  . exact (setRow_other _ _ _ _ (by omega)).trans (kp (bnew _ _) (kp (bnew _ _) h3))
theorem wExample (w : World) : Calls Tryd.prog 42 #[] w fun e w' => ∃ g, e = .returned (cV exC (some ⟨g, 0, none⟩) 5) /\ Ci w' exC (some ⟨g, 0, none⟩) 5 /\ Below w.heap.size w w' := by
  go_enter Tryd.func42, Tryd.ntmps42
  have HM := hide (ex_start w)
  go_wp2_with (refine wpList_store_row rfl _ _ _ rfl (w.heap.size + 1 + 1) _ rfl rfl _ _ HM.out.1 (by exact infoO6) (by rfl) (by simp [Value.oneCell']) ?_)
  obtain ⟨-, hS0, hZ0⟩ := HM.out
  clear HM
  refine wp_mono (Q := NQ _) ?_ (fun e a w h => nq_of h)
  refine ex_reg _ w _ w.heap.size (w.heap.size + 1 + 1) (w.heap.size + 1) (Nat.le_refl _) (by omega) (by omega) hS0 hZ0 ?_
  clear hS0 hZ0
  intro V x1 x2 x3 x4 hS hz h1 h2 h3 h4
  go_wp2_with fail
  refine bodyPost_ret (results_c rfl _ _ w.heap.size _ _ _ _ rfl (setRow_heap _ _ _ _ _ _ (kp (bnew V _) hz)) Tryd.underlying24 rfl (by exact infoC3)) rfl ?_
  have hzl := (Array.getElem?_eq_some_iff.1 hz).1
  have n1 : x1 ≠ w.heap.size := fun e => by rw [e, hz] at h1; simp at h1
  have n2 : x2 ≠ w.heap.size := fun e => by rw [e, hz] at h2; simp at h2
  have n3 : x3 ≠ w.heap.size := fun e => by rw [e, hz] at h3; simp at h3
  have n4 : x4 ≠ w.heap.size := fun e => by rw [e, hz] at h4; simp at h4
  have r0 := fun (ob : Obj) (cs : Array Value) => (setRow_other (V.alloc ob) w.heap.size V.heap.size cs (by omega)).trans (heap_alloc_new V ob)
  have hF := fun (ob : Obj) (cs : Array Value) => (hS.keep (bnew V ob)).row' cs (Nat.le_refl w.heap.size) (by omega) (by omega)
  refine ⟨V.heap.size, rfl, ⟨.inr ⟨V.heap.size, 0, rfl, fun i o hi => ?_⟩, by decide, by decide, fun o ho => ?_⟩, (hF _ _).bel⟩
  . match i with
    | 0 => cases hi; exact ⟨_, _, oc_row (r0 _ _) _ _ _ (Nat.le_refl _) (ns_cells ((setRow_other _ _ _ _ n1).trans (kp (bnew V _) h1))) rfl rfl rfl rfl rfl rfl⟩
    | 1 => cases hi; exact ⟨_, _, oc_row (r0 _ _) _ _ _ (Nat.le_refl _) (ns_cells ((setRow_other _ _ _ _ n2).trans (kp (bnew V _) h2))) rfl rfl rfl rfl rfl rfl⟩
    | 2 => cases hi; exact ⟨_, _, oc_row (r0 _ _) _ _ _ (Nat.le_refl _) (ns_cells ((setRow_other _ _ _ _ n3).trans (kp (bnew V _) h3))) rfl rfl rfl rfl rfl rfl⟩
    | 3 => cases hi; exact ⟨_, _, oc_row (r0 _ _) _ _ _ (Nat.le_refl _) (ns_cells (hF _ _).row) rfl rfl rfl rfl rfl rfl⟩
    | 4 => cases hi; exact ⟨_, _, oc_row (r0 _ _) _ _ _ (Nat.le_refl _) (ns_cells ((setRow_other _ _ _ _ n4).trans (kp (bnew V _) h4))) rfl rfl rfl rfl rfl rfl⟩
    | k + 5 => simp [exC, exL] at hi
  . revert o
    decide
def exF (i : Nat) : Int := [1, 2, 1, 2, 3].getD i 0
def exG (i : Nat) : Int := [1, 2, 2, 2, 3].getD i 0
theorem exOk : okC exC = true := by decide +kernel
theorem exEV : EV exL exF := by
  intro i o h
  match i with
  | 0 => cases h; decide +kernel
  | 1 => cases h; decide +kernel
  | 2 => cases h; decide +kernel
  | 3 => cases h; decide +kernel
  | 4 => cases h; decide +kernel
  | k + 5 => simp [exL] at h
theorem exGr : gr exF 5 = 3 := by decide +kernel
theorem exLV : LV exL 3 exG := by
  intro i o h
  match i with
  | 0 => cases h; decide +kernel
  | 1 => cases h; decide +kernel
  | 2 => cases h; decide +kernel
  | 3 => cases h; decide +kernel
  | 4 => cases h; decide +kernel
  | k + 5 => simp [exL] at h
instance : Inhabited (Fin 5) := ⟨0⟩
theorem exSz : (srt exL exF 5).size = 5 := by decide +kernel
theorem exSl : slI exL exF 5 = [0, 2, 1, 3, 4] := by decide +kernel
theorem exP : cnR exC [2] true = [2, 4] := by decide +kernel
theorem exA2 : asE exC [2] = 0 := by decide +kernel
theorem exA3 : asE exC [3] = 190 := by decide +kernel
theorem exP3 : cnR exC [3] true = [] := by decide +kernel
theorem exE1 : rwC exC exF = [1, 2, 1, 2, 3] := by decide +kernel
theorem exE2 : rwC exC exG = [1, 2, 2, 2, 3] := by decide +kernel
theorem exEr : erC exC = 0 := by decide +kernel
def xV (g : Nat) : Value := .agg #[.int .i64 3, .int .i64 0, .slice (some ⟨g, 0, none⟩) 5 5]
theorem xExample (w : World) : Calls Tryd.prog 42 #[] w fun e w' => ∃ g, e = .returned (xV g) /\ Hid (Ci w' exC (some ⟨g, 0, none⟩) 5) /\ Below w.heap.size w w' := by
  refine (wExample w).mono ?_
  rintro e w' ⟨g, rfl, h, hb⟩
  exact ⟨g, rfl, hide h, hb⟩
theorem xEarly (g : Nat) (w : World) (hT : Tb w) (hC : Ci w exC (some ⟨g, 0, none⟩) 5) : Calls Tryd.prog 7 #[xV g] w fun e w' => ∃ ao cc, e = .returned (.tuple #[.slice ao 5 cc, .int .i64 0]) /\ Hid (Ns w' ao [1, 2, 1, 2, 3]) /\ Below w.heap.size w w' := by
  refine (pEarly exC exF exEV (some ⟨g, 0, none⟩) 5 w hT hC).mono ?_
  rintro e w' ⟨ao, cc, rfl, hn, -, hb⟩
  rw [exE1] at hn
  exact ⟨ao, cc, by rw [exE1, exEr]; rfl, hide hn.ns, hb⟩
theorem xLate (g : Nat) (w : World) (hT : Tb w) (hC : Ci w exC (some ⟨g, 0, none⟩) 5) : Calls Tryd.prog 10 #[xV g] w fun e w' => ∃ ao cc, e = .returned (.tuple #[.slice ao 5 cc, .int .i64 0]) /\ Hid (Ns w' ao [1, 2, 2, 2, 3]) /\ Below w.heap.size w w' := by
  refine (pLate exC exF exG exEV (by rw [show exC.ops.length = 5 from rfl, exGr]; exact exLV) (some ⟨g, 0, none⟩) 5 w hT hC).mono ?_
  rintro e w' ⟨ao, cc, rfl, hn, -, hb⟩
  rw [exE2] at hn
  exact ⟨ao, cc, by rw [exE2, exEr]; rfl, hide hn.ns, hb⟩
theorem xDepth (g : Nat) (w : World) (hT : Tb w) (hC : Ci w exC (some ⟨g, 0, none⟩) 5) : Calls Tryd.prog 16 #[xV g] w fun e w' => e = .returned (.tuple #[.int .i64 3, .int .i64 0]) /\ Below w.heap.size w w' := by
  refine (pDepth exC exF exEV (some ⟨g, 0, none⟩) 5 w hT hC).mono ?_
  rintro e w' ⟨rfl, hb⟩
  exact ⟨by rw [exEr, exOk, if_pos rfl, show exC.ops.length = 5 from rfl, exGr], hb⟩
theorem xMoments (g : Nat) (w : World) (hT : Tb w) (hC : Ci w exC (some ⟨g, 0, none⟩) 5) : Calls Tryd.prog 21 #[xV g] w fun e w' => ∃ bo j, e = .returned (.tuple #[.slice bo 3 j, .int .i64 0]) /\ Below w.heap.size w w' := by
  refine (pMoments exC exF exEV exOk (some ⟨g, 0, none⟩) 5 w hT hC).mono ?_
  rintro e w' ⟨bo, j, rfl, hb⟩
  exact ⟨bo, j, by rw [show exC.ops.length = 5 from rfl, exGr]; rfl, hb⟩
theorem xSorted (g : Nat) (w : World) (hT : Tb w) (hC : Ci w exC (some ⟨g, 0, none⟩) 5) : Calls Tryd.prog 23 #[xV g] w fun e w' => ∃ h off j, e = .returned (.tuple #[.agg #[.int .i64 3, .int .i64 0, .slice (some ⟨h, off, none⟩) 5 j], .int .i64 0]) /\ Hid (w'.cell? ⟨h, off + 6 + 1, none⟩ = some (.int .i64 2)) /\ Hid (5 <= j) /\ Below w.heap.size w w' := by
  refine (pSorted exC exF exEV exOk 5 rfl (by decide) exSz (some ⟨g, 0, none⟩) 5 w hT hC).mono ?_
  rintro e w' ⟨bo, j, rfl, ho, hb⟩
  rw [show exC.ops = exL from rfl, exSl] at ho
  obtain ⟨h1, h2⟩ := ho.at.rd
  obtain ⟨h, off, aq, cq, rfl, -, hoc⟩ := h1.at (i := 1) (o := ⟨1, 2, [2], 0, -1, 0⟩) rfl
  exact ⟨h, off, j, rfl, hide hoc.gate, hide h2, hb⟩
theorem xPast2 (g : Nat) (aq : Option Addr) (cq : Nat) (w : World) (hT : Tb w) (hC : Ci w exC (some ⟨g, 0, none⟩) 5) (hN : Ns w aq [2]) : Calls Tryd.prog 12 #[xV g, .slice aq 1 cq] w fun e w' => ∃ ao cc, e = .returned (.tuple #[.slice ao 2 cc, .int .i64 0]) /\ Hid (Ns w' ao [2, 4]) /\ Below w.heap.size w w' := by
  refine (lPast exC (some ⟨g, 0, none⟩) 5 [2] aq cq (by decide) w hT hC hN).mono ?_
  rintro e w' ⟨ao, cc, rfl, hn, hb⟩
  rw [exP] at hn
  exact ⟨ao, cc, by rw [exP, exA2]; rfl, hide hn.ns, hb⟩
theorem xPast3 (g : Nat) (aq : Option Addr) (cq : Nat) (w : World) (hT : Tb w) (hC : Ci w exC (some ⟨g, 0, none⟩) 5) (hN : Ns w aq [3]) : Calls Tryd.prog 12 #[xV g, .slice aq 1 cq] w fun e w' => ∃ ao cc, e = .returned (.tuple #[.slice ao 0 cc, .int .i64 190]) /\ Below w.heap.size w w' := by
  refine (lPast exC (some ⟨g, 0, none⟩) 5 [3] aq cq (by decide) w hT hC hN).mono ?_
  rintro e w' ⟨ao, cc, rfl, hn, hb⟩
  exact ⟨ao, cc, by rw [exP3, exA3]; rfl, hb⟩
theorem xInts (l : List Int) (n : Nat) (hn : l.length = n) (h9 : n <= 9) (a b : Option Addr) (ca cb : Nat) (w : World) (hA : Ns w a l) (hB : Ns w b l) : Calls Tryd.prog 18 #[.slice a n ca, .slice b n cb] w fun e w' => e = .returned (.bool true) /\ Below w.heap.size w w' := by
  subst hn
  refine (wInts a b ca cb l l (by omega) w hA hB).mono ?_
  rintro e w' ⟨rfl, hb⟩
  exact ⟨by rw [decide_eq_true rfl], hb⟩
theorem wHeads (w : World) (hT : Tb w) : Calls Tryd.prog 20 #[] w fun e w' => e = .returned (.bool true) /\ Below w.heap.size w w' := by
  have HT := hide hT
  have B0 := hide (Below.refl w.heap.size w)
  clear hT
  go_enter Tryd.func20, Tryd.ntmps20
  go_wp2_with fail
  go_at_call 42
  refine (xExample _).mono ?_
  rintro e v1 ⟨g1, rfl, K1, de1⟩
  have Z1 := hide (B0.out.trans (de1.mono B0.out.size))
  clear B0
  clear de1
  go_wp2_with fail
  go_at_call 7
  refine (xEarly g1 _ (HT.out.below Z1.out) K1.out).mono ?_
  rintro e u1 ⟨ao1, c1, rfl, N1, d1⟩
  replace K1 := hide (K1.out.below d1)
  have Z2 := hide (Z1.out.trans (d1.mono Z1.out.size))
  clear Z1
  clear d1
  clear K1
  go_wp2_with fail
  go_at_call 42
  refine (xExample _).mono ?_
  rintro e v2 ⟨g2, rfl, K2, de2⟩
  replace N1 := hide (N1.out.below de2)
  have Z3 := hide (Z2.out.trans (de2.mono Z2.out.size))
  clear Z2
  clear de2
  go_wp2_with fail
  go_at_call 10
  refine (xLate g2 _ (HT.out.below Z3.out) K2.out).mono ?_
  rintro e u2 ⟨ao2, c2, rfl, N2, d2⟩
  replace N1 := hide (N1.out.below d2)
  replace K2 := hide (K2.out.below d2)
  have Z4 := hide (Z3.out.trans (d2.mono Z3.out.size))
  clear Z3
  clear d2
  clear K2
  go_wp2_with fail
  go_at_call 42
  refine (xExample _).mono ?_
  rintro e v3 ⟨g3, rfl, K3, de3⟩
  replace N1 := hide (N1.out.below de3)
  replace N2 := hide (N2.out.below de3)
  have Z5 := hide (Z4.out.trans (de3.mono Z4.out.size))
  clear Z4
  clear de3
  go_wp2_with fail
  go_at_call 16
  refine (xDepth g3 _ (HT.out.below Z5.out) K3.out).mono ?_
  rintro e u3 ⟨rfl, d3⟩
  replace N1 := hide (N1.out.below d3)
  replace N2 := hide (N2.out.below d3)
  replace K3 := hide (K3.out.below d3)
  have Z6 := hide (Z5.out.trans (d3.mono Z5.out.size))
  clear Z5
  clear d3
  clear K3
  go_wp2_with fail
  go_at_call 42
  refine (xExample _).mono ?_
  rintro e v4 ⟨g4, rfl, K4, de4⟩
  replace N1 := hide (N1.out.below de4)
  replace N2 := hide (N2.out.below de4)
  have Z7 := hide (Z6.out.trans (de4.mono Z6.out.size))
  clear Z6
  clear de4
  go_wp2_with fail
  go_at_call 21
  refine (xMoments g4 _ (HT.out.below Z7.out) K4.out).mono ?_
  rintro e u4 ⟨ao4, c4, rfl, d4⟩
  replace N1 := hide (N1.out.below d4)
  replace N2 := hide (N2.out.below d4)
  replace K4 := hide (K4.out.below d4)
  have Z8 := hide (Z7.out.trans (d4.mono Z7.out.size))
  clear Z7
  clear d4
  clear K4
  go_wp2_with fail
  go_at_call 42
  refine (xExample _).mono ?_
  rintro e v5 ⟨g5, rfl, K5, de5⟩
  replace N1 := hide (N1.out.below de5)
  replace N2 := hide (N2.out.below de5)
  have Z9 := hide (Z8.out.trans (de5.mono Z8.out.size))
  clear Z8
  clear de5
  go_wp2_with fail
  have dA := bnew v5 (.cells #[.int .i64 2] 3)
  replace N1 := hide (N1.out.below dA)
  replace N2 := hide (N2.out.below dA)
  replace K5 := hide (K5.out.below dA)
  have Z10 := hide (Z9.out.trans (dA.mono Z9.out.size))
  clear Z9
  clear dA
  have L5 : Hid (Ns (v5.alloc (.cells #[.int .i64 2] 3)) (some ⟨v5.heap.size, 0, none⟩) [2]) := hide (ns_cells (heap_alloc_new v5 _))
  go_wp2_with fail
  go_at_call 12
  refine (xPast2 g5 _ _ _ (HT.out.below Z10.out) K5.out L5.out).mono ?_
  rintro e u5 ⟨ao5, c5, rfl, N5, d5⟩
  replace N1 := hide (N1.out.below d5)
  replace N2 := hide (N2.out.below d5)
  replace K5 := hide (K5.out.below d5)
  replace L5 := hide (L5.out.below d5)
  have Z11 := hide (Z10.out.trans (d5.mono Z10.out.size))
  clear Z10
  clear d5
  clear K5
  clear L5
  go_wp2_with fail
  go_at_call 42
  refine (xExample _).mono ?_
  rintro e v6 ⟨g6, rfl, K6, de6⟩
  replace N1 := hide (N1.out.below de6)
  replace N2 := hide (N2.out.below de6)
  replace N5 := hide (N5.out.below de6)
  have Z12 := hide (Z11.out.trans (de6.mono Z11.out.size))
  clear Z11
  clear de6
  go_wp2_with fail
  go_at_call 23
  refine (xSorted g6 _ (HT.out.below Z12.out) K6.out).mono ?_
  rintro e u6 ⟨h6, off6, c6, rfl, N6, M6, d6⟩
  replace N1 := hide (N1.out.below d6)
  replace N2 := hide (N2.out.below d6)
  replace N5 := hide (N5.out.below d6)
  replace K6 := hide (K6.out.below d6)
  have Z13 := hide (Z12.out.trans (d6.mono Z12.out.size))
  clear Z12
  clear d6
  clear K6
  have r6 := heap_alloc_new u6 (.cells #[.int .i64 0, .int .i64 0, .slice none 0 0] 24)
  go_wp2_with (refine wpList_store_row rfl _ _ _ rfl u6.heap.size _ rfl rfl _ _ r6 (by exact infoC3) (by rfl) (by simp [Value.oneCell']) ?_)
  have dS : Below u6.heap.size u6 ((u6.alloc (.cells #[.int .i64 0, .int .i64 0, .slice none 0 0] 24)).setRow u6.heap.size #[.int .i64 3, .int .i64 0, .slice (some ⟨h6, off6, none⟩) 5 c6]) := Below.row (bnew u6 (.cells #[.int .i64 0, .int .i64 0, .slice none 0 0] 24)) _ _ (Nat.le_refl _)
  have s6 := setRow_heap _ _ _ #[.int .i64 3, .int .i64 0, .slice (some ⟨h6, off6, none⟩) 5 c6] _ _ r6
  obtain ⟨y6, hy6⟩ : ∃ y6, y6 = (u6.alloc (.cells #[.int .i64 0, .int .i64 0, .slice none 0 0] 24)).setRow u6.heap.size #[.int .i64 3, .int .i64 0, .slice (some ⟨h6, off6, none⟩) 5 c6] := ⟨_, rfl⟩
  rw [← hy6] at dS s6 ⊢
  clear hy6 r6
  replace N1 := hide (N1.out.below dS)
  replace N2 := hide (N2.out.below dS)
  replace N5 := hide (N5.out.below dS)
  replace N6 := hide ((dS.cell (World.block_lt_of_cell? _ _ N6.out)).trans N6.out)
  have Z14 := hide (Z13.out.trans (dS.mono Z13.out.size))
  clear Z13
  have S6 := hide s6
  clear dS s6
  obtain ⟨q6, hq6⟩ : ∃ q6, q6 = u6.heap.size := ⟨_, rfl⟩
  rw [← hq6] at S6 ⊢
  clear hq6
  go_wp2_with fail
  go_at_call 42
  refine (xExample _).mono ?_
  rintro e v7 ⟨g7, rfl, K7, de7⟩
  replace N1 := hide (N1.out.below de7)
  replace N2 := hide (N2.out.below de7)
  replace N5 := hide (N5.out.below de7)
  replace N6 := hide ((de7.cell (World.block_lt_of_cell? _ _ N6.out)).trans N6.out)
  replace S6 := hide (kp de7 S6.out)
  have Z15 := hide (Z14.out.trans (de7.mono Z14.out.size))
  clear Z14
  clear de7
  go_wp2_with fail
  have dA := bnew v7 (.cells #[.int .i64 3] 3)
  replace N1 := hide (N1.out.below dA)
  replace N2 := hide (N2.out.below dA)
  replace N5 := hide (N5.out.below dA)
  replace N6 := hide ((dA.cell (World.block_lt_of_cell? _ _ N6.out)).trans N6.out)
  replace S6 := hide (kp dA S6.out)
  replace K7 := hide (K7.out.below dA)
  have Z16 := hide (Z15.out.trans (dA.mono Z15.out.size))
  clear Z15
  clear dA
  have L7 : Hid (Ns (v7.alloc (.cells #[.int .i64 3] 3)) (some ⟨v7.heap.size, 0, none⟩) [3]) := hide (ns_cells (heap_alloc_new v7 _))
  go_wp2_with fail
  go_at_call 12
  refine (xPast3 g7 _ _ _ (HT.out.below Z16.out) K7.out L7.out).mono ?_
  rintro e u7 ⟨ao7, c7, rfl, d7⟩
  replace N1 := hide (N1.out.below d7)
  replace N2 := hide (N2.out.below d7)
  replace N5 := hide (N5.out.below d7)
  replace N6 := hide ((d7.cell (World.block_lt_of_cell? _ _ N6.out)).trans N6.out)
  replace S6 := hide (kp d7 S6.out)
  replace K7 := hide (K7.out.below d7)
  replace L7 := hide (L7.out.below d7)
  have Z17 := hide (Z16.out.trans (d7.mono Z16.out.size))
  clear Z16
  clear d7
  clear K7
  clear L7
  go_wp2_with fail
  have dA := bnew u7 (.cells #[.int .i64 1, .int .i64 2, .int .i64 1, .int .i64 2, .int .i64 3] 3)
  replace N1 := hide (N1.out.below dA)
  replace N2 := hide (N2.out.below dA)
  replace N5 := hide (N5.out.below dA)
  replace N6 := hide ((dA.cell (World.block_lt_of_cell? _ _ N6.out)).trans N6.out)
  replace S6 := hide (kp dA S6.out)
  have Z18 := hide (Z17.out.trans (dA.mono Z17.out.size))
  clear Z17
  clear dA
  have L8 : Hid (Ns (u7.alloc (.cells #[.int .i64 1, .int .i64 2, .int .i64 1, .int .i64 2, .int .i64 3] 3)) (some ⟨u7.heap.size, 0, none⟩) [1, 2, 1, 2, 3]) := hide (ns_cells (heap_alloc_new u7 _))
  go_wp2_with fail
  go_at_call 18
  refine (xInts [1, 2, 1, 2, 3] 5 rfl (by decide) _ _ _ _ _ N1.out L8.out).mono ?_
  rintro e u8 ⟨rfl, d8⟩
  replace N1 := hide (N1.out.below d8)
  replace N2 := hide (N2.out.below d8)
  replace N5 := hide (N5.out.below d8)
  replace N6 := hide ((d8.cell (World.block_lt_of_cell? _ _ N6.out)).trans N6.out)
  replace S6 := hide (kp d8 S6.out)
  replace L8 := hide (L8.out.below d8)
  have Z19 := hide (Z18.out.trans (d8.mono Z18.out.size))
  clear Z18
  clear d8
  clear N1
  clear L8
  go_wp2_with fail
  have dA := bnew u8 (.cells #[.int .i64 1, .int .i64 2, .int .i64 2, .int .i64 2, .int .i64 3] 3)
  replace N2 := hide (N2.out.below dA)
  replace N5 := hide (N5.out.below dA)
  replace N6 := hide ((dA.cell (World.block_lt_of_cell? _ _ N6.out)).trans N6.out)
  replace S6 := hide (kp dA S6.out)
  have Z20 := hide (Z19.out.trans (dA.mono Z19.out.size))
  clear Z19
  clear dA
  have L9 : Hid (Ns (u8.alloc (.cells #[.int .i64 1, .int .i64 2, .int .i64 2, .int .i64 2, .int .i64 3] 3)) (some ⟨u8.heap.size, 0, none⟩) [1, 2, 2, 2, 3]) := hide (ns_cells (heap_alloc_new u8 _))
  go_wp2_with fail
  go_at_call 18
  refine (xInts [1, 2, 2, 2, 3] 5 rfl (by decide) _ _ _ _ _ N2.out L9.out).mono ?_
  rintro e u9 ⟨rfl, d9⟩
  replace N2 := hide (N2.out.below d9)
  replace N5 := hide (N5.out.below d9)
  replace N6 := hide ((d9.cell (World.block_lt_of_cell? _ _ N6.out)).trans N6.out)
  replace S6 := hide (kp d9 S6.out)
  replace L9 := hide (L9.out.below d9)
  have Z21 := hide (Z20.out.trans (d9.mono Z20.out.size))
  clear Z20
  clear d9
  clear N2
  clear L9
  go_wp2_with fail
  have dA := bnew u9 (.cells #[.int .i64 2, .int .i64 4] 3)
  replace N5 := hide (N5.out.below dA)
  replace N6 := hide ((dA.cell (World.block_lt_of_cell? _ _ N6.out)).trans N6.out)
  replace S6 := hide (kp dA S6.out)
  have Z22 := hide (Z21.out.trans (dA.mono Z21.out.size))
  clear Z21
  clear dA
  have L10 : Hid (Ns (u9.alloc (.cells #[.int .i64 2, .int .i64 4] 3)) (some ⟨u9.heap.size, 0, none⟩) [2, 4]) := hide (ns_cells (heap_alloc_new u9 _))
  go_wp2_with fail
  go_at_call 18
  refine (xInts [2, 4] 2 rfl (by decide) _ _ _ _ _ N5.out L10.out).mono ?_
  rintro e u10 ⟨rfl, d10⟩
  replace N5 := hide (N5.out.below d10)
  replace N6 := hide ((d10.cell (World.block_lt_of_cell? _ _ N6.out)).trans N6.out)
  replace S6 := hide (kp d10 S6.out)
  replace L10 := hide (L10.out.below d10)
  have Z23 := hide (Z22.out.trans (d10.mono Z22.out.size))
  clear Z22
  clear d10
  clear N5
  clear L10
  have k1 := N6.out
  have k2 : u10.cell? ⟨q6, 2, none⟩ = some (.slice (some ⟨h6, off6, none⟩) 5 c6) := (cell_of_row _ _ _ _ _ _ S6.out).trans rfl
  have k3 := (Array.getElem?_eq_some_iff.1 S6.out).1
  have k4 := M6.out
  have k5 := World.block_lt_of_cell? _ _ k1
  go_wp2_with fail
  go_ret
  exact ⟨rfl, Z23.out⟩
end Go.Proofs.YthndpbjplcphpaaDoor.Lay
