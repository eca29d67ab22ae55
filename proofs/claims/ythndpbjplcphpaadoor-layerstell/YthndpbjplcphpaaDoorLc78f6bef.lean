import Derived.Test.YthndpbjplcphpaaDoorL5b6645d8
import Derived.Test.YthndpbjplcphpaaDoorLaae5c4ed
import Derived.Test.YthndpbjplcphpaaDoorL51f93f2a
set_option maxRecDepth 100000
set_option maxHeartbeats 4000000
namespace Go.Proofs.YthndpbjplcphpaaDoor.Lay
open Go.RowKit Go.Shelf Go.Proofs.YthndpbjplcphpaaDoor.Oct Go.Proofs.YthndpbjplcphpaaDoor.Tok Go.Proofs.YthndpbjplcphpaaDoor.Gt Go.Proofs.YthndpbjplcphpaaDoor.Cir
theorem app_gen2 {ops : Array Oper} {rest : List Oper} {o : Oper} {a : Act} {Q : Exit -> Act -> World -> Prop} {w : World} (hgd : o.guard = none) (s x : Operand)
    (ho : o.op = .call { callee := .builtin .append, args := #[s, x], argTypes := #[25, 25] }) {B n c : Nat} {ao : Option Addr} {l : List Int} (hR : w.ownsRow B 3 1 (.slice ao n c) n (l.map (Value.int .i64))) (hB : B <= w.heap.size) (ax : Option Addr) (cx : Nat) (l2 : List Int) (m : Nat) (hm : l2.length = m) (hs : a.eval s = .slice ao n c) (hx : a.eval x = .slice ax m cx) (hN : Ns w ax l2) (hn : n + m <= 17592186044416)
    (h : ∀ ao' c' w', w'.ownsRow B 3 1 (.slice ao' (n + m) c') (n + m) ((l ++ l2).map (Value.int .i64)) -> w.grownBy w' (ob ao) -> wpList Tryd.prog ops Q rest (a.put o.dst (.slice ao' (n + m) c')) w') : wpList Tryd.prog ops Q (o :: rest) a w := by
  obtain ⟨i0, hi, hz0, hz1, hz2⟩ := info_parts Gt.infoI
  subst hm
  by_cases h0 : 0 < l2.length
  . have hne : l2 ≠ [] := fun e => by rw [e] at h0; simp at h0
    obtain ⟨g, off, rfl, hc⟩ := hN.resolve_left hne
    refine wpList_append_lies w hgd s x 25 ho B 3 i0 (.int .i64 0) 1 8 Tryd.underlying25 hi hz0 hz1 hz2 rfl (by decide) _ n _ hs hR ⟨g, off, none⟩ l2.length cx (l2.map (Value.int .i64)) hx (by simp) (fun j u hu => ?_) (fun u hu => ?_) h0 (by unfold maxLen; omega) (by omega) hB _ rfl ?_
    . rw [Addr.add_lit]
      rw [List.getElem?_map] at hu
      obtain ⟨z, hz, rfl⟩ := Option.map_eq_some_iff.1 hu
      exact hc j z hz
    . obtain ⟨z, _, rfl⟩ := List.mem_map.1 hu
      rfl
    . intro g2 cap w2 hown2 hgrow hat hlt
      rw [ob_eq] at hgrow
      exact h _ _ w2 (by rw [List.map_append]; exact hown2) hgrow
  . obtain rfl : l2 = [] := List.length_eq_zero_iff.1 (by omega)
    refine wpList_plain hgd fun K hK => ?_
    have hrun := fun ty => run_app_zero hR ax cx ty
    have hx' : a.eval x = .slice ax 0 cx := hx
    unfold Oper.wp execOp
    simp only [ho, resolve, invoke, builtin, Sem.run_bind, Sem.run_pure, Result.andThen_ok, List.map_toArray, List.map_cons, List.map_nil, hs, hx', hrun]
    exact hK _ _ (h ao c w (by rw [List.append_nil]; exact hR) (World.grownBy.refl _ _))
structure TS (w V : World) (c : Circ) (l : List Int) (q b : Int) (n : Nat) (ao : Option Addr) (k gC gX : Nat) (xo : Option Addr) (xj : Nat) (qo : Option Addr) : Prop where
  bel : Below w.heap.size w V
  hc : V.heap[gC]? = some (.cells #[.int .i64 q, .int .i64 b, .slice ao n k] 24 (0, 0))
  hx : V.heap[gX]? = some (.cells #[.int .i64 q, .int .i64 b, .slice xo n xj] 24 (0, 0))
  xc : Ci V c xo xj
  qn : Ns V qo l
theorem TS.keep {w V V' : World} {c : Circ} {l : List Int} {q b : Int} {n : Nat} {ao : Option Addr} {k gC gX : Nat} {xo : Option Addr} {xj : Nat} {qo : Option Addr} (h : TS w V c l q b n ao k gC gX xo xj qo) (hb : Below V.heap.size V V') : TS w V' c l q b n ao k gC gX xo xj qo :=
  ⟨h.bel.trans (hb.mono h.bel.size), kp hb h.hc, kp hb h.hx, h.xc.below hb, h.qn.below hb⟩
def Pp (V : World) (L : List Int) (n : Nat) (er : Int) (e : Ending) (V' : World) : Prop := ∃ a cc, e = .returned (.tuple #[.slice a n cc, .int .i64 er]) /\ NsW V' V.heap.size a L /\ Below V.heap.size V V'
def Ep (V : World) (L : List Int) (n : Nat) (er : Int) (e : Ending) (V' : World) : Prop := ∃ a cc, e = .returned (.tuple #[.slice a n cc, .int .i64 er]) /\ Ns V' a L /\ n <= 4096 /\ Below V.heap.size V V'
theorem tellT (L : List Int) (n : Nat) (hn : L.length = n) (er : Int) (V : World) (B : Nat) (a b : Option Addr) (ca cb : Nat) (hB : B <= V.heap.size) (h4 : n <= 4096) (hA : NsW V B a L) (hb : Ns V b L) : Calls Tryd.prog 9 #[.slice a n ca, .int .i64 er, .slice b n cb, .int .i64 er] V fun e V' => e = .returned (.bool true) /\ Below B V V' := by
  subst hn
  refine (wTold a b ca cb L L er er B (by omega) V hB hA hb).mono ?_
  rintro e V' ⟨rfl, h⟩
  exact ⟨by rw [decide_eq_true rfl, decide_eq_true rfl]; rfl, h⟩
theorem xTell (c : Circ) (ao : Option Addr) (k : Nat) (l : List Int) (al : Option Addr) (cl : Nat) (hS : Szs c.ops) (hl : l.length <= 17592186044416) (w : World) (hT : Tb w) (hC : Ci w c ao k) (hN : Ns w al l) : Calls Tryd.prog 3 #[cV c ao k, .slice al l.length cl] w fun e w' => e = .returned (.bool true) /\ Below w.heap.size w w' := by
  obtain ⟨f, hf⟩ := ev_exists c.ops
  obtain ⟨fl, hfl⟩ := lv_exists c.ops (gr f c.ops.length)
  obtain ⟨q, b, n, hcv⟩ : ∃ q b n, ∀ ao k, cV c ao k = .agg #[.int .i64 q, .int .i64 b, .slice ao n k] := ⟨c.q, c.b, c.ops.length, fun _ _ => rfl⟩
  obtain ⟨m, hm⟩ : ∃ m, l.length = m := ⟨_, rfl⟩
  have c0 : Hid (∀ V, Below w.heap.size w V -> Calls Tryd.prog 6 #[.agg #[.int .i64 q, .int .i64 b, .slice ao n k]] V fun e V' => ∃ bo j, e = .returned (.agg #[.int .i64 q, .int .i64 b, .slice bo n j]) /\ Ci V' c bo j /\ Below V.heap.size V V') := hide (fun V h => by
    rw [← hcv]
    refine (eCopyO c ao k hS V (hC.below h)).mono ?_
    rintro e V' ⟨bo, j, rfl, ho, hb⟩
    exact ⟨bo, j, by rw [hcv], ci_szs hS ho, hb⟩)
  obtain ⟨L1, n1, e1, hn1, P1, D1⟩ : ∃ (L : List Int) (n' : Nat) (er : Int), L.length = n' /\ Hid (∀ V xo xj, Below w.heap.size w V -> Ci V c xo xj -> Calls Tryd.prog 7 #[.agg #[.int .i64 q, .int .i64 b, .slice xo n xj]] V (Pp V L n' er)) /\ Hid (∀ V, Below w.heap.size w V -> Calls Tryd.prog 8 #[.agg #[.int .i64 q, .int .i64 b, .slice ao n k]] V (Ep V L n' er)) :=
    ⟨rwC c f, _, erC c, rfl, hide (fun V xo xj h hx => by rw [← hcv]; refine (pEarly c f hf xo xj V (hT.below h) hx).mono ?_; rintro e V' ⟨a, cc, rfl, hn, -, hb⟩; exact ⟨a, cc, rfl, hn, hb⟩), hide (fun V h => by rw [← hcv]; exact dEarly c f hf ao k V (hC.below h))⟩
  obtain ⟨L2, n2, e2, hn2, P2, D2⟩ : ∃ (L : List Int) (n' : Nat) (er : Int), L.length = n' /\ Hid (∀ V xo xj, Below w.heap.size w V -> Ci V c xo xj -> Calls Tryd.prog 10 #[.agg #[.int .i64 q, .int .i64 b, .slice xo n xj]] V (Pp V L n' er)) /\ Hid (∀ V, Below w.heap.size w V -> Calls Tryd.prog 11 #[.agg #[.int .i64 q, .int .i64 b, .slice ao n k]] V (Ep V L n' er)) :=
    ⟨rwC c fl, _, erC c, rfl, hide (fun V xo xj h hx => by rw [← hcv]; refine (pLate c f fl hf hfl xo xj V (hT.below h) hx).mono ?_; rintro e V' ⟨a, cc, rfl, hn, -, hb⟩; exact ⟨a, cc, rfl, hn, hb⟩), hide (fun V h => by rw [← hcv]; exact dLate c f fl hf hfl ao k V (hC.below h))⟩
  obtain ⟨L3, n3, e3, hn3, P3, D3⟩ : ∃ (L : List Int) (n' : Nat) (er : Int), L.length = n' /\ Hid (∀ V xo xj qo qc, Below w.heap.size w V -> Ci V c xo xj -> Ns V qo l -> Calls Tryd.prog 12 #[.agg #[.int .i64 q, .int .i64 b, .slice xo n xj], .slice qo m qc] V (Pp V L n' er)) /\ Hid (∀ V, Below w.heap.size w V -> Calls Tryd.prog 13 #[.agg #[.int .i64 q, .int .i64 b, .slice ao n k], .slice al m cl] V (Ep V L n' er)) :=
    ⟨cnR c l true, _, asE c l, rfl, hide (fun V xo xj qo qc h hx hq => by rw [← hcv, ← hm]; exact lPast c xo xj l qo qc (by omega) V (hT.below h) hx hq), hide (fun V h => by rw [← hcv, ← hm]; exact dPast c ao k l al cl (by omega) V (hC.below h) (hN.below h))⟩
  obtain ⟨L4, n4, e4, hn4, P4, D4⟩ : ∃ (L : List Int) (n' : Nat) (er : Int), L.length = n' /\ Hid (∀ V xo xj qo qc, Below w.heap.size w V -> Ci V c xo xj -> Ns V qo l -> Calls Tryd.prog 14 #[.agg #[.int .i64 q, .int .i64 b, .slice xo n xj], .slice qo m qc] V (Pp V L n' er)) /\ Hid (∀ V, Below w.heap.size w V -> Calls Tryd.prog 15 #[.agg #[.int .i64 q, .int .i64 b, .slice ao n k], .slice al m cl] V (Ep V L n' er)) :=
    ⟨cnR c l false, _, asE c l, rfl, hide (fun V xo xj qo qc h hx hq => by rw [← hcv, ← hm]; exact lFuture c xo xj l qo qc (by omega) V (hT.below h) hx hq), hide (fun V h => by rw [← hcv, ← hm]; exact dFuture c ao k l al cl (by omega) V (hC.below h) (hN.below h))⟩
  obtain ⟨d5, e5, P5, D5⟩ : ∃ (d er : Int), Hid (∀ V xo xj, Below w.heap.size w V -> Ci V c xo xj -> Calls Tryd.prog 16 #[.agg #[.int .i64 q, .int .i64 b, .slice xo n xj]] V fun e V' => e = .returned (.tuple #[.int .i64 d, .int .i64 er]) /\ Below V.heap.size V V') /\ Hid (∀ V, Below w.heap.size w V -> Calls Tryd.prog 17 #[.agg #[.int .i64 q, .int .i64 b, .slice ao n k]] V fun e V' => e = .returned (.tuple #[.int .i64 d, .int .i64 er]) /\ Below V.heap.size V V') :=
    ⟨_, erC c, hide (fun V xo xj h hx => by rw [← hcv]; exact pDepth c f hf xo xj V (hT.below h) hx), hide (fun V h => by rw [← hcv]; exact dDepth c f hf ao k V (hC.below h))⟩
  have SM : Hid (∀ V xo xj, Below w.heap.size w V -> Ci V c xo xj -> Calls Tryd.prog 19 #[.agg #[.int .i64 q, .int .i64 b, .slice xo n xj], .agg #[.int .i64 q, .int .i64 b, .slice ao n k]] V fun e V' => e = .returned (.bool true) /\ Below V.heap.size V V') := hide (fun V xo xj h hx => by
    rw [← hcv, ← hcv]
    refine (eSame c c xo ao xj k V hx (hC.below h)).mono ?_
    rintro e V' ⟨rfl, hb⟩
    exact ⟨by rw [decide_eq_true rfl], hb⟩)
  have IN : Hid (∀ V qo qc, Below w.heap.size w V -> Ns V qo l -> Calls Tryd.prog 18 #[.slice qo m qc, .slice al m cl] V fun e V' => e = .returned (.bool true) /\ Below V.heap.size V V') := hide (fun V qo qc h hq => by
    rw [← hm]
    refine (wInts qo al qc cl l l (by omega) V hq (hN.below h)).mono ?_
    rintro e V' ⟨rfl, hb⟩
    exact ⟨by rw [decide_eq_true rfl], hb⟩)
  have HD : Hid (∀ V, Below w.heap.size w V -> Calls Tryd.prog 20 #[] V fun e V' => e = .returned (.bool true) /\ Below V.heap.size V V') := hide (fun V h => wHeads V (hT.below h))
  have HNl := hide hN
  have HM := hide hm
  rw [hcv, hm]
  rw [hm] at hl
  clear hcv hf hfl hT hC hN hm hS
  have r0 := heap_alloc_new w (.cells #[.int .i64 q, .int .i64 b, .slice ao n k] 24)
  have B0 := bnew w (.cells #[.int .i64 q, .int .i64 b, .slice ao n k] 24)
  obtain ⟨V0, hV0⟩ : ∃ V0, V0 = w.alloc (.cells #[.int .i64 q, .int .i64 b, .slice ao n k] 24) := ⟨_, rfl⟩
  go_enter Tryd.func3, Tryd.ntmps3
  go_upto_region 3 with (first
    | (go_at_call 6; refine (c0.out _ B0).mono ?_; rintro e V1 ⟨xo, xj, rfl, hx, hb1⟩; have hbY := B0.trans (hb1.mono B0.size); have hbZ := hbY.trans ((bnew V1 (.cells #[.int .i64 q, .int .i64 b, .slice xo n xj] 24)).mono hbY.size); have hsY := hbZ.size)
    | (at_builtin; go_loud (refine app_gen2 (w := (V1.alloc (.cells #[.int .i64 q, .int .i64 b, .slice xo n xj] 24)).alloc (.cells #[] 3)) (B := (V1.alloc (.cells #[.int .i64 q, .int .i64 b, .slice xo n xj] 24)).heap.size) (l := []) rfl (.tmp 18) (.tmp 19) rfl (World.ownsRow_lit (V1.alloc (.cells #[.int .i64 q, .int .i64 b, .slice xo n xj] 24)) #[] 0 (Nat.le_refl _) (by decide) rfl) (bnew (V1.alloc (.cells #[.int .i64 q, .int .i64 b, .slice xo n xj] 24)) _).size al cl l m HM.out (by rw [World.size_alloc]; rfl) (by rfl) ((HNl.out.below hbZ).below (bnew _ _)) (by omega) ?_); intro qo qc V2 hown hgr))
  have hO2 : ((V1.alloc (.cells #[.int .i64 q, .int .i64 b, .slice xo n xj] 24)).alloc (.cells #[] 3)).ownsRow (V1.alloc (.cells #[.int .i64 q, .int .i64 b, .slice xo n xj] 24)).heap.size 3 1 (.slice (some ⟨(V1.alloc (.cells #[.int .i64 q, .int .i64 b, .slice xo n xj] 24)).heap.size, 0, none⟩) 0 0) 0 [] := World.ownsRow_lit (V1.alloc (.cells #[.int .i64 q, .int .i64 b, .slice xo n xj] 24)) #[] 0 (Nat.le_refl _) (by decide) rfl
  have hB2 : Below (V1.alloc (.cells #[.int .i64 q, .int .i64 b, .slice xo n xj] 24)).heap.size (V1.alloc (.cells #[.int .i64 q, .int .i64 b, .slice xo n xj] 24)) V2 := (bnew (V1.alloc (.cells #[.int .i64 q, .int .i64 b, .slice xo n xj] 24)) (.cells #[] 3)).grown hgr (bnew (V1.alloc (.cells #[.int .i64 q, .int .i64 b, .slice xo n xj] 24)) _).size (fun x hx => (own_lt hO2 x hx).1)
  rw [Nat.zero_add, List.nil_append] at hown
  have T0 : TS w V2 c l q b n ao k w.heap.size V1.heap.size xo xj qo := ⟨hbZ.trans (hB2.mono hbZ.size), kp hB2 (kp (bnew V1 (.cells #[.int .i64 q, .int .i64 b, .slice xo n xj] 24)) (kp hb1 r0)), kp hB2 (heap_alloc_new V1 (.cells #[.int .i64 q, .int .i64 b, .slice xo n xj] 24)), (hx.below (bnew V1 (.cells #[.int .i64 q, .int .i64 b, .slice xo n xj] 24))).below hB2, own_nsl hown⟩
  clear hown hgr hO2 hB2 hbZ hbY hx hb1 hsY
  generalize V1.heap.size = gX at *
  obtain ⟨x0, x1, x2, x3⟩ := def_cells T0.hx
  try simp only [Nat.zero_add]
  go_wp2_with (first
    | (go_at_call 7; refine (P1.out _ xo xj T0.bel T0.xc).mono ?_; rintro e A1 ⟨a1, ca1, rfl, hna1, hba1⟩; have TA1 := T0.keep hba1; obtain ⟨y0, y1, y2, y3⟩ := def_cells TA1.hc; clear x0 x1 x2 x3)
    | (go_at_call 8; refine (D1.out _ TA1.bel).mono ?_; rintro e E1 ⟨b1, cb1, rfl, hnb1, h41, hbb1⟩; clear y0 y1 y2 y3)
    | (go_at_call 9; refine (tellT L1 n1 hn1 e1 E1 _ a1 b1 ca1 cb1 (Nat.le_trans hba1.size hbb1.size) h41 (hna1.below hbb1) hnb1).mono ?_; rintro e G1 ⟨rfl, hbt1⟩; have T1 := T0.keep ((hba1.trans (hbb1.mono hba1.size)).trans hbt1); obtain ⟨x0, x1, x2, x3⟩ := def_cells T1.hx))
  go_wp2_with (first
    | (go_at_call 10; refine (P2.out _ xo xj T1.bel T1.xc).mono ?_; rintro e A2 ⟨a2, ca2, rfl, hna2, hba2⟩; have TA2 := T1.keep hba2; obtain ⟨y0, y1, y2, y3⟩ := def_cells TA2.hc; clear x0 x1 x2 x3)
    | (go_at_call 11; refine (D2.out _ TA2.bel).mono ?_; rintro e E2 ⟨b2, cb2, rfl, hnb2, h42, hbb2⟩; clear y0 y1 y2 y3)
    | (go_at_call 9; refine (tellT L2 n2 hn2 e2 E2 _ a2 b2 ca2 cb2 (Nat.le_trans hba2.size hbb2.size) h42 (hna2.below hbb2) hnb2).mono ?_; rintro e G2 ⟨rfl, hbt2⟩; have T2 := T1.keep ((hba2.trans (hbb2.mono hba2.size)).trans hbt2); obtain ⟨x0, x1, x2, x3⟩ := def_cells T2.hx))
  go_wp2_with (first
    | (go_at_call 12; refine (P3.out _ xo xj qo qc T2.bel T2.xc T2.qn).mono ?_; rintro e A3 ⟨a3, ca3, rfl, hna3, hba3⟩; have TA3 := T2.keep hba3; obtain ⟨y0, y1, y2, y3⟩ := def_cells TA3.hc; clear x0 x1 x2 x3)
    | (go_at_call 13; refine (D3.out _ TA3.bel).mono ?_; rintro e E3 ⟨b3, cb3, rfl, hnb3, h43, hbb3⟩; clear y0 y1 y2 y3)
    | (go_at_call 9; refine (tellT L3 n3 hn3 e3 E3 _ a3 b3 ca3 cb3 (Nat.le_trans hba3.size hbb3.size) h43 (hna3.below hbb3) hnb3).mono ?_; rintro e G3 ⟨rfl, hbt3⟩; have T3 := T2.keep ((hba3.trans (hbb3.mono hba3.size)).trans hbt3); obtain ⟨x0, x1, x2, x3⟩ := def_cells T3.hx))
  go_wp2_with (first
    | (go_at_call 14; refine (P4.out _ xo xj qo qc T3.bel T3.xc T3.qn).mono ?_; rintro e A4 ⟨a4, ca4, rfl, hna4, hba4⟩; have TA4 := T3.keep hba4; obtain ⟨y0, y1, y2, y3⟩ := def_cells TA4.hc; clear x0 x1 x2 x3)
    | (go_at_call 15; refine (D4.out _ TA4.bel).mono ?_; rintro e E4 ⟨b4, cb4, rfl, hnb4, h44, hbb4⟩; clear y0 y1 y2 y3)
    | (go_at_call 9; refine (tellT L4 n4 hn4 e4 E4 _ a4 b4 ca4 cb4 (Nat.le_trans hba4.size hbb4.size) h44 (hna4.below hbb4) hnb4).mono ?_; rintro e G4 ⟨rfl, hbt4⟩; have T4 := T3.keep ((hba4.trans (hbb4.mono hba4.size)).trans hbt4); obtain ⟨x0, x1, x2, x3⟩ := def_cells T4.hx))
  go_wp2_with (first
    | (go_at_call 16; refine (P5.out _ xo xj T4.bel T4.xc).mono ?_; rintro e A5 ⟨rfl, hba5⟩; have TA5 := T4.keep hba5; obtain ⟨y0, y1, y2, y3⟩ := def_cells TA5.hc; clear x0 x1 x2 x3)
    | (go_at_call 17; refine (D5.out _ TA5.bel).mono ?_; rintro e A6 ⟨rfl, hba6⟩; have T6 := TA5.keep hba6; clear y0 y1 y2 y3)
    | (go_at_call 18; refine (IN.out _ qo qc T6.bel T6.qn).mono ?_; rintro e A7 ⟨rfl, hba7⟩; have T7 := T6.keep hba7; obtain ⟨x0, x1, x2, x3⟩ := def_cells T7.hx; obtain ⟨y0, y1, y2, y3⟩ := def_cells T7.hc)
    | (go_at_call 19; refine (SM.out _ xo xj T7.bel T7.xc).mono ?_; rintro e A8 ⟨rfl, hba8⟩; have T8 := T7.keep hba8; clear x0 x1 x2 x3 y0 y1 y2 y3)
    | (go_at_call 20; refine (HD.out _ T8.bel).mono ?_; rintro e A9 ⟨rfl, hba9⟩; have T9 := T8.keep hba9))
  go_ret
  exact ⟨rfl, T9.bel⟩
end Go.Proofs.YthndpbjplcphpaaDoor.Lay
