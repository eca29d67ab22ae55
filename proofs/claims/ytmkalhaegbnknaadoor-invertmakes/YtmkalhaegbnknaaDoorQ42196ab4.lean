import Derived.Test.YtmkalhaegbnknaaDoorQb5b24ad9
import Derived.Test.YtmkalhaegbnknaaDoorQ3f8b13e0
import Derived.Test.YtmkalhaegbnknaaDoorQ42afcb4a
import Derived.Test.YtmkalhaegbnknaaDoorQeef7fbd3
import Derived.Test.YtmkalhaegbnknaaDoorQf8c21d5e
set_option maxRecDepth 100000
set_option maxHeartbeats 8000000
namespace Go.Proofs.YtmkalhaegbnknaaDoor.Cir
open Go.RowKit Go.Shelf Go.Proofs.YtmkalhaegbnknaaDoor.Oct Go.Proofs.YtmkalhaegbnknaaDoor.Tok Go.Proofs.YtmkalhaegbnknaaDoor.Gt Go.Proofs.YtmkalhaegbnknaaDoor.Rf
theorem dControl (c : Circ) (ao : Option Addr) (k : Nat) (w : World) (hC : Ci w c ao k) : Calls Tryd.prog 15 #[cV c ao k] w fun e w' => ∃ bo j, e = .returned (.tuple #[cV (ctP c).1 bo j, .int .i64 (ctP c).2]) /\ OpsAt w' w.heap.size bo (ctP c).1.ops.length j (ctP c).1.ops /\ Below w.heap.size w w' := by
  rcases chk_two c with hk | hk
  . by_cases h64 : c.q = 64
    . have e : ctP c = (nulC, 170) := by unfold ctP; rw [if_neg (by simp [hk]), if_pos (.inl h64)]
      rw [e]
      refine (dControl_64 c ao k (by rw [hk]; rfl) (by omega) w hC).mono ?_
      rintro e w' ⟨rfl, hb⟩
      exact ⟨none, 0, rfl, OpsAt.nil17 _ _, hb⟩
    . exact dControl_go c ao k hk h64 w hC
  . have e : ctP c = (nulC, 80) := by unfold ctP; rw [if_pos (by rw [hk]; decide)]
    rw [e]
    refine (dControl_80 c ao k (by rw [hk]; rfl) w hC).mono ?_
    rintro e w' ⟨rfl, hb⟩
    exact ⟨none, 0, rfl, OpsAt.nil17 _ _, hb⟩
theorem szs_nul : Szs nulC.ops := ⟨by simp [nulC], fun o ho => by simp [nulC] at ho⟩
theorem szs_cj (c : Circ) : Szs (cjP c).1.ops := by
  unfold cjP
  split
  . exact szs_nul
  . rename_i h1
    split
    . exact szs_nul
    . rename_i h2
      have hk : (chkC c).2 = 0 := by simpa using h1
      have hck := chkC_ok hk
      refine ⟨by show (c.ops.flatMap cjO).length <= _; omega, fun o ho => ?_⟩
      obtain ⟨o', ho', hoo⟩ := List.mem_flatMap.1 ho
      have := (may_in hck.1 hck.2.1 hck.2.2.2.1 (hck.2.2.2.2.2 o' ho')).1
      unfold cjO at hoo
      split at hoo
      . obtain ⟨kk, -, rfl⟩ := List.mem_map.1 hoo
        simp only [List.length_take]
        omega
      . rw [List.mem_singleton] at hoo
        rw [hoo]
        omega
theorem szs_mi (c : Circ) (hS : Szs c.ops) : Szs (miP c).1.ops := by
  unfold miP
  split
  . exact szs_nul
  . split
    . exact szs_nul
    . rename_i h1 h2
      have h3 := szs_iv c hS
      have e := (iv_ok (c := c) (by simpa using h1)).2.2
      rw [e] at h3 ⊢
      refine ⟨by simp only [List.length_append, List.length_map, List.length_reverse]; omega, fun o ho => ?_⟩
      rcases List.mem_append.1 ho with ho | ho
      . exact hS.2 o ho
      . exact h3.2 o ho
theorem szs_ct (c : Circ) : Szs (ctP c).1.ops := by
  unfold ctP
  split
  . exact szs_nul
  . rename_i h1
    split
    . exact szs_nul
    . have hk : (chkC c).2 = 0 := by simpa using h1
      have hck := chkC_ok hk
      refine ⟨by simp only [List.length_map]; omega, fun o ho => ?_⟩
      obtain ⟨o', ho', rfl⟩ := List.mem_map.1 ho
      have := (may_in hck.1 hck.2.1 hck.2.2.2.1 (hck.2.2.2.2.2 o' ho')).1
      unfold ctO
      split
      . omega
      . simp only [List.length_cons]
        omega
theorem OpsOwn.typed17 {V V' : World} {B n c : Nat} {ao : Option Addr} {l : List COp} (h : OpsOwn V B ao n c l) (hk : ∀ (g : Nat) (cs : Array Value) (t : TypeId) (fr : Nat × Nat), V.heap[g]? = some (.cells cs t fr) -> t ≠ 24 -> V'.heap[g]? = V.heap[g]?) : OpsOwn V' B ao n c l := by
  obtain ⟨xs, h1, h2, h3, h4, h5⟩ := h
  refine ⟨xs, h1, h2, own_of_block h3 (fun g hg => ?_), fun x hx => (h4 x hx).block (fun g cs fr hg => hk g cs _ fr hg (by decide)), h5⟩
  obtain ⟨cs, fr, hc⟩ := own_cells' h3 hg
  exact hk g cs _ fr hc (by decide)
structure Sg (w V : World) (q b : Int) (n : Nat) (ao : Option Addr) (k : Nat) (xo : Option Addr) (xj : Nat) (l : List COp) (X5 X6 X8 : Nat) : Prop where
  bel : Below w.heap.size w V
  h0 : V.heap[w.heap.size]? = some (.cells #[.int .i64 q, .int .i64 b, .slice ao n k] 24)
  h5 : V.heap[X5]? = some (.cells #[.int .i64 q, .int .i64 b, .slice xo n xj] 24 (0, 0))
  h6 : ∃ z0 z1 z2 : Value, V.heap[X6]? = some (.cells #[z0, z1, z2] 24 (0, 0))
  h8 : ∃ z0 z1 z2 : Value, V.heap[X8]? = some (.cells #[z0, z1, z2] 24 (0, 0))
  ow : OpsOwn V w.heap.size xo n xj l
  l5 : w.heap.size < X5
  l6 : X5 < X6
  l8 : X6 < X8
theorem Sg.below {w V V' : World} {q b : Int} {n : Nat} {ao : Option Addr} {k : Nat} {xo : Option Addr} {xj : Nat} {l : List COp} {X5 X6 X8 : Nat} (h : Sg w V q b n ao k xo xj l X5 X6 X8) (hb : Below V.heap.size V V') : Sg w V' q b n ao k xo xj l X5 X6 X8 := by
  obtain ⟨p60, p61, p62, e6⟩ := h.h6
  obtain ⟨p80, p81, p82, e8⟩ := h.h8
  exact ⟨h.bel.trans (hb.mono h.bel.size), (hb.block _ (Array.getElem?_eq_some_iff.1 h.h0).1).trans h.h0, (hb.block _ (Array.getElem?_eq_some_iff.1 h.h5).1).trans h.h5, ⟨p60, p61, p62, (hb.block _ (Array.getElem?_eq_some_iff.1 e6).1).trans e6⟩, ⟨p80, p81, p82, (hb.block _ (Array.getElem?_eq_some_iff.1 e8).1).trans e8⟩, h.ow.below hb, h.l5, h.l6, h.l8⟩
theorem Sg.set6 {w V : World} {q b : Int} {n : Nat} {ao : Option Addr} {k : Nat} {xo : Option Addr} {xj : Nat} {l : List COp} {X5 X6 X8 : Nat} (h : Sg w V q b n ao k xo xj l X5 X6 X8) (z0 z1 z2 : Value) : Sg w (V.setRow X6 #[z0, z1, z2]) q b n ao k xo xj l X5 X6 X8 := by
  obtain ⟨p60, p61, p62, e6⟩ := h.h6
  obtain ⟨p80, p81, p82, e8⟩ := h.h8
  have := h.l5
  have := h.l6
  have := h.l8
  exact ⟨Below.row h.bel _ _ (by omega), (setRow_other _ _ _ _ (by omega)).trans h.h0, (setRow_other _ _ _ _ (by omega)).trans h.h5, ⟨_, _, _, setRow_heap _ _ _ _ _ _ e6⟩, ⟨p80, p81, p82, (setRow_other _ _ _ _ (by omega)).trans e8⟩, h.ow.row e6 (by decide) (by decide) _, h.l5, h.l6, h.l8⟩
theorem Sg.set8 {w V : World} {q b : Int} {n : Nat} {ao : Option Addr} {k : Nat} {xo : Option Addr} {xj : Nat} {l : List COp} {X5 X6 X8 : Nat} (h : Sg w V q b n ao k xo xj l X5 X6 X8) (z0 z1 z2 : Value) : Sg w (V.setRow X8 #[z0, z1, z2]) q b n ao k xo xj l X5 X6 X8 := by
  obtain ⟨p60, p61, p62, e6⟩ := h.h6
  obtain ⟨p80, p81, p82, e8⟩ := h.h8
  have := h.l5
  have := h.l6
  have := h.l8
  exact ⟨Below.row h.bel _ _ (by omega), (setRow_other _ _ _ _ (by omega)).trans h.h0, (setRow_other _ _ _ _ (by omega)).trans h.h5, ⟨p60, p61, p62, (setRow_other _ _ _ _ (by omega)).trans e6⟩, ⟨_, _, _, setRow_heap _ _ _ _ _ _ e8⟩, h.ow.row e8 (by decide) (by decide) _, h.l5, h.l6, h.l8⟩
theorem Sg.over {w VB V V' : World} {E : Nat} {q b : Int} {n : Nat} {ao : Option Addr} {k : Nat} {xo : Option Addr} {xj : Nat} {l : List COp} {X5 X6 X8 : Nat} (h : Sg w V q b n ao k xo xj l X5 X6 X8) (hx : OpsOwn VB w.heap.size xo n xj l) (hsz : VB.heap.size <= V.heap.size) (hty : ∀ (g : Nat) (cs : Array Value) (t : TypeId) (fr : Nat × Nat), VB.heap[g]? = some (.cells cs t fr) -> t ≠ 24 -> V.heap[g]? = VB.heap[g]?) (h5 : X5 < VB.heap.size) (h6 : X6 < VB.heap.size ∨ E <= X6) (h8 : X8 < VB.heap.size ∨ E <= X8) (hold : ∀ g, (g < VB.heap.size ∨ E <= g) -> g < V.heap.size -> V'.heap[g]? = V.heap[g]?) (hb : Below VB.heap.size V V') : Sg w V' q b n ao k xo xj l X5 X6 X8 := by
  obtain ⟨p60, p61, p62, e6⟩ := h.h6
  obtain ⟨p80, p81, p82, e8⟩ := h.h8
  have k5 := h.l5
  have k0 := (Array.getElem?_eq_some_iff.1 h.h0).1
  have k55 := (Array.getElem?_eq_some_iff.1 h.h5).1
  have k66 := (Array.getElem?_eq_some_iff.1 e6).1
  have k88 := (Array.getElem?_eq_some_iff.1 e8).1
  refine ⟨h.bel.trans (hb.mono (by omega)), (hold _ (.inl (by omega)) k0).trans h.h0, (hold _ (.inl h5) k55).trans h.h5, ⟨p60, p61, p62, (hold _ h6 k66).trans e6⟩, ⟨p80, p81, p82, (hold _ h8 k88).trans e8⟩, hx.typed17 (fun g cs t fr hg ht => ?_), h.l5, h.l6, h.l8⟩
  have hl := (Array.getElem?_eq_some_iff.1 hg).1
  exact (hold g (.inl hl) (by omega)).trans (hty g cs t fr hg ht)
theorem xInvertMakes (c : Circ) (ao : Option Addr) (k : Nat) (p : Int) (hS : Szs c.ops) (w : World) (hT : Ti w) (hC : Ci w c ao k) (hHd : ∀ V, Ti V -> Calls Tryd.prog 17 #[] V fun e V' => e = .returned (.bool true) /\ Below V.heap.size V V') : Calls Tryd.prog 3 #[cV c ao k, .int .i64 p] w fun e w' => e = .returned (.bool true) /\ Below w.heap.size w w' := by
  have c0 := fun V (h : Below w.heap.size w V) => eCopyO c ao k hS V (hC.below h)
  have P1 := hide (fun V (h : Below w.heap.size w V) xo xj (hx : Ci V c xo xj) => iInverse c xo xj hS V (hT.below h).tb hx)
  have E1 := hide (fun V (h : Below w.heap.size w V) => dInverse c ao k hS V (hC.below h))
  have S1 := hide (fun (V0 V : World) (B : Nat) (hB : B <= V0.heap.size) po pj dx dj (B1 : Nat) (h1 : OpsOwn V0 B po (ivP c).1.ops.length pj (ivP c).1.ops) (hkp : ∀ g, B <= g -> g < V0.heap.size -> V.heap[g]? = V0.heap[g]?) (hE : V0.heap.size <= V.heap.size) (h2 : OpsAt V B1 dx (ivP c).1.ops.length dj (ivP c).1.ops) => wSame (ivP c).1 (ivP c).1 po dx pj dj (ivP c).2 (ivP c).2 B (szs_iv c hS) V0 V hB h1 hkp hE (ci_at17 (szs_iv c hS) h2))
  rw [decide_eq_true (rfl : (ivP c).1 = (ivP c).1), decide_eq_true (rfl : (ivP c).2 = (ivP c).2)] at S1
  have P2 := hide (fun V (h : Below w.heap.size w V) xo xj (hx : Ci V c xo xj) => iConj c xo xj V (hT.below h) hx)
  have E2 := hide (fun V (h : Below w.heap.size w V) => dConj c ao k V (hC.below h))
  have S2 := hide (fun (V0 V : World) (B : Nat) (hB : B <= V0.heap.size) po pj dx dj (B1 : Nat) (h1 : OpsOwn V0 B po (cjP c).1.ops.length pj (cjP c).1.ops) (hkp : ∀ g, B <= g -> g < V0.heap.size -> V.heap[g]? = V0.heap[g]?) (hE : V0.heap.size <= V.heap.size) (h2 : OpsAt V B1 dx (cjP c).1.ops.length dj (cjP c).1.ops) => wSame (cjP c).1 (cjP c).1 po dx pj dj (cjP c).2 (cjP c).2 B (szs_cj c) V0 V hB h1 hkp hE (ci_at17 (szs_cj c) h2))
  rw [decide_eq_true (rfl : (cjP c).1 = (cjP c).1), decide_eq_true (rfl : (cjP c).2 = (cjP c).2)] at S2
  have P3 := hide (fun V (h : Below w.heap.size w V) xo xj (hx : Ci V c xo xj) => iMirror c xo xj hS V (hT.below h).tb hx)
  have E3 := hide (fun V (h : Below w.heap.size w V) => dMirror c ao k hS V (hC.below h))
  have S3 := hide (fun (V0 V : World) (B : Nat) (hB : B <= V0.heap.size) po pj dx dj (B1 : Nat) (h1 : OpsOwn V0 B po (miP c).1.ops.length pj (miP c).1.ops) (hkp : ∀ g, B <= g -> g < V0.heap.size -> V.heap[g]? = V0.heap[g]?) (hE : V0.heap.size <= V.heap.size) (h2 : OpsAt V B1 dx (miP c).1.ops.length dj (miP c).1.ops) => wSame (miP c).1 (miP c).1 po dx pj dj (miP c).2 (miP c).2 B (szs_mi c hS) V0 V hB h1 hkp hE (ci_at17 (szs_mi c hS) h2))
  rw [decide_eq_true (rfl : (miP c).1 = (miP c).1), decide_eq_true (rfl : (miP c).2 = (miP c).2)] at S3
  have P4 := hide (fun V (h : Below w.heap.size w V) xo xj (hx : Ci V c xo xj) => iPower c xo xj p hS V (hT.below h).tb hx)
  have E4 := hide (fun V (h : Below w.heap.size w V) => dPower c ao k p hS V (hC.below h))
  have S4 := hide (fun (V0 V : World) (B : Nat) (hB : B <= V0.heap.size) po pj dx dj (B1 : Nat) (h1 : OpsOwn V0 B po (poP c p).1.ops.length pj (poP c p).1.ops) (hkp : ∀ g, B <= g -> g < V0.heap.size -> V.heap[g]? = V0.heap[g]?) (hE : V0.heap.size <= V.heap.size) (h2 : OpsAt V B1 dx (poP c p).1.ops.length dj (poP c p).1.ops) => wSame (poP c p).1 (poP c p).1 po dx pj dj (poP c p).2 (poP c p).2 B (szs_po c p hS) V0 V hB h1 hkp hE (ci_at17 (szs_po c p hS) h2))
  rw [decide_eq_true (rfl : (poP c p).1 = (poP c p).1), decide_eq_true (rfl : (poP c p).2 = (poP c p).2)] at S4
  have P5 := hide (fun V (h : Below w.heap.size w V) xo xj (hx : Ci V c xo xj) => iControl c xo xj V (hT.below h) hx)
  have E5 := hide (fun V (h : Below w.heap.size w V) => dControl c ao k V (hC.below h))
  have S5 := hide (fun (V0 V : World) (B : Nat) (hB : B <= V0.heap.size) po pj dx dj (B1 : Nat) (h1 : OpsOwn V0 B po (ctP c).1.ops.length pj (ctP c).1.ops) (hkp : ∀ g, B <= g -> g < V0.heap.size -> V.heap[g]? = V0.heap[g]?) (hE : V0.heap.size <= V.heap.size) (h2 : OpsAt V B1 dx (ctP c).1.ops.length dj (ctP c).1.ops) => wSame (ctP c).1 (ctP c).1 po dx pj dj (ctP c).2 (ctP c).2 B (szs_ct c) V0 V hB h1 hkp hE (ci_at17 (szs_ct c) h2))
  rw [decide_eq_true (rfl : (ctP c).1 = (ctP c).1), decide_eq_true (rfl : (ctP c).2 = (ctP c).2)] at S5
  have HSM := hide (fun V (h : Below w.heap.size w V) xo xj (hx : Ci V c xo xj) => eSame c c xo ao xj k V hx (hC.below h))
  rw [decide_eq_true (rfl : c = c)] at HSM
  have HHD := hide (fun V (h : Below w.heap.size w V) => hHd V (hT.below h))
  have HCX := hide (fun (V : World) (B : Nat) xo xj (h : OpsOwn V B xo c.ops.length xj c.ops) => ci_szs hS h)
  generalize ivP c = R1 at *
  generalize cjP c = R2 at *
  generalize miP c = R3 at *
  generalize poP c p = R4 at *
  generalize ctP c = R5 at *
  obtain ⟨q, b, l⟩ := c
  obtain ⟨⟨q1, b1, l1⟩, e1⟩ := R1
  obtain ⟨⟨q2, b2, l2⟩, e2⟩ := R2
  obtain ⟨⟨q3, b3, l3⟩, e3⟩ := R3
  obtain ⟨⟨q4, b4, l4⟩, e4⟩ := R4
  obtain ⟨⟨q5, b5, l5⟩, e5⟩ := R5
  unfold cV at *
  simp only [Bool.and_self] at *
  generalize l1.length = n1 at *
  generalize l2.length = n2 at *
  generalize l3.length = n3 at *
  generalize l4.length = n4 at *
  generalize l5.length = n5 at *
  generalize l.length = n at *
  clear hT hC hS hHd
  have HB0 : Hid (Below w.heap.size w (w.alloc (.cells #[.int .i64 q, .int .i64 b, .slice ao n k] 24)) /\ (w.alloc (.cells #[.int .i64 q, .int .i64 b, .slice ao n k] 24)).heap[w.heap.size]? = some (.cells #[.int .i64 q, .int .i64 b, .slice ao n k] 24)) := hide ⟨bnew _ _, heap_alloc_new _ _⟩
  go_enter Tryd.func3, Tryd.ntmps3
  go_wp2_with (first
    | (go_at_call 4; refine (c0 _ HB0.out.1).mono ?_; rintro e w1 ⟨xo, xj, rfl, hO1, hb1⟩; have HO1 := hide (hO1.base HB0.out.1.size); have HB1 := hide (HB0.out.1.trans (hb1.mono HB0.out.1.size)); have HA1 := hide ((hb1.block _ (by simp)).trans HB0.out.2); have HBX := hide (HB1.out.trans ((bnew w1 (.cells #[.int .i64 q, .int .i64 b, .slice xo n xj] 24)).mono HB1.out.size)); have HCXi := hide (HCX.out _ _ xo xj (HO1.out.below (bnew w1 (.cells #[.int .i64 q, .int .i64 b, .slice xo n xj] 24)))); clear hO1 hb1)
    | (go_at_call 5; refine (P1.out _ HBX.out xo xj HCXi.out).mono ?_; rintro e v1 ⟨po1, pj1, rfl, hO2, hb2⟩; have HO2 := hide hO2; have HB2 := hide hb2; have ma := (hb2.block w.heap.size (by have := HB1.out.size; have := (Array.getElem?_eq_some_iff.1 HA1.out).1; simp; omega)).trans ((Below.heap_alloc _ _ _ (Array.getElem?_eq_some_iff.1 HA1.out).1).trans HA1.out); have mx := (hb2.block w1.heap.size (by simp)).trans (heap_alloc_new w1 (.cells #[.int .i64 q, .int .i64 b, .slice xo n xj] 24)); obtain ⟨x0, x1, x2, x3⟩ := def_cells ma; have HMA := hide ma; have HMX := hide mx; have HBv := hide (HBX.out.trans (hb2.mono HBX.out.size)); clear hO2 hb2 ma mx)
    | (go_at_call 6; refine (E1.out _ (HBv.out.trans ((bnew v1 (.cells #[.int .i64 q1, .int .i64 b1, .slice po1 n1 pj1] 24)).mono HBv.out.size))).mono ?_; rintro e v2 ⟨do1, dj1, rfl, hO3, hb3⟩; have HO3 := hide hO3; have HB3 := hide hb3; have m6 := (hb3.block v1.heap.size (by simp)).trans (heap_alloc_new v1 (.cells #[.int .i64 q1, .int .i64 b1, .slice po1 n1 pj1] 24)); obtain ⟨y0, y1, y2, y3⟩ := def_cells m6; have HM6 := hide m6; clear hO3 hb3 m6))
  have hal6 : Below v1.heap.size v1 (v1.alloc (.cells #[.int .i64 q1, .int .i64 b1, .slice po1 n1 pj1] 24)) := bnew _ _
  have hal8 : Below v2.heap.size v2 (v2.alloc (.cells #[.int .i64 q1, .int .i64 b1, .slice do1 n1 dj1] 24)) := bnew _ _
  have hb68 := (hal6.trans (HB3.out.mono hal6.size)).trans (hal8.mono (hal6.trans (HB3.out.mono hal6.size)).size)
  have hSg : Sg w (v2.alloc (.cells #[.int .i64 q1, .int .i64 b1, .slice do1 n1 dj1] 24)) q b n ao k xo xj l w1.heap.size v1.heap.size v2.heap.size := by
    refine ⟨HBv.out.trans (hb68.mono HBv.out.size), (hb68.block _ (Array.getElem?_eq_some_iff.1 HMA.out).1).trans HMA.out, (hb68.block _ (Array.getElem?_eq_some_iff.1 HMX.out).1).trans HMX.out, ⟨_, _, _, (hal8.block _ y3).trans HM6.out⟩, ⟨_, _, _, heap_alloc_new _ _⟩, ((HO1.out.below (bnew w1 (.cells #[.int .i64 q, .int .i64 b, .slice xo n xj] 24))).below HB2.out).below hb68, ?_, (Array.getElem?_eq_some_iff.1 HMX.out).1, y3⟩
    exact (Array.getElem?_eq_some_iff.1 HA1.out).1
  have hOp : OpsOwn (v2.alloc (.cells #[.int .i64 q1, .int .i64 b1, .slice do1 n1 dj1] 24)) (w1.alloc (.cells #[.int .i64 q, .int .i64 b, .slice xo n xj] 24)).heap.size po1 n1 pj1 l1 := HO2.out.below hb68
  have hOd := HO3.out.below hal8
  have hBl : (w1.alloc (.cells #[.int .i64 q, .int .i64 b, .slice xo n xj] 24)).heap.size <= (v2.alloc (.cells #[.int .i64 q1, .int .i64 b1, .slice do1 n1 dj1] 24)).heap.size := Nat.le_trans HB2.out.size hb68.size
  have hX1 : (w1.alloc (.cells #[.int .i64 q, .int .i64 b, .slice xo n xj] 24)).heap.size <= v1.heap.size := HB2.out.size
  refine Calls.mono (S1.out v1 (v2.alloc (.cells #[.int .i64 q1, .int .i64 b1, .slice do1 n1 dj1] 24)) _ hX1 po1 pj1 do1 dj1 _ HO2.out (fun g _ hg => hb68.block g hg) hb68.size hOd) ?_
  rintro e V1 ⟨rfl, hold, hbl⟩
  have hSg1 : Sg w V1 q b n ao k xo xj l w1.heap.size v1.heap.size v2.heap.size := hSg.over (E := v1.heap.size) (HO1.out.below (bnew w1 (.cells #[.int .i64 q, .int .i64 b, .slice xo n xj] 24))) hBl (fun g cs t fr hg _ => by
    have hl := (Array.getElem?_eq_some_iff.1 hg).1
    exact (hb68.block g (Nat.lt_of_lt_of_le hl HB2.out.size)).trans (HB2.out.block g hl)) (by simp) (.inr (Nat.le_refl _)) (.inr (by omega)) hold hbl
  have hV1 : v2.heap.size < V1.heap.size := by
    have h1 := hbl.size
    simp only [World.size_alloc] at h1
    omega
  have HSg1 := hide hSg1
  clear hSg1 hSg hold hbl hOp hOd hBl hX1 hal6 hal8 hb68 x0 x1 x2 x3 y0 y1 y2 y3 c0 HB0 HB1 HB2 HB3 HBX HCXi HO1 HO2 HO3 HA1 HMA HMX HM6 HBv P1 E1 S1
  generalize w1.heap.size = X5 at *
  generalize v1.heap.size = X6 at *
  generalize v2.heap.size = X8 at *
  obtain ⟨x0, x1, x2, x3⟩ := def_cells HSg1.out.h5
  go_wp2_with (first
    | (go_at_call 8; refine (P2.out _ HSg1.out.bel xo xj (HCX.out _ _ xo xj HSg1.out.ow)).mono ?_; rintro e a2 ⟨po2, pj2, rfl, hO2, hb2⟩; have HO2 := hide hO2; have HB2 := hide hb2; obtain ⟨c60, c61, c62, e6⟩ := (HSg1.out.below hb2).h6; have HE6 := hide e6; have HS2 := hide ((HSg1.out.below hb2).set6 (.int .i64 q2) (.int .i64 b2) (.slice po2 n2 pj2)); have hw0 := HS2.out.h0; obtain ⟨y0, y1, y2, y3⟩ := def_cells hw0; clear hO2 hb2 e6 hw0)
    | (go_at_call 9; refine (E2.out _ HS2.out.bel).mono ?_; rintro e d2 ⟨do2, dj2, rfl, hO3, hb3⟩; have HO3 := hide hO3; have HB3 := hide hb3; obtain ⟨c80, c81, c82, e8⟩ := (HS2.out.below hb3).h8; have HE8 := hide e8; have HS3 := hide ((HS2.out.below hb3).set8 (.int .i64 q2) (.int .i64 b2) (.slice do2 n2 dj2)); have m6 : (d2.setRow X8 #[.int .i64 q2, .int .i64 b2, .slice do2 n2 dj2]).heap[X6]? = some (.cells #[.int .i64 q2, .int .i64 b2, .slice po2 n2 pj2] 24 (0, 0)) := (setRow_other _ _ _ _ (by have := HS2.out.l8; omega)).trans ((hb3.block _ (Array.getElem?_eq_some_iff.1 (setRow_heap a2 X6 _ #[.int .i64 q2, .int .i64 b2, .slice po2 n2 pj2] _ _ HE6.out)).1).trans (setRow_heap _ _ _ _ _ _ HE6.out)); obtain ⟨z0, z1, z2, z3⟩ := def_cells m6; have m8 : (d2.setRow X8 #[.int .i64 q2, .int .i64 b2, .slice do2 n2 dj2]).heap[X8]? = some (.cells #[.int .i64 q2, .int .i64 b2, .slice do2 n2 dj2] 24 (0, 0)) := setRow_heap _ _ _ _ _ _ e8; obtain ⟨u0, u1, u2, u3⟩ := def_cells m8; clear hO3 hb3 e8 m6 m8)
    | refine wpList_store_row rfl _ _ _ rfl X6 _ rfl rfl _ _ HE6.out (by exact infoCi) (by rfl) (by simp [Value.oneCell']) ?_
    | refine wpList_store_row rfl _ _ _ rfl X8 _ rfl rfl _ _ HE8.out (by exact infoCi) (by rfl) (by simp [Value.oneCell']) ?_)
  have hl8 := HSg1.out.l8
  have hkp : ∀ g, V1.heap.size <= g -> g < a2.heap.size -> (d2.setRow X8 #[.int .i64 q2, .int .i64 b2, .slice do2 n2 dj2]).heap[g]? = a2.heap[g]? := fun g h1 h2 => by
    rw [setRow_other _ _ _ _ (by omega), HB3.out.block g (by simp [World.setRow]; omega), setRow_other _ _ _ _ (by omega)]
  have hsz : a2.heap.size <= (d2.setRow X8 #[.int .i64 q2, .int .i64 b2, .slice do2 n2 dj2]).heap.size := by
    have h1 := HB3.out.size
    simp [World.setRow] at h1 ⊢
    omega
  refine Calls.mono (S2.out a2 (d2.setRow X8 #[.int .i64 q2, .int .i64 b2, .slice do2 n2 dj2]) V1.heap.size HB2.out.size po2 pj2 do2 dj2 _ HO2.out hkp hsz (HO3.out.row17 HE8.out (by decide) (by decide) _)) ?_
  rintro e V2 ⟨rfl, hold, hbl⟩
  have hSg2 : Sg w V2 q b n ao k xo xj l X5 X6 X8 := HS3.out.over (VB := V1) (E := a2.heap.size) HSg1.out.ow (Nat.le_trans HB2.out.size hsz) (fun g cs t fr hg ht => by
    have hl := (Array.getElem?_eq_some_iff.1 hg).1
    have n6 : g ≠ X6 := fun e => by
      obtain ⟨_, _, _, e9⟩ := HSg1.out.h6
      rw [e, e9] at hg
      simp only [Option.some.injEq, Obj.cells.injEq] at hg
      exact ht hg.2.1.symm
    have n8 : g ≠ X8 := fun e => by
      obtain ⟨_, _, _, e9⟩ := HSg1.out.h8
      rw [e, e9] at hg
      simp only [Option.some.injEq, Obj.cells.injEq] at hg
      exact ht hg.2.1.symm
    have h2 := HB2.out.size
    rw [setRow_other _ _ _ _ n8, HB3.out.block g (by simp [World.setRow]; omega), setRow_other _ _ _ _ n6]
    exact HB2.out.block g hl) x3 (.inl (by omega)) (.inl hV1) hold hbl
  have hV2 : X8 < V2.heap.size := by
    have h1 := hbl.size
    have h2 := HB2.out.size
    omega
  have HSg2 := hide hSg2
  clear hSg2 hold hbl hkp hsz x0 x1 x2 x3 y0 y1 y2 y3 z0 z1 z2 z3 u0 u1 u2 u3 HB2 HB3 HO2 HO3 HE6 HE8 HS2 HS3 P2 E2 S2 HSg1 hl8
  obtain ⟨x0, x1, x2, x3⟩ := def_cells HSg2.out.h5
  go_wp2_with (first
    | (go_at_call 10; refine (P3.out _ HSg2.out.bel xo xj (HCX.out _ _ xo xj HSg2.out.ow)).mono ?_; rintro e a3 ⟨po3, pj3, rfl, hO2, hb2⟩; have HO2 := hide hO2; have HB2 := hide hb2; obtain ⟨c60, c61, c62, e6⟩ := (HSg2.out.below hb2).h6; have HE6 := hide e6; have HS2 := hide ((HSg2.out.below hb2).set6 (.int .i64 q3) (.int .i64 b3) (.slice po3 n3 pj3)); have hw0 := HS2.out.h0; obtain ⟨y0, y1, y2, y3⟩ := def_cells hw0; clear hO2 hb2 e6 hw0)
    | (go_at_call 11; refine (E3.out _ HS2.out.bel).mono ?_; rintro e d3 ⟨do3, dj3, rfl, hO3, hb3⟩; have HO3 := hide hO3; have HB3 := hide hb3; obtain ⟨c80, c81, c82, e8⟩ := (HS2.out.below hb3).h8; have HE8 := hide e8; have HS3 := hide ((HS2.out.below hb3).set8 (.int .i64 q3) (.int .i64 b3) (.slice do3 n3 dj3)); have m6 : (d3.setRow X8 #[.int .i64 q3, .int .i64 b3, .slice do3 n3 dj3]).heap[X6]? = some (.cells #[.int .i64 q3, .int .i64 b3, .slice po3 n3 pj3] 24 (0, 0)) := (setRow_other _ _ _ _ (by have := HS2.out.l8; omega)).trans ((hb3.block _ (Array.getElem?_eq_some_iff.1 (setRow_heap a3 X6 _ #[.int .i64 q3, .int .i64 b3, .slice po3 n3 pj3] _ _ HE6.out)).1).trans (setRow_heap _ _ _ _ _ _ HE6.out)); obtain ⟨z0, z1, z2, z3⟩ := def_cells m6; have m8 : (d3.setRow X8 #[.int .i64 q3, .int .i64 b3, .slice do3 n3 dj3]).heap[X8]? = some (.cells #[.int .i64 q3, .int .i64 b3, .slice do3 n3 dj3] 24 (0, 0)) := setRow_heap _ _ _ _ _ _ e8; obtain ⟨u0, u1, u2, u3⟩ := def_cells m8; clear hO3 hb3 e8 m6 m8)
    | refine wpList_store_row rfl _ _ _ rfl X6 _ rfl rfl _ _ HE6.out (by exact infoCi) (by rfl) (by simp [Value.oneCell']) ?_
    | refine wpList_store_row rfl _ _ _ rfl X8 _ rfl rfl _ _ HE8.out (by exact infoCi) (by rfl) (by simp [Value.oneCell']) ?_)
  have hl8 := HSg2.out.l8
  have hkp : ∀ g, V2.heap.size <= g -> g < a3.heap.size -> (d3.setRow X8 #[.int .i64 q3, .int .i64 b3, .slice do3 n3 dj3]).heap[g]? = a3.heap[g]? := fun g h1 h2 => by
    rw [setRow_other _ _ _ _ (by omega), HB3.out.block g (by simp [World.setRow]; omega), setRow_other _ _ _ _ (by omega)]
  have hsz : a3.heap.size <= (d3.setRow X8 #[.int .i64 q3, .int .i64 b3, .slice do3 n3 dj3]).heap.size := by
    have h1 := HB3.out.size
    simp [World.setRow] at h1 ⊢
    omega
  refine Calls.mono (S3.out a3 (d3.setRow X8 #[.int .i64 q3, .int .i64 b3, .slice do3 n3 dj3]) V2.heap.size HB2.out.size po3 pj3 do3 dj3 _ HO2.out hkp hsz (HO3.out.row17 HE8.out (by decide) (by decide) _)) ?_
  rintro e V3 ⟨rfl, hold, hbl⟩
  have hSg3 : Sg w V3 q b n ao k xo xj l X5 X6 X8 := HS3.out.over (VB := V2) (E := a3.heap.size) HSg2.out.ow (Nat.le_trans HB2.out.size hsz) (fun g cs t fr hg ht => by
    have hl := (Array.getElem?_eq_some_iff.1 hg).1
    have n6 : g ≠ X6 := fun e => by
      obtain ⟨_, _, _, e9⟩ := HSg2.out.h6
      rw [e, e9] at hg
      simp only [Option.some.injEq, Obj.cells.injEq] at hg
      exact ht hg.2.1.symm
    have n8 : g ≠ X8 := fun e => by
      obtain ⟨_, _, _, e9⟩ := HSg2.out.h8
      rw [e, e9] at hg
      simp only [Option.some.injEq, Obj.cells.injEq] at hg
      exact ht hg.2.1.symm
    have h2 := HB2.out.size
    rw [setRow_other _ _ _ _ n8, HB3.out.block g (by simp [World.setRow]; omega), setRow_other _ _ _ _ n6]
    exact HB2.out.block g hl) x3 (.inl (by omega)) (.inl hV2) hold hbl
  have hV3 : X8 < V3.heap.size := by
    have h1 := hbl.size
    have h2 := HB2.out.size
    omega
  have HSg3 := hide hSg3
  clear hSg3 hold hbl hkp hsz x0 x1 x2 x3 y0 y1 y2 y3 z0 z1 z2 z3 u0 u1 u2 u3 HB2 HB3 HO2 HO3 HE6 HE8 HS2 HS3 P3 E3 S3 HSg2 hl8
  obtain ⟨x0, x1, x2, x3⟩ := def_cells HSg3.out.h5
  go_wp2_with (first
    | (go_at_call 12; refine (P4.out _ HSg3.out.bel xo xj (HCX.out _ _ xo xj HSg3.out.ow)).mono ?_; rintro e a4 ⟨po4, pj4, rfl, hO2, hb2⟩; have HO2 := hide hO2; have HB2 := hide hb2; obtain ⟨c60, c61, c62, e6⟩ := (HSg3.out.below hb2).h6; have HE6 := hide e6; have HS2 := hide ((HSg3.out.below hb2).set6 (.int .i64 q4) (.int .i64 b4) (.slice po4 n4 pj4)); have hw0 := HS2.out.h0; obtain ⟨y0, y1, y2, y3⟩ := def_cells hw0; clear hO2 hb2 e6 hw0)
    | (go_at_call 13; refine (E4.out _ HS2.out.bel).mono ?_; rintro e d4 ⟨do4, dj4, rfl, hO3, hb3⟩; have HO3 := hide hO3; have HB3 := hide hb3; obtain ⟨c80, c81, c82, e8⟩ := (HS2.out.below hb3).h8; have HE8 := hide e8; have HS3 := hide ((HS2.out.below hb3).set8 (.int .i64 q4) (.int .i64 b4) (.slice do4 n4 dj4)); have m6 : (d4.setRow X8 #[.int .i64 q4, .int .i64 b4, .slice do4 n4 dj4]).heap[X6]? = some (.cells #[.int .i64 q4, .int .i64 b4, .slice po4 n4 pj4] 24 (0, 0)) := (setRow_other _ _ _ _ (by have := HS2.out.l8; omega)).trans ((hb3.block _ (Array.getElem?_eq_some_iff.1 (setRow_heap a4 X6 _ #[.int .i64 q4, .int .i64 b4, .slice po4 n4 pj4] _ _ HE6.out)).1).trans (setRow_heap _ _ _ _ _ _ HE6.out)); obtain ⟨z0, z1, z2, z3⟩ := def_cells m6; have m8 : (d4.setRow X8 #[.int .i64 q4, .int .i64 b4, .slice do4 n4 dj4]).heap[X8]? = some (.cells #[.int .i64 q4, .int .i64 b4, .slice do4 n4 dj4] 24 (0, 0)) := setRow_heap _ _ _ _ _ _ e8; obtain ⟨u0, u1, u2, u3⟩ := def_cells m8; clear hO3 hb3 e8 m6 m8)
    | refine wpList_store_row rfl _ _ _ rfl X6 _ rfl rfl _ _ HE6.out (by exact infoCi) (by rfl) (by simp [Value.oneCell']) ?_
    | refine wpList_store_row rfl _ _ _ rfl X8 _ rfl rfl _ _ HE8.out (by exact infoCi) (by rfl) (by simp [Value.oneCell']) ?_)
  have hl8 := HSg3.out.l8
  have hkp : ∀ g, V3.heap.size <= g -> g < a4.heap.size -> (d4.setRow X8 #[.int .i64 q4, .int .i64 b4, .slice do4 n4 dj4]).heap[g]? = a4.heap[g]? := fun g h1 h2 => by
    rw [setRow_other _ _ _ _ (by omega), HB3.out.block g (by simp [World.setRow]; omega), setRow_other _ _ _ _ (by omega)]
  have hsz : a4.heap.size <= (d4.setRow X8 #[.int .i64 q4, .int .i64 b4, .slice do4 n4 dj4]).heap.size := by
    have h1 := HB3.out.size
    simp [World.setRow] at h1 ⊢
    omega
  refine Calls.mono (S4.out a4 (d4.setRow X8 #[.int .i64 q4, .int .i64 b4, .slice do4 n4 dj4]) V3.heap.size HB2.out.size po4 pj4 do4 dj4 _ HO2.out hkp hsz (HO3.out.row17 HE8.out (by decide) (by decide) _)) ?_
  rintro e V4 ⟨rfl, hold, hbl⟩
  have hSg4 : Sg w V4 q b n ao k xo xj l X5 X6 X8 := HS3.out.over (VB := V3) (E := a4.heap.size) HSg3.out.ow (Nat.le_trans HB2.out.size hsz) (fun g cs t fr hg ht => by
    have hl := (Array.getElem?_eq_some_iff.1 hg).1
    have n6 : g ≠ X6 := fun e => by
      obtain ⟨_, _, _, e9⟩ := HSg3.out.h6
      rw [e, e9] at hg
      simp only [Option.some.injEq, Obj.cells.injEq] at hg
      exact ht hg.2.1.symm
    have n8 : g ≠ X8 := fun e => by
      obtain ⟨_, _, _, e9⟩ := HSg3.out.h8
      rw [e, e9] at hg
      simp only [Option.some.injEq, Obj.cells.injEq] at hg
      exact ht hg.2.1.symm
    have h2 := HB2.out.size
    rw [setRow_other _ _ _ _ n8, HB3.out.block g (by simp [World.setRow]; omega), setRow_other _ _ _ _ n6]
    exact HB2.out.block g hl) x3 (.inl (by omega)) (.inl hV3) hold hbl
  have hV4 : X8 < V4.heap.size := by
    have h1 := hbl.size
    have h2 := HB2.out.size
    omega
  have HSg4 := hide hSg4
  clear hSg4 hold hbl hkp hsz x0 x1 x2 x3 y0 y1 y2 y3 z0 z1 z2 z3 u0 u1 u2 u3 HB2 HB3 HO2 HO3 HE6 HE8 HS2 HS3 P4 E4 S4 HSg3 hl8
  obtain ⟨x0, x1, x2, x3⟩ := def_cells HSg4.out.h5
  go_wp2_with (first
    | (go_at_call 14; refine (P5.out _ HSg4.out.bel xo xj (HCX.out _ _ xo xj HSg4.out.ow)).mono ?_; rintro e a5 ⟨po5, pj5, rfl, hO2, hb2⟩; have HO2 := hide hO2; have HB2 := hide hb2; obtain ⟨c60, c61, c62, e6⟩ := (HSg4.out.below hb2).h6; have HE6 := hide e6; have HS2 := hide ((HSg4.out.below hb2).set6 (.int .i64 q5) (.int .i64 b5) (.slice po5 n5 pj5)); have hw0 := HS2.out.h0; obtain ⟨y0, y1, y2, y3⟩ := def_cells hw0; clear hO2 hb2 e6 hw0)
    | (go_at_call 15; refine (E5.out _ HS2.out.bel).mono ?_; rintro e d5 ⟨do5, dj5, rfl, hO3, hb3⟩; have HO3 := hide hO3; have HB3 := hide hb3; obtain ⟨c80, c81, c82, e8⟩ := (HS2.out.below hb3).h8; have HE8 := hide e8; have HS3 := hide ((HS2.out.below hb3).set8 (.int .i64 q5) (.int .i64 b5) (.slice do5 n5 dj5)); have m6 : (d5.setRow X8 #[.int .i64 q5, .int .i64 b5, .slice do5 n5 dj5]).heap[X6]? = some (.cells #[.int .i64 q5, .int .i64 b5, .slice po5 n5 pj5] 24 (0, 0)) := (setRow_other _ _ _ _ (by have := HS2.out.l8; omega)).trans ((hb3.block _ (Array.getElem?_eq_some_iff.1 (setRow_heap a5 X6 _ #[.int .i64 q5, .int .i64 b5, .slice po5 n5 pj5] _ _ HE6.out)).1).trans (setRow_heap _ _ _ _ _ _ HE6.out)); obtain ⟨z0, z1, z2, z3⟩ := def_cells m6; have m8 : (d5.setRow X8 #[.int .i64 q5, .int .i64 b5, .slice do5 n5 dj5]).heap[X8]? = some (.cells #[.int .i64 q5, .int .i64 b5, .slice do5 n5 dj5] 24 (0, 0)) := setRow_heap _ _ _ _ _ _ e8; obtain ⟨u0, u1, u2, u3⟩ := def_cells m8; clear hO3 hb3 e8 m6 m8)
    | refine wpList_store_row rfl _ _ _ rfl X6 _ rfl rfl _ _ HE6.out (by exact infoCi) (by rfl) (by simp [Value.oneCell']) ?_
    | refine wpList_store_row rfl _ _ _ rfl X8 _ rfl rfl _ _ HE8.out (by exact infoCi) (by rfl) (by simp [Value.oneCell']) ?_)
  have hl8 := HSg4.out.l8
  have hkp : ∀ g, V4.heap.size <= g -> g < a5.heap.size -> (d5.setRow X8 #[.int .i64 q5, .int .i64 b5, .slice do5 n5 dj5]).heap[g]? = a5.heap[g]? := fun g h1 h2 => by
    rw [setRow_other _ _ _ _ (by omega), HB3.out.block g (by simp [World.setRow]; omega), setRow_other _ _ _ _ (by omega)]
  have hsz : a5.heap.size <= (d5.setRow X8 #[.int .i64 q5, .int .i64 b5, .slice do5 n5 dj5]).heap.size := by
    have h1 := HB3.out.size
    simp [World.setRow] at h1 ⊢
    omega
  refine Calls.mono (S5.out a5 (d5.setRow X8 #[.int .i64 q5, .int .i64 b5, .slice do5 n5 dj5]) V4.heap.size HB2.out.size po5 pj5 do5 dj5 _ HO2.out hkp hsz (HO3.out.row17 HE8.out (by decide) (by decide) _)) ?_
  rintro e V5 ⟨rfl, hold, hbl⟩
  have hSg5 : Sg w V5 q b n ao k xo xj l X5 X6 X8 := HS3.out.over (VB := V4) (E := a5.heap.size) HSg4.out.ow (Nat.le_trans HB2.out.size hsz) (fun g cs t fr hg ht => by
    have hl := (Array.getElem?_eq_some_iff.1 hg).1
    have n6 : g ≠ X6 := fun e => by
      obtain ⟨_, _, _, e9⟩ := HSg4.out.h6
      rw [e, e9] at hg
      simp only [Option.some.injEq, Obj.cells.injEq] at hg
      exact ht hg.2.1.symm
    have n8 : g ≠ X8 := fun e => by
      obtain ⟨_, _, _, e9⟩ := HSg4.out.h8
      rw [e, e9] at hg
      simp only [Option.some.injEq, Obj.cells.injEq] at hg
      exact ht hg.2.1.symm
    have h2 := HB2.out.size
    rw [setRow_other _ _ _ _ n8, HB3.out.block g (by simp [World.setRow]; omega), setRow_other _ _ _ _ n6]
    exact HB2.out.block g hl) x3 (.inl (by omega)) (.inl hV4) hold hbl
  have hV5 : X8 < V5.heap.size := by
    have h1 := hbl.size
    have h2 := HB2.out.size
    omega
  have HSg5 := hide hSg5
  clear hSg5 hold hbl hkp hsz x0 x1 x2 x3 y0 y1 y2 y3 z0 z1 z2 z3 u0 u1 u2 u3 HB2 HB3 HO2 HO3 HE6 HE8 HS2 HS3 P5 E5 S5 HSg4 hl8
  obtain ⟨x0, x1, x2, x3⟩ := def_cells HSg5.out.h5
  obtain ⟨y0, y1, y2, y3⟩ := def_cells HSg5.out.h0
  go_wp2_with (first
    | (go_at_call 16; refine (HSM.out _ HSg5.out.bel xo xj (HCX.out _ _ xo xj HSg5.out.ow)).mono ?_; rintro e w7 ⟨rfl, hb7⟩; have HB7 := hide (HSg5.out.bel.trans (hb7.mono HSg5.out.bel.size)); clear hb7)
    | (go_at_call 17; refine (HHD.out _ HB7.out).mono ?_; rintro e w8 ⟨rfl, hb8⟩; have HB8 := hide (HB7.out.trans (hb8.mono HB7.out.size)); clear hb8))
  go_ret
  exact ⟨rfl, HB8.out⟩
end Go.Proofs.YtmkalhaegbnknaaDoor.Cir
