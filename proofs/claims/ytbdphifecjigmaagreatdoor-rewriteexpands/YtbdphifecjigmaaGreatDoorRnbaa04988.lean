import Derived.Test.YtbdphifecjigmaaGreatDoorRn9cb5dc08
namespace Go.Proofs.YtbdphifecjigmaaGreatDoor.Cir
end Go.Proofs.YtbdphifecjigmaaGreatDoor.Cir
namespace Go.Proofs.YtbdphifecjigmaaGreatDoor.Gt
end Go.Proofs.YtbdphifecjigmaaGreatDoor.Gt
namespace Go.Proofs.YtbdphifecjigmaaGreatDoor.Oct
end Go.Proofs.YtbdphifecjigmaaGreatDoor.Oct
namespace Go.Proofs.YtbdphifecjigmaaGreatDoor.Tok
end Go.Proofs.YtbdphifecjigmaaGreatDoor.Tok
set_option maxRecDepth 100000
set_option maxHeartbeats 2000000
namespace Go.Proofs.YtbdphifecjigmaaGreatDoor.Rwt
open Go.RowKit Go.Shelf Go.Proofs.YtbdphifecjigmaaGreatDoor.Oct Go.Proofs.YtbdphifecjigmaaGreatDoor.Tok Go.Proofs.YtbdphifecjigmaaGreatDoor.Gt Go.Proofs.YtbdphifecjigmaaGreatDoor.Cir
theorem opse_below {w w' : World} {B E : Nat} {ao : Option Addr} {n c : Nat} {l : List COp} (h : OpsE w B E ao n c l) (hb : Below w.heap.size w w') : OpsE w' B E ao n c l := by
  obtain ⟨xs, h1, h2, h3, h4, h5, h6⟩ := h
  exact ⟨xs, h1, h2, own_of_block h3 (fun k hk => hb.block k (own_lt h3 k hk).2), fun x hx => (h4 x hx).below hb, h5, h6⟩
theorem bel_own {w V V' : World} {n c : Nat} {ao : Option Addr} {l : List COp} (hb : Below w.heap.size w V) (h : OpsOwn V w.heap.size ao n c l) (hg : V.grownBy V' (ob ao)) : Below w.heap.size w V' := by
  obtain ⟨xs, h1, h2, h3, h4, h5⟩ := h
  exact hb.grown hg hb.size (fun k hk => (own_lt h3 k hk).1)
theorem dW15 (t u : Int) (g off cq : Nat) (w : World) (x0 : w.cell? ⟨g, off, none⟩ = some (.int .i64 t)) (x1 : w.cell? ⟨g, off + 1, none⟩ = some (.int .i64 u)) : Calls Tryz.prog 14 #[.int .i64 15, .slice (some ⟨g, off, none⟩) 2 cq] w (WPost w [(5, [t]), (5, [u]), (9, [u]), (11, [t, u]), (10, [u]), (11, [t, u]), (11, [u, t]), (11, [t, u])]) := by
  have hgl : g < w.heap.size := World.block_lt_of_cell? _ _ x0
  have HO0 : Hid (Os w w.heap.size []) := hide (Os.nil _ _)
  have HB0 : Hid (Below w.heap.size w w) := hide (Below.refl _ _)
  have HC13 : Hid (∀ V, Below w.heap.size w V -> Calls Tryz.prog 14 #[.int .i64 13, .slice (some ⟨g, off, none⟩) 2 cq] V (WPost V [(9, [u]), (11, [t, u]), (10, [u])])) := hide (fun V h => dW13 t u g off cq V ((h.cell (p := ⟨g, off, none⟩) hgl).trans x0) ((h.cell (p := ⟨g, off + 1, none⟩) hgl).trans x1))
  have HC14 : Hid (∀ V, Below w.heap.size w V -> Calls Tryz.prog 14 #[.int .i64 14, .slice (some ⟨g, off, none⟩) 2 cq] V (WPost V [(11, [t, u]), (11, [u, t]), (11, [t, u])])) := hide (fun V h => dW14 t u g off cq V ((h.cell (p := ⟨g, off, none⟩) hgl).trans x0) ((h.cell (p := ⟨g, off + 1, none⟩) hgl).trans x1))
  have c0 := fun (V : World) => dOne 5 (some ⟨V.heap.size, 0, none⟩) 1 [t] (by simp) (by simp) (V.alloc (.cells #[.int .i64 t] 3)) (ns1 V t)
  have c1 := fun (V : World) => dOne 5 (some ⟨V.heap.size, 0, none⟩) 1 [u] (by simp) (by simp) (V.alloc (.cells #[.int .i64 u] 3)) (ns1 V u)
  unfold WPost at *
  simp only [List.length_cons, List.length_nil, Nat.zero_add, Nat.reduceAdd] at c0 c1 HC13 HC14 ⊢
  go_enter Tryz.func14, Tryz.ntmps14
  go_wp2_with (first
    | (go_at_call 30; refine (c0 w).mono ?_; rintro e w1 ⟨a1, d1, rfl, hr1, hb1⟩; have HO1 := hide (HO0.out.snoc (bkp (bnew w (.cells #[.int .i64 t] 3)) hb1) HB0.out.size ⟨1, 5, [t], 0, -1, 0⟩ (.slice a1 1 d1) (hr1.base (by simp))); have HB1 := hide (bkp HB0.out (bkp (bnew w (.cells #[.int .i64 t] 3)) hb1)); clear hr1 hb1 HO0 HB0 c0)
    | (go_at_call 30; refine (c1 w1).mono ?_; rintro e w2 ⟨a2, d2, rfl, hr2, hb2⟩; have HO2 := hide (HO1.out.snoc (bkp (bnew w1 (.cells #[.int .i64 u] 3)) hb2) HB1.out.size ⟨1, 5, [u], 0, -1, 0⟩ (.slice a2 1 d2) (hr2.base (by simp))); have HB2 := hide (bkp HB1.out (bkp (bnew w1 (.cells #[.int .i64 u] 3)) hb2)); have HL3 := hide ((HO2.out.own HB2.out.size (by simp [maxLen])).upto); have HB3 := hide (bkp HB2.out (bnew w2 (.cells #[.int .i64 1, .int .i64 5, .slice a1 1 d1, .int .i64 0, .int .i64 (-1), .int .i64 0, .int .i64 1, .int .i64 5, .slice a2 1 d2, .int .i64 0, .int .i64 (-1), .int .i64 0] 40))); clear hr2 hb2 HO1 HB1 HO2 c1)
    | (go_at_call 14; refine (HC13.out _ HB3.out).mono ?_; rintro e w4 ⟨a4, d4, rfl, ho4, hb4⟩; have HL4 := hide (opse_below HL3.out hb4); have HO4 := hide ho4; have HB4 := hide (bkp HB3.out hb4); have hz4 := hb4.size; clear ho4 hb4 HL3)
    | (at_builtin; refine list_app_opsE rfl _ _ rfl (by rfl) (by rfl) HL4.out HO4.out HB3.out.size hz4 (by simp) ?_; intro a5 d5 w5 ho5 hg5; have HL5 := hide ho5.upto; have HB5 := hide (bel_own HB4.out (HL4.out.own) hg5); clear ho5 hg5 HL4 HO4 HB3 HB4 hz4)
    | (go_at_call 14; refine (HC14.out _ HB5.out).mono ?_; rintro e w6 ⟨a6, d6, rfl, ho6, hb6⟩; have HL6 := hide (opse_below HL5.out hb6); have HO6 := hide ho6; have HB6 := hide (bkp HB5.out hb6); have hz6 := hb6.size; clear ho6 hb6 HL5)
    | (at_builtin; refine list_app_opsE rfl _ _ rfl (by rfl) (by rfl) HL6.out HO6.out HB5.out.size hz6 (by simp) ?_; intro a7 d7 w7 ho7 hg7; have HO7 := hide ho7; have HB7 := hide (bel_own HB6.out (HL6.out.own) hg7); clear ho7 hg7 HL6 HO6 HB5 HB6 hz6))
  go_ret
  exact ⟨_, _, rfl, HO7.out, HB7.out⟩
theorem dW16 (t u : Int) (g off cq : Nat) (w : World) (x0 : w.cell? ⟨g, off, none⟩ = some (.int .i64 t)) (x1 : w.cell? ⟨g, off + 1, none⟩ = some (.int .i64 u)) : Calls Tryz.prog 14 #[.int .i64 16, .slice (some ⟨g, off, none⟩) 2 cq] w (WPost w [(11, [t, u]), (11, [u, t]), (11, [t, u]), (9, [u]), (11, [t, u]), (10, [u]), (6, [t]), (6, [u])]) := by
  have hgl : g < w.heap.size := World.block_lt_of_cell? _ _ x0
  have HO0 : Hid (Os w w.heap.size []) := hide (Os.nil _ _)
  have HB0 : Hid (Below w.heap.size w w) := hide (Below.refl _ _)
  have HC13 : Hid (∀ V, Below w.heap.size w V -> Calls Tryz.prog 14 #[.int .i64 13, .slice (some ⟨g, off, none⟩) 2 cq] V (WPost V [(9, [u]), (11, [t, u]), (10, [u])])) := hide (fun V h => dW13 t u g off cq V ((h.cell (p := ⟨g, off, none⟩) hgl).trans x0) ((h.cell (p := ⟨g, off + 1, none⟩) hgl).trans x1))
  have HC14 : Hid (∀ V, Below w.heap.size w V -> Calls Tryz.prog 14 #[.int .i64 14, .slice (some ⟨g, off, none⟩) 2 cq] V (WPost V [(11, [t, u]), (11, [u, t]), (11, [t, u])])) := hide (fun V h => dW14 t u g off cq V ((h.cell (p := ⟨g, off, none⟩) hgl).trans x0) ((h.cell (p := ⟨g, off + 1, none⟩) hgl).trans x1))
  have c0 := fun (V : World) => dOne 6 (some ⟨V.heap.size, 0, none⟩) 1 [t] (by simp) (by simp) (V.alloc (.cells #[.int .i64 t] 3)) (ns1 V t)
  have c1 := fun (V : World) => dOne 6 (some ⟨V.heap.size, 0, none⟩) 1 [u] (by simp) (by simp) (V.alloc (.cells #[.int .i64 u] 3)) (ns1 V u)
  unfold WPost at *
  simp only [List.length_cons, List.length_nil, Nat.zero_add, Nat.reduceAdd] at c0 c1 HC13 HC14 ⊢
  clear HO0
  go_enter Tryz.func14, Tryz.ntmps14
  go_wp2_with (first
    | (go_at_call 14; refine (HC14.out _ HB0.out).mono ?_; rintro e w3 ⟨a3, d3, rfl, ho3, hb3⟩; have HL3 := hide ho3.upto; have HB3 := hide (bkp HB0.out hb3); clear ho3 hb3 HB0)
    | (go_at_call 14; refine (HC13.out _ HB3.out).mono ?_; rintro e w4 ⟨a4, d4, rfl, ho4, hb4⟩; have HL4 := hide (opse_below HL3.out hb4); have HO4 := hide ho4; have HB4 := hide (bkp HB3.out hb4); have hz4 := hb4.size; clear ho4 hb4 HL3)
    | (at_builtin; refine list_app_opsE rfl _ _ rfl (by rfl) (by rfl) HL4.out HO4.out HB3.out.size hz4 (by simp) ?_; intro a5 d5 w5 ho5 hg5; have HL5 := hide ho5.upto; have HB5 := hide (bel_own HB4.out (HL4.out.own) hg5); have HO5 := hide (Os.nil w5 w5.heap.size); have hs5 := Nat.le_refl w5.heap.size; clear ho5 hg5 HL4 HO4 HB3 HB4 hz4)
    | (go_at_call 30; refine (c0 w5).mono ?_; rintro e w6 ⟨a6, d6, rfl, hr6, hb6⟩; have HO6 := hide (HO5.out.snoc (bkp (bnew w5 (.cells #[.int .i64 t] 3)) hb6) (Nat.le_refl _) ⟨1, 6, [t], 0, -1, 0⟩ (.slice a6 1 d6) (hr6.base (by simp))); have HB6 := hide (bkp (bnew w5 (.cells #[.int .i64 t] 3)) hb6); clear hr6 hb6 HO5 c0)
    | (go_at_call 30; refine (c1 w6).mono ?_; rintro e w7 ⟨a7, d7, rfl, hr7, hb7⟩; have HO7 := hide (HO6.out.snoc (bkp (bnew w6 (.cells #[.int .i64 u] 3)) hb7) HB6.out.size ⟨1, 6, [u], 0, -1, 0⟩ (.slice a7 1 d7) (hr7.base (by simp))); have HB7 := hide (bkp HB6.out (bkp (bnew w6 (.cells #[.int .i64 u] 3)) hb7)); have HO8 := hide (HO7.out.own HB7.out.size (by simp [maxLen])); have HB8 := hide (bkp HB7.out (bnew w7 (.cells #[.int .i64 1, .int .i64 6, .slice a6 1 d6, .int .i64 0, .int .i64 (-1), .int .i64 0, .int .i64 1, .int .i64 6, .slice a7 1 d7, .int .i64 0, .int .i64 (-1), .int .i64 0] 40))); have HL8 := hide (opse_below HL5.out HB8.out); have hz8 := HB8.out.size; have HC8 := hide (bkp HB5.out HB8.out); clear hr7 hb7 HO6 HB6 HO7 HB7 HL5 c1)
    | (at_builtin; refine list_app_opsE rfl _ _ rfl (by rfl) (by rfl) HL8.out HO8.out HB5.out.size hz8 (by simp) ?_; intro a9 d9 w9 ho9 hg9; have HO9 := hide ho9; have HB9 := hide (bel_own HC8.out (HL8.out.own) hg9)))
  go_ret
  exact ⟨_, _, rfl, HO9.out, HB9.out⟩
theorem rw_ar : ∀ k : Fin 21, 1 <= k.1 -> 1 <= (rw' (k.1 : Int)).q /\ (rw' (k.1 : Int)).q <= 3 /\ (12 <= k.1 /\ k.1 <= 17 -> (rw' (k.1 : Int)).q = 2) /\ (k.1 = 19 ∨ k.1 = 20 -> (rw' (k.1 : Int)).q = 3) := by decide +kernel
theorem may_len {q b : Int} {o : COp} (h : mayP q b o = true) (h1 : o.kind = 1) : o.bit = 0 /\ 1 <= o.qs.length /\ o.qs.length <= 3 /\ (12 <= o.gate /\ o.gate <= 17 -> o.qs.length = 2) /\ (o.gate = 19 ∨ o.gate = 20 -> o.qs.length = 3) := by
  unfold mayP at h
  rw [if_pos h1, Bool.and_eq_true, Bool.and_eq_true, decide_eq_true_eq, decide_eq_true_eq] at h
  refine ⟨h.1.2, ?_⟩
  have hc := h.1.1
  unfold chkP at hc
  split at hc
  . cases hc
  rename_i hk
  split at hc
  . cases hc
  rename_i ha
  have ha' : apP (rw' o.gate).q o.qs = true := by simpa using ha
  unfold apP at ha'
  rw [Bool.and_eq_true, decide_eq_true_eq] at ha'
  have hl := ha'.1
  have hk' : 0 < (rw' o.gate).q := by
    have : knB (rw' o.gate) = true := by simpa using hk
    exact of_decide_eq_true this
  have hg : 1 <= o.gate /\ o.gate <= 20 := by
    by_cases hr : 0 <= o.gate /\ o.gate < 21
    . refine ⟨?_, by omega⟩
      by_cases h0 : o.gate = 0
      . rw [h0] at hk'
        exact absurd hk' (by decide)
      . omega
    . exfalso
      unfold rw' at hk'
      rw [if_neg hr] at hk'
      exact absurd hk' (by decide)
  have ht := rw_ar ⟨o.gate.toNat, by omega⟩ (by simp only; omega)
  simp only [show ((o.gate.toNat : Nat) : Int) = o.gate by omega] at ht
  obtain ⟨t1, t2, t3, t4⟩ := ht
  exact ⟨by omega, by omega, fun hh => by have := t3 (by omega); omega, fun hh => by have := t4 (by omega); omega⟩
theorem ns_cells {w : World} {ao : Option Addr} {l : List Int} (h : Ns w ao l) (h0 : l ≠ []) : ∃ g off, ao = some ⟨g, off, none⟩ /\ ∀ (j : Nat) z, l[j]? = some z -> w.cell? ⟨g, off + j, none⟩ = some (.int .i64 z) := h.resolve_left h0
theorem dWritten {q b : Int} {o : COp} (h : mayP q b o = true) (h1 : o.kind = 1) (aq : Option Addr) (cq : Nat) (w : World) (hN : Ns w aq o.qs) : Calls Tryz.prog 14 #[.int .i64 o.gate, .slice aq o.qs.length cq] w (WPost w (exP o.gate o.qs)) := by
  obtain ⟨-, l1, l3, l2, l33⟩ := may_len h h1
  obtain ⟨kind, gate, qs, bit, cond, whn⟩ := o
  simp only at *
  clear h h1
  have hne : qs ≠ [] := fun e => by rw [e] at l1; simp at l1
  obtain ⟨g, off, rfl, hc⟩ := ns_cells hN hne
  have two : 12 <= gate /\ gate <= 17 -> ∃ t u, qs = [t, u] := fun hh => by
    have := l2 hh
    match qs, this with
    | [t, u], _ => exact ⟨t, u, rfl⟩
  have three : gate = 19 ∨ gate = 20 -> ∃ t u v, qs = [t, u, v] := fun hh => by
    have := l33 hh
    match qs, this with
    | [t, u, v], _ => exact ⟨t, u, v, rfl⟩
  by_cases e12 : gate = 12
  . obtain ⟨t, u, rfl⟩ := two (by omega)
    subst e12
    exact dW12 t u g off cq w (hc 0 _ rfl) (hc 1 _ rfl)
  by_cases e13 : gate = 13
  . obtain ⟨t, u, rfl⟩ := two (by omega)
    subst e13
    exact dW13 t u g off cq w (hc 0 _ rfl) (hc 1 _ rfl)
  by_cases e14 : gate = 14
  . obtain ⟨t, u, rfl⟩ := two (by omega)
    subst e14
    exact dW14 t u g off cq w (hc 0 _ rfl) (hc 1 _ rfl)
  by_cases e15 : gate = 15
  . obtain ⟨t, u, rfl⟩ := two (by omega)
    subst e15
    exact dW15 t u g off cq w (hc 0 _ rfl) (hc 1 _ rfl)
  by_cases e16 : gate = 16
  . obtain ⟨t, u, rfl⟩ := two (by omega)
    subst e16
    exact dW16 t u g off cq w (hc 0 _ rfl) (hc 1 _ rfl)
  by_cases e17 : gate = 17
  . obtain ⟨t, u, rfl⟩ := two (by omega)
    subst e17
    exact dW17 t u g off cq w (hc 0 _ rfl) (hc 1 _ rfl)
  by_cases e19 : gate = 19
  . obtain ⟨t, u, v, rfl⟩ := three (by omega)
    subst e19
    exact dW19 t u v g off cq w (hc 0 _ rfl) (hc 1 _ rfl) (hc 2 _ rfl)
  by_cases e20 : gate = 20
  . obtain ⟨t, u, v, rfl⟩ := three (by omega)
    subst e20
    exact dW20 t u v g off cq w (hc 0 _ rfl) (hc 1 _ rfl) (hc 2 _ rfl)
  have hx : exP gate qs = [(gate, qs)] := by
    unfold exP
    rw [if_neg e12, if_neg e13, if_neg e14, if_neg e15, if_neg e16, if_neg e17, if_neg e19, if_neg e20]
  have n12 : (gate == 12) = false := beq_eq_false_iff_ne.2 e12
  have n13 : (gate == 13) = false := beq_eq_false_iff_ne.2 e13
  have n14 : (gate == 14) = false := beq_eq_false_iff_ne.2 e14
  have n15 : (gate == 15) = false := beq_eq_false_iff_ne.2 e15
  have n16 : (gate == 16) = false := beq_eq_false_iff_ne.2 e16
  have n17 : (gate == 17) = false := beq_eq_false_iff_ne.2 e17
  have n19 : (gate == 19) = false := beq_eq_false_iff_ne.2 e19
  have n20 : (gate == 20) = false := beq_eq_false_iff_ne.2 e20
  rw [hx]
  match qs, hc, l1, l3 with
  | [t], hc, _, _ => exact dWd1 t gate n14 n15 n16 n12 n13 n17 n19 n20 g off cq w (hc 0 _ rfl)
  | [t, u], hc, _, _ => exact dWd2 t u gate n14 n15 n16 n12 n13 n17 n19 n20 g off cq w (hc 0 _ rfl) (hc 1 _ rfl)
  | [t, u, v], hc, _, _ => exact dWd3 t u v gate n14 n15 n16 n12 n13 n17 n19 n20 g off cq w (hc 0 _ rfl) (hc 1 _ rfl) (hc 2 _ rfl)
theorem opsown_whn {w : World} {B g n c : Nat} {l : List COp} (h : OpsOwn w B (some ⟨g, 0, none⟩) n c l) {i : Nat} {o : COp} (hi : l[i]? = some o) : w.cell? ⟨g, i * 6 + 5, none⟩ = some (.int .i64 o.whn) /\ ∀ v, OpsOwn (w.setCell ⟨g, i * 6 + 5, none⟩ (.int .i64 v)) B (some ⟨g, 0, none⟩) n c (l.set i { o with whn := v }) := by
  obtain ⟨xs, h1, h2, h3, h4, h5⟩ := h
  rw [h2, List.getElem?_map] at hi
  obtain ⟨x, hx, rfl⟩ := Option.map_eq_some_iff.1 hi
  obtain ⟨gcs, gfr, hgc⟩ := own_cells' h3 (k := g) rfl
  refine ⟨own_at h3 _ _ (opC_at xs i x hx 5 _ rfl), fun v => ?_⟩
  refine ⟨xs.set i ({ x.1 with whn := v }, x.2), by rw [List.length_set]; exact h1, by rw [h2, List.map_set], ?_, fun y hy => ?_, h5.set hx _⟩
  . rw [← flat_set xs i x ({ x.1 with whn := v }, x.2) 5 (.int .i64 v) hx (by decide) rfl]
    exact own_set h3 _ _
  . have hk : ∀ (b : Nat) (cs : Array Value) (fr : Nat × Nat), w.heap[b]? = some (Obj.cells cs 3 fr) -> (w.setCell ⟨g, i * 6 + 5, none⟩ (.int .i64 v)).heap[b]? = w.heap[b]? := fun b cs fr hb => Below.heap_setCell _ _ _ _ (fun e => by
      have e' : b = g := e
      rw [e', hgc] at hb
      simp at hb)
    rcases mem_set hy with rfl | ⟨j', -, hj'⟩
    . exact (h4 x (List.mem_of_getElem? hx)).block hk
    . exact (h4 y (List.mem_of_getElem? hj')).block hk
def cnd (o : COp) (l : List COp) (i : Nat) : List COp := (l.take i).map (fun x => { x with cond := o.cond, whn := o.whn }) ++ l.drop i
theorem cnd_zero (o : COp) (l : List COp) : cnd o l 0 = l := by simp [cnd]
theorem cnd_all (o : COp) (l : List COp) : cnd o l l.length = l.map (fun x => { x with cond := o.cond, whn := o.whn }) := by simp [cnd]
theorem cnd_len (o : COp) (l : List COp) (i : Nat) : (cnd o l i).length = l.length := by
  unfold cnd
  rw [List.length_append, List.length_map, ← List.length_append, List.take_append_drop]
theorem cnd_at (o : COp) (l : List COp) (i : Nat) (h : i < l.length) : (cnd o l i)[i]? = some l[i] := by
  unfold cnd
  rw [List.getElem?_append_right (by simp; omega)]
  simp [Nat.min_eq_left (Nat.le_of_lt h)]
theorem cnd_succ (o : COp) (l : List COp) (i : Nat) (h : i < l.length) : (cnd o l i).set i { l[i] with cond := o.cond, whn := o.whn } = cnd o l (i + 1) := by
  apply List.ext_getElem?
  intro j
  rcases Nat.lt_trichotomy j i with hj | hj | hj
  . rw [List.getElem?_set_ne (by omega)]
    unfold cnd
    rw [List.getElem?_append_left (by simp; omega), List.getElem?_append_left (by simp; omega)]
    simp [hj, Nat.lt_succ_of_lt hj]
  . subst hj
    rw [List.getElem?_set_self (by rw [cnd_len]; exact h)]
    unfold cnd
    rw [List.getElem?_append_left (by simp; omega)]
    simp [List.getElem?_eq_getElem h]
  . rw [List.getElem?_set_ne (by omega)]
    unfold cnd
    rw [List.getElem?_append_right (by simp; omega), List.getElem?_append_right (by simp; omega)]
    simp only [List.length_map, List.length_take, List.getElem?_drop]
    congr 1
    omega
theorem xp_same {q b : Int} {o : COp} (h : mayP q b o = true) (h1 : o.kind = 1) : ((exP o.gate o.qs).map mk18).map (fun x => { x with cond := o.cond, whn := o.whn }) = xpO o := by
  obtain ⟨hb, -⟩ := may_len h h1
  unfold xpO
  rw [List.map_map]
  apply List.map_congr_left
  intro x _
  simp [mk18, lkO, h1, hb]
theorem xp_one {q b : Int} {o : COp} (h : mayP q b o = true) (h1 : o.kind ≠ 1) : [o] = xpO o := by
  have hg : o.gate = 0 := by
    have ng : noGP o = true -> o.gate = 0 := fun h => by
      unfold noGP at h
      rw [Bool.and_eq_true, decide_eq_true_eq] at h
      exact h.1
    unfold mayP at h
    rw [if_neg h1] at h
    split at h
    . rw [Bool.and_eq_true, Bool.and_eq_true, Bool.and_eq_true] at h; exact ng h.1.1.1
    . split at h
      . rw [Bool.and_eq_true, Bool.and_eq_true, Bool.and_eq_true] at h; exact ng h.1.1.1
      . split at h
        . rw [Bool.and_eq_true, Bool.and_eq_true, Bool.and_eq_true] at h; exact ng h.1.1.1
        . cases h
  obtain ⟨kind, gate, qs, bit, cond, whn⟩ := o
  simp only at hg
  subst hg
  rfl
end Go.Proofs.YtbdphifecjigmaaGreatDoor.Rwt
