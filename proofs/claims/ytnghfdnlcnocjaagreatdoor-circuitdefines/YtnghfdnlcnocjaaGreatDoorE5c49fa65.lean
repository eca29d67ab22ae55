import Derived.Test.YtnghfdnlcnocjaaGreatDoorE7e93de7c
set_option maxRecDepth 100000
set_option maxHeartbeats 1000000
namespace Go.Proofs.YtnghfdnlcnocjaaGreatDoor.Cir
open Go.RowKit Go.Shelf Go.Proofs.YtnghfdnlcnocjaaGreatDoor.Oct Go.Proofs.YtnghfdnlcnocjaaGreatDoor.Tok Go.Proofs.YtnghfdnlcnocjaaGreatDoor.Gt
theorem tok_cells {w1 : World} {c : Nat} {x0 x1 x2 x3 x4 x5 : Value} {t : TypeId} (h : w1.heap[c]? = some (.cells #[x0, x1, x2, x3, x4, x5] t (0, 0))) : w1.cell? ⟨c, 0, none⟩ = some x0 /\ w1.cell? ⟨c, 1, none⟩ = some x1 /\ w1.cell? ⟨c, 2, none⟩ = some x2 /\ w1.cell? ⟨c, 3, none⟩ = some x3 /\ w1.cell? ⟨c, 4, none⟩ = some x4 /\ w1.cell? ⟨c, 5, none⟩ = some x5 /\ c < w1.heap.size :=
  ⟨cell_of_row _ _ 0 _ _ _ h, cell_of_row _ _ 1 _ _ _ h, cell_of_row _ _ 2 _ _ _ h, cell_of_row _ _ 3 _ _ _ h, cell_of_row _ _ 4 _ _ _ h, cell_of_row _ _ 5 _ _ _ h, (Array.getElem?_eq_some_iff.1 h).1⟩
theorem def_cells {w1 : World} {c : Nat} {x0 x1 x2 : Value} {t : TypeId} (h : w1.heap[c]? = some (.cells #[x0, x1, x2] t (0, 0))) : w1.cell? ⟨c, 0, none⟩ = some x0 /\ w1.cell? ⟨c, 1, none⟩ = some x1 /\ w1.cell? ⟨c, 2, none⟩ = some x2 /\ c < w1.heap.size :=
  ⟨cell_of_row _ _ 0 _ _ _ h, cell_of_row _ _ 1 _ _ _ h, cell_of_row _ _ 2 _ _ _ h, (Array.getElem?_eq_some_iff.1 h).1⟩
theorem callsP_ok {l : List Ag} {calls : List (List Nat)} (h : callsP l = some calls) : ∃ n, hmP 0 l = some n /\ calls = (List.range n).map fun k => l.map (atP k) := by
  unfold callsP at h
  cases h1 : hmP 0 l with
  | none => rw [h1] at h; cases h
  | some n =>
    rw [h1] at h
    simp only at h
    split at h
    . cases h; exact ⟨n, rfl, rfl⟩
    . cases h
theorem call_keeps {w w2 w4 w5 : World} {R : Nat} {c1 c2 c3 : Array Value} {t1 t2 t3 : TypeId} (hlt : R < w.heap.size) (hb2 : Below ((w.alloc (.cells c1 t1)).alloc (.cells c2 t2)).heap.size ((w.alloc (.cells c1 t1)).alloc (.cells c2 t2)) w2) (hk4 : Kb [R] (w2.alloc (.cells c3 t3)) w4) (hb5 : Below w4.heap.size w4 w5) :
    w5.heap[w.heap.size]? = some (.cells c1 t1 (0, 0)) /\ w5.heap[w.heap.size + 1]? = some (.cells c2 t2 (0, 0)) /\ w5.heap[w2.heap.size]? = some (.cells c3 t3 (0, 0)) /\ w.heap.size + 1 < w2.heap.size /\ w2.heap.size < w5.heap.size := by
  have h1 : ((w.alloc (.cells c1 t1)).alloc (.cells c2 t2)).heap[w.heap.size]? = some (.cells c1 t1 (0, 0)) := (Below.heap_alloc _ _ _ (by simp)).trans (heap_alloc_new _ _)
  have h2 : ((w.alloc (.cells c1 t1)).alloc (.cells c2 t2)).heap[w.heap.size + 1]? = some (.cells c2 t2 (0, 0)) := by
    have := heap_alloc_new (w.alloc (.cells c1 t1)) (.cells c2 t2)
    simpa using this
  have h3 : (w2.alloc (.cells c3 t3)).heap[w2.heap.size]? = some (.cells c3 t3 (0, 0)) := heap_alloc_new _ _
  have z2 := hb2.size
  have z4 := hk4.size
  simp only [World.size_alloc] at z2 z4
  have go : ∀ b o, R < b -> b < w2.heap.size + 1 -> (w2.alloc (.cells c3 t3)).heap[b]? = some o -> w5.heap[b]? = some o := fun b o hb hl h =>
    (hb5.block b (by omega)).trans ((hk4.block b (by simp only [World.size_alloc]; exact hl) (by simp; omega)).trans h)
  refine ⟨go _ _ hlt (by omega) ((Below.heap_alloc _ _ _ (by omega)).trans ((hb2.block _ (by simp only [World.size_alloc]; omega)).trans h1)), go _ _ (by omega) (by omega) ((Below.heap_alloc _ _ _ (by omega)).trans ((hb2.block _ (by simp only [World.size_alloc]; omega)).trans h2)), go _ _ (by omega) (by omega) h3, by omega, by have := hb5.size; omega⟩
theorem cCall_no (w0 : World) (R : Nat) (L : Ly) (B N : Nat) (d : Dc) (ao : Option Addr) (no co : Nat) (ops : List COp) (t : T) (ts : List T) (bit : Int) (whn : Nat) (hTx : t.text.length <= 140737488355328) (w : World) (hD : Rdr w0 w R L B N d) (hR : Rt w R (xOf L d) (.slice ao no co) ts) (hO : OpsAt w w0.heap.size ao no co ops) (hno : ops.length <= 4096) (c' : Nat) (t' : T) (hP : pCall d ops t (bit, whn) ts = .no c' t') :
    Calls Tryz.prog 95 #[.pointer (some ⟨R, 0, none⟩), tkV t, .agg #[.int .i64 bit, .int .i64 (whn : Int)]] w (PC R L d w0.heap.size ao w (.no c' t')) := by
  have hlt := hR.lt
  have eG := erG
  have eN := erN
  have HLN := hide hO.len
  have c4 := fun (V : World) (ts2 : List T) (n : Nat) (hn : no + n <= 4611686018427387904) (hr : Rt V R (xOf L d) (.slice ao no co) ts2) => cRoom R L d ao no co n t ts2 hn V hr
  have HC1 := hide (fun V (h : Below w.heap.size w V) => cCallee R L w0 B N d (.slice ao no co) ts t hTx ts V (hR.below h) (hD.below h))
  have HC2 := hide (fun V (h : Rdr w0 V R L B N d) (hr : Rt V R (xOf L d) (.slice ao no co) ts) => cArgs w0 R L B N d (.slice ao no co) ts V h hr)
  have c3 := fun W => cRefuse 85 t W
  have HRF := hide hR.fine
  unfold pCall at hP
  obtain ⟨kind, text, num, o', line, col⟩ := t
  unfold tkV at HC1 c3 c4 ⊢
  simp only at HC1 c3 c4 ⊢
  have HW1 : Hid (Below w.heap.size w ((w.alloc (.cells #[.int .i64 (kind : Int), .string ⟨text.toArray⟩, .int .i64 (num : Int), .int .i64 (o' : Int), .int .i64 (line : Int), .int .i64 (col : Int)] 100)).alloc (.cells #[.int .i64 bit, .int .i64 (whn : Int)] 160))) := hide ((bnew _ _).trans ((bnew _ _).mono (by simp)))
  have HW2 : Hid (∀ w2, Below ((w.alloc (.cells #[.int .i64 (kind : Int), .string ⟨text.toArray⟩, .int .i64 (num : Int), .int .i64 (o' : Int), .int .i64 (line : Int), .int .i64 (col : Int)] 100)).alloc (.cells #[.int .i64 bit, .int .i64 (whn : Int)] 160)).heap.size ((w.alloc (.cells #[.int .i64 (kind : Int), .string ⟨text.toArray⟩, .int .i64 (num : Int), .int .i64 (o' : Int), .int .i64 (line : Int), .int .i64 (col : Int)] 100)).alloc (.cells #[.int .i64 bit, .int .i64 (whn : Int)] 160)) w2 -> ∀ o2, Rdr w0 (w2.alloc o2) R L B N d /\ Rt (w2.alloc o2) R (xOf L d) (.slice ao no co) ts) := hide (fun w2 h o2 => by
    have hh : Below w.heap.size w (w2.alloc o2) := (HW1.out.trans (h.mono HW1.out.size)).trans ((bnew _ _).mono (Nat.le_trans HW1.out.size h.size))
    exact ⟨hD.below hh, hR.below hh⟩)
  cases h1 : pCallee d ⟨kind, text, num, o', line, col⟩ ts with
  | no c t =>
    rw [h1] at hP HC1
    simp only [Res.no.injEq] at hP
    obtain ⟨rfl, rfl⟩ := hP
    go_enter Tryz.func95, Tryz.ntmps95
    go_wp2_with (first
      | (go_at_call 120; (with_reducible refine Calls.mono (HC1.out _ HW1.out) ?_); rintro e w2 ⟨hb2, a, b, aod, kd, md, rfl⟩))
    go_ret
    exact ⟨rfl, (Kb.of_below (HW1.out.trans (hb2.mono HW1.out.size))).alloc _⟩
  | ok g ts1 =>
    obtain rfl := pCallee_ok h1
    rw [h1] at hP HC1
    simp only at hP
    cases h2 : pArgs d ts1 with
    | no c t =>
      rw [h2] at hP HC2
      simp only [Res.no.injEq] at hP
      obtain ⟨rfl, rfl⟩ := hP
      go_enter Tryz.func95, Tryz.ntmps95
      go_wp2_with (first
        | (go_at_call 120; (with_reducible refine Calls.mono (HC1.out _ HW1.out) ?_); intro e w2 h2; obtain ⟨hb2, dd, aod, kd, md, rfl, hSp, hn1, hn2⟩ := h2.ok'; have HE2 := HW2.out w2 hb2 (.cells #[.int .i64 (g.names : Int), .int .i64 (g.ops.length : Int), .slice aod kd md] 174))
        | (go_at_call 117; (with_reducible refine Calls.mono (HC2.out _ HE2.1 HE2.2) ?_); rintro e w4 ⟨⟨aoA, nA, cA, rfl⟩, hk4⟩))
      go_ret
      exact ⟨rfl, (((Kb.of_below (HW1.out.trans (hb2.mono HW1.out.size))).alloc _).trans hk4).mono (by simp)⟩
    | ok l ts2 =>
      rw [h2] at hP HC2
      simp only at hP
      have hbd := pArgs_bd hD.ok h2
      have HC3 := hide (fun (V : World) (aoA : Option Addr) (cA : Nat) (Bq : Nat) (h : V.ownsRow Bq 184 3 (.slice aoA l.length cA) l.length (l.flatMap agC)) (hl : l.length <= 4398046511104) => cRowOfCalls cA aoA l hl (fun a ha => by have := (hbd a ha).1; omega) (fun a ha => by have := (hbd a ha).1; omega) V (Asb.of_own h))
      cases h3 : callsP l with
      | none =>
        rw [h3] at hP HC3
        simp only [Res.no.injEq] at hP
        obtain ⟨rfl, rfl⟩ := hP
        go_enter Tryz.func95, Tryz.ntmps95
        go_wp2_with (first
          | (go_at_call 120; (with_reducible refine Calls.mono (HC1.out _ HW1.out) ?_); intro e w2 h2; obtain ⟨hb2, dd, aod, kd, md, rfl, hSp, hn1, hn2⟩ := h2.ok'; have HE2 := HW2.out w2 hb2 (.cells #[.int .i64 (g.names : Int), .int .i64 (g.ops.length : Int), .slice aod kd md] 174))
          | (go_at_call 117; (with_reducible refine Calls.mono (HC2.out _ HE2.1 HE2.2) ?_); rintro e w4 ⟨aoA, cA, rfl, hownA, hlA, hr4, hk4⟩)
          | (go_at_call 121; (with_reducible refine Calls.mono (HC3.out _ _ _ _ hownA hlA) ?_); rintro e w5 ⟨rfl, hb5⟩; obtain ⟨k1, k2, k3, k4, k5⟩ := call_keeps hlt hb2 hk4 hb5; obtain ⟨q0, q1, q2, q3, q4, q5, q6⟩ := tok_cells k1; obtain ⟨g0, g1, g2, g3⟩ := def_cells k3)
          | (go_at_call 87; refine (c3 _).mono ?_; rintro e w6 ⟨rfl, hb6⟩))
        go_ret
        exact ⟨rfl, (((((Kb.of_below (HW1.out.trans (hb2.mono HW1.out.size))).alloc _).trans hk4).then_below hb5).then_below hb6).mono (by simp)⟩
      | some calls =>
        rw [h3] at hP HC3
        simp only at hP
        obtain ⟨n, hn, hcl⟩ := callsP_ok h3
        have HN : Hid (∀ m, hmP 0 l = some m -> m = n) := hide (fun m h => by rw [hn] at h; cases h; rfl)
        have hlc : calls.length = n := by rw [hcl, List.length_map, List.length_range]
        by_cases h4 : l.length ≠ g.names
        . rw [if_pos h4] at hP
          simp only [Res.no.injEq] at hP
          obtain ⟨rfl, rfl⟩ := hP
          have e1 : ((l.length : Int) != (g.names : Int)) = true := by simp; omega
          have e2 : ((l.length : Int) == (g.names : Int)) = false := by simp; omega
          clear h4 c4
          go_enter Tryz.func95, Tryz.ntmps95
          go_wp2_with (first
            | (go_at_call 120; (with_reducible refine Calls.mono (HC1.out _ HW1.out) ?_); intro e w2 h2; obtain ⟨hb2, dd, aod, kd, md, rfl, hSp, hn1, hn2⟩ := h2.ok'; have HE2 := HW2.out w2 hb2 (.cells #[.int .i64 (g.names : Int), .int .i64 (g.ops.length : Int), .slice aod kd md] 174))
            | (go_at_call 117; (with_reducible refine Calls.mono (HC2.out _ HE2.1 HE2.2) ?_); rintro e w4 ⟨aoA, cA, rfl, hownA, hlA, hr4, hk4⟩)
            | (go_at_call 121; (with_reducible refine Calls.mono (HC3.out _ _ _ _ hownA hlA) ?_); rintro e w5 ⟨g5, n5, rfl, hm5, hn5, hg5, hRw, hb5⟩; have hEn := HN.out _ hm5; obtain ⟨k1, k2, k3, k4, k5⟩ := call_keeps hlt hb2 hk4 hb5; obtain ⟨q0, q1, q2, q3, q4, q5, q6⟩ := tok_cells k1; obtain ⟨g0, g1, g2, g3⟩ := def_cells k3)
            | (go_at_call 87; refine (c3 _).mono ?_; rintro e w6 ⟨rfl, hb6⟩))
          go_ret
          exact ⟨rfl, (((((Kb.of_below (HW1.out.trans (hb2.mono HW1.out.size))).alloc _).trans hk4).then_below hb5).then_below hb6).mono (by simp)⟩
        . rw [if_neg h4] at hP
          by_cases h5 : 4096 < ops.length + calls.length * g.ops.length
          . rw [if_pos h5] at hP
            simp only [Res.no.injEq] at hP
            obtain ⟨rfl, rfl⟩ := hP
            have e1 : ((l.length : Int) != (g.names : Int)) = false := by simp; omega
            have e2 : ((l.length : Int) == (g.names : Int)) = true := by simp; omega
            rw [hlc, ← HLN.out] at h5
            have H5 := hide h5
            have hno2 : no <= 4096 := by rw [HLN.out]; exact hno
            clear h4 h5 hlc
            go_enter Tryz.func95, Tryz.ntmps95
            go_wp2_with (first
              | (go_at_call 120; (with_reducible refine Calls.mono (HC1.out _ HW1.out) ?_); intro e w2 h2; obtain ⟨hb2, dd, aod, kd, md, rfl, hSp, hn1, hn2⟩ := h2.ok'; have HE2 := HW2.out w2 hb2 (.cells #[.int .i64 (g.names : Int), .int .i64 (g.ops.length : Int), .slice aod kd md] 174))
              | (go_at_call 117; (with_reducible refine Calls.mono (HC2.out _ HE2.1 HE2.2) ?_); rintro e w4 ⟨aoA, cA, rfl, hownA, hlA, hr4, hk4⟩)
              | (go_at_call 121; (with_reducible refine Calls.mono (HC3.out _ _ _ _ hownA hlA) ?_); rintro e w5 ⟨g5, n5, rfl, hm5, hn5, hg5, hRw, hb5⟩; have hEn := HN.out _ hm5; obtain ⟨k1, k2, k3, k4, k5⟩ := call_keeps hlt hb2 hk4 hb5; obtain ⟨q0, q1, q2, q3, q4, q5, q6⟩ := tok_cells k1; obtain ⟨g0, g1, g2, g3⟩ := def_cells k3; obtain rfl := hEn; have hmu : n5 * g.ops.length <= 64 * 4096 := Nat.mul_le_mul hn5 hn2; have hwr : IntKind.i64.wrap ((n5 : Int) * (g.ops.length : Int)) = ((n5 * g.ops.length : Nat) : Int) := (by rw [← Int.natCast_mul, wrapN _ (by omega) (by omega)]))
              | (go_at_call 114; refine (c4 w5 ts2 (n5 * g.ops.length) (by omega) (hr4.below hb5)).mono ?_; rw [if_pos H5.out]; rintro e w6 ⟨rfl, hb6⟩))
            go_ret
            exact ⟨rfl, (((((Kb.of_below (HW1.out.trans (hb2.mono HW1.out.size))).alloc _).trans hk4).then_below hb5).then_below hb6).mono (by simp)⟩
          . rw [if_neg h5] at hP
            cases hP
end Go.Proofs.YtnghfdnlcnocjaaGreatDoor.Cir
