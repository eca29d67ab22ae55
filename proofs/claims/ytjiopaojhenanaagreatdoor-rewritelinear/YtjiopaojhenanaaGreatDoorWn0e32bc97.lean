import Derived.Test.YtjiopaojhenanaaGreatDoorWn58674206
namespace Go.Proofs.YtjiopaojhenanaaGreatDoor.Gt
end Go.Proofs.YtjiopaojhenanaaGreatDoor.Gt
namespace Go.Proofs.YtjiopaojhenanaaGreatDoor.Oct
end Go.Proofs.YtjiopaojhenanaaGreatDoor.Oct
namespace Go.Proofs.YtjiopaojhenanaaGreatDoor.Tok
end Go.Proofs.YtjiopaojhenanaaGreatDoor.Tok
set_option maxRecDepth 100000
set_option maxHeartbeats 2000000
namespace Go.Proofs.YtjiopaojhenanaaGreatDoor.Cir
open Go.RowKit Go.Shelf Go.Proofs.YtjiopaojhenanaaGreatDoor.Oct Go.Proofs.YtjiopaojhenanaaGreatDoor.Tok Go.Proofs.YtjiopaojhenanaaGreatDoor.Gt
theorem cWithin (x n : Int) (w : World) : Calls Tryz.prog 57 #[.int .i64 x, .int .i64 n] w fun e w' => e = .returned (.bool (wiP x n)) /\ w' = w := by
  unfold wiP
  by_cases h0 : 0 <= x
  . have d0 : decide (x ≥ 0) = true := decide_eq_true h0
    have d1 : decide (0 <= x) = true := decide_eq_true h0
    clear h0
    go_enter Tryz.func57, Tryz.ntmps57
    go_wp2_with fail
    go_ret
    exact ⟨by rw [d1]; rfl, rfl⟩
  . have d0 : decide (x ≥ 0) = false := decide_eq_false h0
    have d1 : decide (0 <= x) = false := decide_eq_false h0
    clear h0
    go_enter Tryz.func57, Tryz.ntmps57
    go_wp2_with fail
    go_ret
    exact ⟨by rw [d1]; rfl, rfl⟩
theorem cCountsMay (q b : Int) (w : World) : Calls Tryz.prog 32 #[.int .i64 q, .int .i64 b] w fun e w' => e = .returned (.bool (cntP q b)) /\ w' = w := by
  have c1 := fun W => cWithin q 65 W
  have c2 := fun W => cWithin b 65 W
  unfold cntP
  generalize wiP q 65 = b1 at *
  generalize wiP b 65 = b2 at *
  cases b1 with
  | true =>
    go_enter Tryz.func32, Tryz.ntmps32
    go_wp2_with (first
      | (go_at_call_of 57 (Value.int IntKind.i64 q); refine (c1 _).mono ?_; clear c1; rintro e w1 ⟨rfl, rfl⟩)
      | (go_at_call 57; refine (c2 _).mono ?_; rintro e w2 ⟨rfl, rfl⟩))
    go_ret
    exact ⟨by simp, rfl⟩
  | false =>
    go_enter Tryz.func32, Tryz.ntmps32
    go_wp2_with (first
      | (go_at_call 57; refine (c1 _).mono ?_; rintro e w1 ⟨rfl, rfl⟩))
    go_ret
    exact ⟨by simp, rfl⟩
def opV (o : COp) (aq : Option Addr) (cq : Nat) : Value := .agg #[.int .i64 o.kind, .int .i64 o.gate, .slice aq o.qs.length cq, .int .i64 o.bit, .int .i64 o.cond, .int .i64 o.whn]
theorem cFree (o : COp) (aq : Option Addr) (cq : Nat) (w : World) : Calls Tryz.prog 59 #[opV o aq cq] w fun e w' => e = .returned (.bool (freeP o)) /\ Below w.heap.size w w' := by
  obtain ⟨kind, gate, qs, bit, cond, whn⟩ := o
  unfold opV freeP
  simp only
  by_cases h0 : cond = -1
  . subst h0
    go_enter Tryz.func59, Tryz.ntmps59
    go_wp2_with fail
    go_ret
    exact ⟨by simp only [decide_true, Bool.true_and]; rfl, bnew _ _⟩
  . have e1 : (cond == -1) = false := by simpa using h0
    go_enter Tryz.func59, Tryz.ntmps59
    go_wp2_with fail
    go_ret
    exact ⟨by simp [h0], bnew _ _⟩
theorem cAsked (o : COp) (aq : Option Addr) (cq : Nat) (b : Int) (w : World) : Calls Tryz.prog 60 #[opV o aq cq, .int .i64 b] w fun e w' => e = .returned (.bool (askP o b)) /\ Below w.heap.size w w' := by
  have c1 := fun W => cWithin o.cond b W
  have c2 := fun W => cWithin o.whn 2 W
  obtain ⟨kind, gate, qs, bit, cond, whn⟩ := o
  unfold opV askP
  simp only at c1 c2 ⊢
  generalize wiP cond b = b1 at *
  generalize wiP whn 2 = b2 at *
  cases b1 with
  | true =>
    go_enter Tryz.func60, Tryz.ntmps60
    go_wp2_with (first
      | (go_at_call_of 57 (Value.int IntKind.i64 cond); refine (c1 _).mono ?_; clear c1; rintro e w1 ⟨rfl, rfl⟩)
      | (go_at_call 57; refine (c2 _).mono ?_; rintro e w2 ⟨rfl, rfl⟩))
    go_ret
    exact ⟨by simp, bnew _ _⟩
  | false =>
    go_enter Tryz.func60, Tryz.ntmps60
    go_wp2_with (first
      | (go_at_call 57; refine (c1 _).mono ?_; rintro e w1 ⟨rfl, rfl⟩))
    go_ret
    exact ⟨by simp, bnew _ _⟩
theorem cNoGate (o : COp) (aq : Option Addr) (cq : Nat) (w : World) : Calls Tryz.prog 61 #[opV o aq cq] w fun e w' => e = .returned (.bool (noGP o)) /\ Below w.heap.size w w' := by
  have c1 := fun W => cFree o aq cq W
  unfold noGP
  obtain ⟨kind, gate, qs, bit, cond, whn⟩ := o
  unfold opV at c1 ⊢
  simp only at c1 ⊢
  generalize freeP ⟨kind, gate, qs, bit, cond, whn⟩ = fb at *
  by_cases h0 : gate = 0
  . subst h0
    go_enter Tryz.func61, Tryz.ntmps61
    go_wp2_with (first | (go_at_call 59; refine (c1 _).mono ?_; rintro e w1 ⟨rfl, hb1⟩))
    go_ret
    exact ⟨by simp, (bnew _ _).trans (hb1.mono (by simp))⟩
  . have e1 : (gate == 0) = false := by simpa using h0
    go_enter Tryz.func61, Tryz.ntmps61
    go_wp2_with fail
    go_ret
    exact ⟨by simp [h0], bnew _ _⟩
theorem apaN_step {l : List Int} {n : Int} {i : Nat} {x : Int} (h : apaN l n i) (hx : l[i]? = some x) (h1 : wiP x n = true) (h2 : x ∉ l.take i) : apaN l n (i + 1) := by
  intro j y hj hy
  by_cases e : j = i
  . subst e
    rw [hx] at hy
    cases hy
    exact ⟨h1, h2⟩
  . exact h j y (by omega) hy
theorem cApart (ao : Option Addr) (c : Nat) (l : List Int) (n : Int) (hl : l.length <= 1000000000000000) (hc : l.length <= c) (w : World) (hN : Ns w ao l) : Calls Tryz.prog 62 #[.slice ao l.length c, .int .i64 n] w fun e w' => e = .returned (.bool (apaP l n)) /\ w' = w := by
  have HN := hide hN
  obtain ⟨R, hR⟩ : ∃ R, apaP l n = R := ⟨_, rfl⟩
  rw [hR]
  have HR := hide hR
  obtain ⟨m, hm⟩ : ∃ m, l.length = m := ⟨_, rfl⟩
  have HL := hide hm
  rw [hm] at hl hc ⊢
  clear hN hR hm
  go_enter Tryz.func62, Tryz.ntmps62
  go_wp2_with fail
  go_loopw [5, 6, 9] (fun _ _ vi wr => ∃ i : Nat, vi = .int .i64 (i : Int) /\ i <= m /\ Hid (apaN l n i) /\ wr = w) (fun _ _ vi _ => m - (Go.RowKit.intOf vi).toNat)
  case atStart => exact ⟨0, rfl, Nat.zero_le _, hide (fun j x hj => by omega), rfl⟩
  case round =>
    obtain ⟨i, rfl, hi, HA, rfl⟩ := hrel
    by_cases h : i < m
    . have hd : decide ((i : Int) < (m : Int)) = true := decide_eq_true (by omega)
      have hlt : i < l.length := by rw [HL.out]; exact h
      obtain ⟨z, hz⟩ : ∃ z, l[i]? = some z := ⟨_, List.getElem?_eq_getElem hlt⟩
      have hT' := HN.out.take i
      have hlen : (l.take i).length = i := by rw [List.length_take]; omega
      obtain ⟨g, off, rfl, hcs⟩ := HN.out.resolve_left (fun e => by rw [e] at hz; simp at hz)
      have hcell := hcs i z hz
      have cC := sContains (some ⟨g, off, none⟩) c (l.take i) z (by omega) wr hT'
      have cW := cWithin z n wr
      rw [hlen] at cC
      have HSt : Hid (wiP z n = true -> decide (z ∈ l.take i) = false -> apaN l n (i + 1)) := hide (fun a b => apaN_step HA.out hz a (by simpa using b))
      have HNo : Hid (wiP z n = false ∨ decide (z ∈ l.take i) = true -> R = false) := hide (fun a => by
        rw [← HR.out, Bool.eq_false_iff]
        intro e
        have hh := apaN_all.2 e i z (by rw [HL.out]; exact h) hz
        rcases a with a | a
        . rw [a] at hh; exact absurd hh.1 (by simp)
        . exact hh.2 (by simpa using a))
      clear hcs hz hT' hlen
      generalize decide (z ∈ l.take i) = mem at *
      generalize wiP z n = wi at *
      cases wi with
      | false =>
        have HRf := hide (HNo.out (.inl rfl))
        clear HNo HSt
        go_wp2_with (first | (go_at_call 57; refine cW.mono ?_; rintro e w1 ⟨rfl, rfl⟩))
        go_ret
        exact ⟨by rw [HRf.out]; rfl, rfl⟩
      | true =>
        cases mem with
        | true =>
          have HRf := hide (HNo.out (.inr rfl))
          clear HNo HSt
          go_wp2_with (first
            | (go_at_call 57; refine cW.mono ?_; rintro e w1 ⟨rfl, rfl⟩)
            | (go_at_call 89; refine cC.mono ?_; rintro e w2 ⟨rfl, rfl⟩))
          go_ret
          exact ⟨by rw [HRf.out]; rfl, rfl⟩
        | false =>
          have HA2 := hide (HSt.out rfl rfl)
          clear HNo HSt
          go_wp2_with (first
            | (go_at_call 57; refine cW.mono ?_; rintro e w1 ⟨rfl, rfl⟩)
            | (go_at_call 89; refine cC.mono ?_; rintro e w2 ⟨rfl, rfl⟩))
          go_roundw
          case rel => exact ⟨i + 1, by go_num, by omega, HA2, by trivial⟩
          case measure => simp [Go.RowKit.intOf]; omega
    . obtain rfl : m = i := by omega
      go_wp2_with fail
      go_ret
      have hz := HA.out
      rw [← HL.out, apaN_all, HR.out] at hz
      exact ⟨by rw [hz]; rfl, rfl⟩
theorem op6_cells {w1 : World} {c : Nat} {x0 x1 x2 x3 x4 x5 : Value} {t : TypeId} (h : w1.heap[c]? = some (.cells #[x0, x1, x2, x3, x4, x5] t (0, 0))) : w1.cell? ⟨c, 0, none⟩ = some x0 /\ w1.cell? ⟨c, 1, none⟩ = some x1 /\ w1.cell? ⟨c, 2, none⟩ = some x2 /\ w1.cell? ⟨c, 3, none⟩ = some x3 /\ w1.cell? ⟨c, 4, none⟩ = some x4 /\ w1.cell? ⟨c, 5, none⟩ = some x5 /\ c < w1.heap.size :=
  tok_cells h
theorem may_keep {w W : World} {c1 c2 : Array Value} {t1 t2 : TypeId} (h : Below ((w.alloc (.cells c1 t1)).alloc (.cells c2 t2)).heap.size ((w.alloc (.cells c1 t1)).alloc (.cells c2 t2)) W) : W.heap[w.heap.size]? = some (.cells c1 t1 (0, 0)) /\ W.heap[w.heap.size + 1]? = some (.cells c2 t2 (0, 0)) := by
  refine ⟨(h.block _ (by simp; omega)).trans ((Below.heap_alloc _ _ _ (by simp)).trans (heap_alloc_new _ _)), (h.block _ (by simp)).trans ?_⟩
  have := heap_alloc_new (w.alloc (.cells c1 t1)) (.cells c2 t2)
  simpa using this
theorem cMayBe (c : Circ) (ao : Option Addr) (k : Nat) (o : COp) (aq : Option Addr) (cq : Nat) (hl : o.qs.length <= 1000000000000000) (hc : o.qs.length <= cq) (w : World) (hT : Tb w) (hN : Ns w aq o.qs) : Calls Tryz.prog 33 #[cV c ao k, opV o aq cq] w fun e w' => e = .returned (.bool (mayP c.q c.b o)) /\ Below w.heap.size w w' := by
  have c1 := fun V (h : Below w.heap.size w V) => gCheck o.gate aq cq o.qs c.q hl hc V (hT.below h) (hN.below h)
  have c2 := fun W => cFree o aq cq W
  have c3 := fun W => cAsked o aq cq c.b W
  have c4 := fun W => cNoGate o aq cq W
  have c5 := fun V (h : Below w.heap.size w V) => cApart aq cq o.qs c.q hl hc V (hN.below h)
  have c6 := fun W => cWithin o.bit c.b W
  obtain ⟨cq', cb, cops⟩ := c
  have hmay : mayP cq' cb o = if o.kind = 1 then decide (chkP o.gate o.qs cq' = 0) && decide (o.bit = 0) && (freeP o || askP o cb) else if o.kind = 2 then noGP o && decide (o.qs.length = 1) && apaP o.qs cq' && wiP o.bit cb else if o.kind = 3 then noGP o && decide (o.qs.length = 1) && apaP o.qs cq' && decide (o.bit = 0) else if o.kind = 4 then noGP o && decide (0 < o.qs.length) && apaP o.qs cq' && decide (o.bit = 0) else false := rfl
  simp only
  rw [hmay]
  clear hmay
  unfold cV opV at *
  obtain ⟨kind, gate, qs, bit, cond, whn⟩ := o
  simp only at *
  generalize chkP gate qs cq' = ck at *
  generalize freeP ⟨kind, gate, qs, bit, cond, whn⟩ = fr at *
  generalize askP ⟨kind, gate, qs, bit, cond, whn⟩ cb = ak at *
  generalize noGP ⟨kind, gate, qs, bit, cond, whn⟩ = ng at *
  generalize apaP qs cq' = ap at *
  generalize wiP bit cb = wi at *
  generalize hql : qs.length = ql at *
  have hW2 : Below w.heap.size w ((w.alloc (.cells #[.int .i64 cq', .int .i64 cb, .slice ao cops.length k] 24)).alloc (.cells #[.int .i64 kind, .int .i64 gate, .slice aq ql cq, .int .i64 bit, .int .i64 cond, .int .i64 whn] 49)) := (bnew _ _).trans ((bnew _ _).mono (by simp))
  have HB0 : Hid (Below ((w.alloc (.cells #[.int .i64 cq', .int .i64 cb, .slice ao cops.length k] 24)).alloc (.cells #[.int .i64 kind, .int .i64 gate, .slice aq ql cq, .int .i64 bit, .int .i64 cond, .int .i64 whn] 49)).heap.size ((w.alloc (.cells #[.int .i64 cq', .int .i64 cb, .slice ao cops.length k] 24)).alloc (.cells #[.int .i64 kind, .int .i64 gate, .slice aq ql cq, .int .i64 bit, .int .i64 cond, .int .i64 whn] 49)) ((w.alloc (.cells #[.int .i64 cq', .int .i64 cb, .slice ao cops.length k] 24)).alloc (.cells #[.int .i64 kind, .int .i64 gate, .slice aq ql cq, .int .i64 bit, .int .i64 cond, .int .i64 whn] 49))) := hide (Below.refl _ _)
  have HBW := hide hW2
  have HKP : Hid (∀ W, Below ((w.alloc (.cells #[.int .i64 cq', .int .i64 cb, .slice ao cops.length k] 24)).alloc (.cells #[.int .i64 kind, .int .i64 gate, .slice aq ql cq, .int .i64 bit, .int .i64 cond, .int .i64 whn] 49)).heap.size ((w.alloc (.cells #[.int .i64 cq', .int .i64 cb, .slice ao cops.length k] 24)).alloc (.cells #[.int .i64 kind, .int .i64 gate, .slice aq ql cq, .int .i64 bit, .int .i64 cond, .int .i64 whn] 49)) W -> W.heap[w.heap.size]? = some (.cells #[.int .i64 cq', .int .i64 cb, .slice ao cops.length k] 24 (0, 0)) /\ W.heap[w.heap.size + 1]? = some (.cells #[.int .i64 kind, .int .i64 gate, .slice aq ql cq, .int .i64 bit, .int .i64 cond, .int .i64 whn] 49 (0, 0)) /\ Below w.heap.size w W) := hide (fun W h => ⟨(may_keep h).1, (may_keep h).2, hW2.trans (h.mono (by simp; omega))⟩)
  clear hW2
  by_cases k1 : kind = 1
  . subst k1
    simp only [if_true]
    by_cases h1 : ck = 0
    . subst h1
      by_cases h2 : bit = 0
      . subst h2
        cases fr with
        | true =>
          go_enter Tryz.func33, Tryz.ntmps33
          go_wp2_with (first
            | (go_at_call 58; refine (c1 _ HBW.out).mono ?_; rintro e v1 ⟨rfl, hb1⟩; have HB1 := hide (Below.trans HB0.out (hb1.mono HB0.out.size)); obtain ⟨m1a, m1b, m1c⟩ := HKP.out _ HB1.out; obtain ⟨p10, p11, p12, p13⟩ := def_cells m1a; obtain ⟨y10, y11, y12, y13, y14, y15, y16⟩ := op6_cells m1b)
            | (go_at_call 59; refine (c2 _).mono ?_; rintro e v2 ⟨rfl, hb2⟩; have HB2 := hide (Below.trans HB1.out (hb2.mono HB1.out.size)); obtain ⟨m2a, m2b, m2c⟩ := HKP.out _ HB2.out; obtain ⟨p20, p21, p22, p23⟩ := def_cells m2a; obtain ⟨y20, y21, y22, y23, y24, y25, y26⟩ := op6_cells m2b))
          go_ret
          exact ⟨by simp, m2c⟩
        | false =>
          go_enter Tryz.func33, Tryz.ntmps33
          go_wp2_with (first
            | (go_at_call 58; refine (c1 _ HBW.out).mono ?_; rintro e v1 ⟨rfl, hb1⟩; have HB1 := hide (Below.trans HB0.out (hb1.mono HB0.out.size)); obtain ⟨m1a, m1b, m1c⟩ := HKP.out _ HB1.out; obtain ⟨p10, p11, p12, p13⟩ := def_cells m1a; obtain ⟨y10, y11, y12, y13, y14, y15, y16⟩ := op6_cells m1b)
            | (go_at_call 59; refine (c2 _).mono ?_; rintro e v2 ⟨rfl, hb2⟩; have HB2 := hide (Below.trans HB1.out (hb2.mono HB1.out.size)); obtain ⟨m2a, m2b, m2c⟩ := HKP.out _ HB2.out; obtain ⟨p20, p21, p22, p23⟩ := def_cells m2a; obtain ⟨y20, y21, y22, y23, y24, y25, y26⟩ := op6_cells m2b)
            | (go_at_call 60; refine (c3 _).mono ?_; rintro e v3 ⟨rfl, hb3⟩; have HB3 := hide (Below.trans HB2.out (hb3.mono HB2.out.size)); obtain ⟨m3a, m3b, m3c⟩ := HKP.out _ HB3.out; obtain ⟨p30, p31, p32, p33⟩ := def_cells m3a; obtain ⟨y30, y31, y32, y33, y34, y35, y36⟩ := op6_cells m3b))
          go_ret
          exact ⟨by simp, m3c⟩
      . have e2 : (bit == 0) = false := by simpa using h2
        go_enter Tryz.func33, Tryz.ntmps33
        go_wp2_with (first
          | (go_at_call 58; refine (c1 _ HBW.out).mono ?_; rintro e v1 ⟨rfl, hb1⟩; have HB1 := hide (Below.trans HB0.out (hb1.mono HB0.out.size)); obtain ⟨m1a, m1b, m1c⟩ := HKP.out _ HB1.out; obtain ⟨p10, p11, p12, p13⟩ := def_cells m1a; obtain ⟨y10, y11, y12, y13, y14, y15, y16⟩ := op6_cells m1b))
        go_ret
        exact ⟨by simp [h2], m1c⟩
    . have e1 : (ck == 0) = false := by simpa using h1
      go_enter Tryz.func33, Tryz.ntmps33
      go_wp2_with (first
        | (go_at_call 58; refine (c1 _ HBW.out).mono ?_; rintro e v1 ⟨rfl, hb1⟩; have HB1 := hide (Below.trans HB0.out (hb1.mono HB0.out.size)); obtain ⟨m1a, m1b, m1c⟩ := HKP.out _ HB1.out; obtain ⟨p10, p11, p12, p13⟩ := def_cells m1a; obtain ⟨y10, y11, y12, y13, y14, y15, y16⟩ := op6_cells m1b))
      go_ret
      exact ⟨by simp [h1], m1c⟩
  rw [if_neg k1]
  have n1 : (kind == 1) = false := by simpa using k1
  by_cases k2 : kind = 2
  . subst k2
    simp only [if_true]
    cases ng with
    | false =>
      go_enter Tryz.func33, Tryz.ntmps33
      go_wp2_with (first
        | (go_at_call 61; refine (c4 _).mono ?_; rintro e v1 ⟨rfl, hb1⟩; have HB1 := hide (Below.trans HB0.out (hb1.mono HB0.out.size)); obtain ⟨m1a, m1b, m1c⟩ := HKP.out _ HB1.out; obtain ⟨p10, p11, p12, p13⟩ := def_cells m1a; obtain ⟨y10, y11, y12, y13, y14, y15, y16⟩ := op6_cells m1b))
      go_ret
      exact ⟨by simp, m1c⟩
    | true =>
      by_cases h1 : ql = 1
      . subst h1
        cases ap with
        | false =>
          go_enter Tryz.func33, Tryz.ntmps33
          go_wp2_with (first
            | (go_at_call 61; refine (c4 _).mono ?_; rintro e v1 ⟨rfl, hb1⟩; have HB1 := hide (Below.trans HB0.out (hb1.mono HB0.out.size)); obtain ⟨m1a, m1b, m1c⟩ := HKP.out _ HB1.out; obtain ⟨p10, p11, p12, p13⟩ := def_cells m1a; obtain ⟨y10, y11, y12, y13, y14, y15, y16⟩ := op6_cells m1b)
            | (go_at_call 62; refine (c5 _ m1c).mono ?_; rintro e v2 ⟨rfl, rfl⟩))
          go_ret
          exact ⟨by simp, m1c⟩
        | true =>
          go_enter Tryz.func33, Tryz.ntmps33
          go_wp2_with (first
            | (go_at_call 61; refine (c4 _).mono ?_; rintro e v1 ⟨rfl, hb1⟩; have HB1 := hide (Below.trans HB0.out (hb1.mono HB0.out.size)); obtain ⟨m1a, m1b, m1c⟩ := HKP.out _ HB1.out; obtain ⟨p10, p11, p12, p13⟩ := def_cells m1a; obtain ⟨y10, y11, y12, y13, y14, y15, y16⟩ := op6_cells m1b)
            | (go_at_call 62; refine (c5 _ m1c).mono ?_; rintro e v2 ⟨rfl, rfl⟩)
            | (go_at_call 57; refine (c6 _).mono ?_; rintro e v3 ⟨rfl, rfl⟩))
          go_ret
          exact ⟨by simp, m1c⟩
      . have e1 : ((ql : Int) == 1) = false := by simp; omega
        go_enter Tryz.func33, Tryz.ntmps33
        go_wp2_with (first
          | (go_at_call 61; refine (c4 _).mono ?_; rintro e v1 ⟨rfl, hb1⟩; have HB1 := hide (Below.trans HB0.out (hb1.mono HB0.out.size)); obtain ⟨m1a, m1b, m1c⟩ := HKP.out _ HB1.out; obtain ⟨p10, p11, p12, p13⟩ := def_cells m1a; obtain ⟨y10, y11, y12, y13, y14, y15, y16⟩ := op6_cells m1b))
        go_ret
        exact ⟨by simp [h1], m1c⟩
  rw [if_neg k2]
  have n2 : (kind == 2) = false := by simpa using k2
  by_cases k3 : kind = 3
  . subst k3
    simp only [if_true]
    cases ng with
    | false =>
      go_enter Tryz.func33, Tryz.ntmps33
      go_wp2_with (first
        | (go_at_call 61; refine (c4 _).mono ?_; rintro e v1 ⟨rfl, hb1⟩; have HB1 := hide (Below.trans HB0.out (hb1.mono HB0.out.size)); obtain ⟨m1a, m1b, m1c⟩ := HKP.out _ HB1.out; obtain ⟨p10, p11, p12, p13⟩ := def_cells m1a; obtain ⟨y10, y11, y12, y13, y14, y15, y16⟩ := op6_cells m1b))
      go_ret
      exact ⟨by simp, m1c⟩
    | true =>
      by_cases h1 : ql = 1
      . subst h1
        cases ap with
        | false =>
          go_enter Tryz.func33, Tryz.ntmps33
          go_wp2_with (first
            | (go_at_call 61; refine (c4 _).mono ?_; rintro e v1 ⟨rfl, hb1⟩; have HB1 := hide (Below.trans HB0.out (hb1.mono HB0.out.size)); obtain ⟨m1a, m1b, m1c⟩ := HKP.out _ HB1.out; obtain ⟨p10, p11, p12, p13⟩ := def_cells m1a; obtain ⟨y10, y11, y12, y13, y14, y15, y16⟩ := op6_cells m1b)
            | (go_at_call 62; refine (c5 _ m1c).mono ?_; rintro e v2 ⟨rfl, rfl⟩))
          go_ret
          exact ⟨by simp, m1c⟩
        | true =>
          by_cases h2 : bit = 0
          . subst h2
            go_enter Tryz.func33, Tryz.ntmps33
            go_wp2_with (first
              | (go_at_call 61; refine (c4 _).mono ?_; rintro e v1 ⟨rfl, hb1⟩; have HB1 := hide (Below.trans HB0.out (hb1.mono HB0.out.size)); obtain ⟨m1a, m1b, m1c⟩ := HKP.out _ HB1.out; obtain ⟨p10, p11, p12, p13⟩ := def_cells m1a; obtain ⟨y10, y11, y12, y13, y14, y15, y16⟩ := op6_cells m1b)
              | (go_at_call 62; refine (c5 _ m1c).mono ?_; rintro e v2 ⟨rfl, rfl⟩))
            go_ret
            exact ⟨by simp, m1c⟩
          . have e2 : (bit == 0) = false := by simpa using h2
            go_enter Tryz.func33, Tryz.ntmps33
            go_wp2_with (first
              | (go_at_call 61; refine (c4 _).mono ?_; rintro e v1 ⟨rfl, hb1⟩; have HB1 := hide (Below.trans HB0.out (hb1.mono HB0.out.size)); obtain ⟨m1a, m1b, m1c⟩ := HKP.out _ HB1.out; obtain ⟨p10, p11, p12, p13⟩ := def_cells m1a; obtain ⟨y10, y11, y12, y13, y14, y15, y16⟩ := op6_cells m1b)
              | (go_at_call 62; refine (c5 _ m1c).mono ?_; rintro e v2 ⟨rfl, rfl⟩))
            go_ret
            exact ⟨by simp [h2], m1c⟩
      . have e1 : ((ql : Int) == 1) = false := by simp; omega
        go_enter Tryz.func33, Tryz.ntmps33
        go_wp2_with (first
          | (go_at_call 61; refine (c4 _).mono ?_; rintro e v1 ⟨rfl, hb1⟩; have HB1 := hide (Below.trans HB0.out (hb1.mono HB0.out.size)); obtain ⟨m1a, m1b, m1c⟩ := HKP.out _ HB1.out; obtain ⟨p10, p11, p12, p13⟩ := def_cells m1a; obtain ⟨y10, y11, y12, y13, y14, y15, y16⟩ := op6_cells m1b))
        go_ret
        exact ⟨by simp [h1], m1c⟩
  rw [if_neg k3]
  have n3 : (kind == 3) = false := by simpa using k3
  by_cases k4 : kind = 4
  . subst k4
    simp only [if_true]
    cases ng with
    | false =>
      go_enter Tryz.func33, Tryz.ntmps33
      go_wp2_with (first
        | (go_at_call 61; refine (c4 _).mono ?_; rintro e v1 ⟨rfl, hb1⟩; have HB1 := hide (Below.trans HB0.out (hb1.mono HB0.out.size)); obtain ⟨m1a, m1b, m1c⟩ := HKP.out _ HB1.out; obtain ⟨p10, p11, p12, p13⟩ := def_cells m1a; obtain ⟨y10, y11, y12, y13, y14, y15, y16⟩ := op6_cells m1b))
      go_ret
      exact ⟨by simp, m1c⟩
    | true =>
      by_cases h1 : 0 < ql
      . have g1 : decide ((ql : Int) > 0) = true := decide_eq_true (by omega)
        have g2 : decide ((0 : Int) < (ql : Int)) = true := decide_eq_true (by omega)
        cases ap with
        | false =>
          go_enter Tryz.func33, Tryz.ntmps33
          go_wp2_with (first
            | (go_at_call 61; refine (c4 _).mono ?_; rintro e v1 ⟨rfl, hb1⟩; have HB1 := hide (Below.trans HB0.out (hb1.mono HB0.out.size)); obtain ⟨m1a, m1b, m1c⟩ := HKP.out _ HB1.out; obtain ⟨p10, p11, p12, p13⟩ := def_cells m1a; obtain ⟨y10, y11, y12, y13, y14, y15, y16⟩ := op6_cells m1b)
            | (go_at_call 62; refine (c5 _ m1c).mono ?_; rintro e v2 ⟨rfl, rfl⟩))
          go_ret
          exact ⟨by simp [h1], m1c⟩
        | true =>
          by_cases h2 : bit = 0
          . subst h2
            go_enter Tryz.func33, Tryz.ntmps33
            go_wp2_with (first
              | (go_at_call 61; refine (c4 _).mono ?_; rintro e v1 ⟨rfl, hb1⟩; have HB1 := hide (Below.trans HB0.out (hb1.mono HB0.out.size)); obtain ⟨m1a, m1b, m1c⟩ := HKP.out _ HB1.out; obtain ⟨p10, p11, p12, p13⟩ := def_cells m1a; obtain ⟨y10, y11, y12, y13, y14, y15, y16⟩ := op6_cells m1b)
              | (go_at_call 62; refine (c5 _ m1c).mono ?_; rintro e v2 ⟨rfl, rfl⟩))
            go_ret
            exact ⟨by simp [h1], m1c⟩
          . have e2 : (bit == 0) = false := by simpa using h2
            go_enter Tryz.func33, Tryz.ntmps33
            go_wp2_with (first
              | (go_at_call 61; refine (c4 _).mono ?_; rintro e v1 ⟨rfl, hb1⟩; have HB1 := hide (Below.trans HB0.out (hb1.mono HB0.out.size)); obtain ⟨m1a, m1b, m1c⟩ := HKP.out _ HB1.out; obtain ⟨p10, p11, p12, p13⟩ := def_cells m1a; obtain ⟨y10, y11, y12, y13, y14, y15, y16⟩ := op6_cells m1b)
              | (go_at_call 62; refine (c5 _ m1c).mono ?_; rintro e v2 ⟨rfl, rfl⟩))
            go_ret
            exact ⟨by simp [h1, h2], m1c⟩
      . have g1 : decide ((ql : Int) > 0) = false := decide_eq_false (by omega)
        have g2 : decide ((0 : Int) < (ql : Int)) = false := decide_eq_false (by omega)
        go_enter Tryz.func33, Tryz.ntmps33
        go_wp2_with (first
          | (go_at_call 61; refine (c4 _).mono ?_; rintro e v1 ⟨rfl, hb1⟩; have HB1 := hide (Below.trans HB0.out (hb1.mono HB0.out.size)); obtain ⟨m1a, m1b, m1c⟩ := HKP.out _ HB1.out; obtain ⟨p10, p11, p12, p13⟩ := def_cells m1a; obtain ⟨y10, y11, y12, y13, y14, y15, y16⟩ := op6_cells m1b))
        go_ret
        exact ⟨by simp [h1], m1c⟩
  rw [if_neg k4]
  have n4 : (kind == 4) = false := by simpa using k4
  go_enter Tryz.func33, Tryz.ntmps33
  go_wp2_with fail
  go_ret
  exact ⟨rfl, HBW.out⟩
end Go.Proofs.YtjiopaojhenanaaGreatDoor.Cir
