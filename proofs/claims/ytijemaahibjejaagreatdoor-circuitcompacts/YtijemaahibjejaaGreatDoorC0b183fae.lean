import Derived.Test.YtijemaahibjejaaGreatDoorCa2532e82
import Derived.Test.YtijemaahibjejaaGreatDoorC7d32e1a3
import Derived.Test.YtijemaahibjejaaGreatDoorC41b74d3e
set_option maxRecDepth 100000
set_option maxHeartbeats 4000000
namespace Go.Proofs.YtijemaahibjejaaGreatDoor.Cir
open Go.RowKit Go.Shelf Go.Proofs.YtijemaahibjejaaGreatDoor.Oct Go.Proofs.YtijemaahibjejaaGreatDoor.Tok Go.Proofs.YtijemaahibjejaaGreatDoor.Gt
theorem aInts (a b : Option Addr) (ca cb : Nat) (l m : List Int) (hl : l.length <= 1000000000000000) (w : World) (hA : Ns w a l) (hB : Ns w b m) : Calls Tryz.prog 9 #[.slice a l.length ca, .slice b m.length cb] w fun e w' => e = .returned (.bool (decide (l = m))) /\ Below w.heap.size w w' := by
  by_cases hlm : l.length = m.length
  . have HA := hide hA
    have HB := hide hB
    obtain ⟨n, hn⟩ : ∃ n, l.length = n := ⟨_, rfl⟩
    have HL := hide hn
    have HM : Hid (m.length = n) := hide (by omega)
    obtain ⟨R, hR⟩ : ∃ R, decide (l = m) = R := ⟨_, rfl⟩
    have HR := hide hR
    rw [← hlm, hn, hR]
    rw [hn] at hl
    clear hA hB hn hlm hR
    go_enter Tryz.func9, Tryz.ntmps9
    go_wp2_with fail
    go_loopw [5] (fun vi wr => ∃ i : Nat, vi = .int .i64 (i : Int) /\ i <= n /\ Hid (l.take i = m.take i) /\ Below w.heap.size w wr) (fun vi _ => n - (Go.RowKit.intOf vi).toNat)
    case atStart => exact ⟨0, rfl, Nat.zero_le _, hide rfl, Below.refl _ _⟩
    case round =>
      obtain ⟨i, rfl, hi, HS, hb⟩ := hrel
      by_cases h : i < n
      . have hd : decide ((i : Int) < (n : Int)) = true := decide_eq_true (by omega)
        obtain ⟨x, hx⟩ : ∃ x, l[i]? = some x := ⟨_, List.getElem?_eq_getElem (by rw [HL.out]; exact h)⟩
        obtain ⟨y, hy⟩ : ∃ y, m[i]? = some y := ⟨_, List.getElem?_eq_getElem (by rw [HM.out]; exact h)⟩
        obtain ⟨g, off, rfl, hg⟩ := (HA.out.below hb).resolve_left (fun e => by rw [e] at hx; simp at hx)
        obtain ⟨g2, off2, rfl, hg2⟩ := (HB.out.below hb).resolve_left (fun e => by rw [e] at hy; simp at hy)
        have k1 := hg i x hx
        have k2 := hg2 i y hy
        by_cases hxy : x = y
        . subst hxy
          have HS2 := hide (take_eq_succ HS.out hx hy)
          clear hg hg2 hx hy HS
          go_wp2_with fail
          go_region
          go_wp2_with fail
          go_roundw
          case rel => exact ⟨i + 1, by go_num, by omega, HS2, hb.drew⟩
          case measure => simp [Go.RowKit.intOf]; omega
        . have e1 : (x != y) = true := by simpa using hxy
          have e2 : (x == y) = false := by simpa using hxy
          have HN : Hid (R = false) := hide (by
            rw [← HR.out]
            refine decide_eq_false fun e => ?_
            rw [e, hy] at hx
            cases hx
            exact hxy rfl)
          clear hg hg2 hx hy HS
          go_wp2_with fail
          go_region
          go_wp2_with fail
          go_ret
          exact ⟨by rw [HN.out]; rfl, hb.drew⟩
      . obtain rfl : n = i := by omega
        have HN : Hid (R = true) := hide (by
          rw [← HR.out]
          refine decide_eq_true (eq_of_take (by rw [HL.out, HM.out]) ?_)
          rw [HL.out]
          exact HS.out)
        clear HS
        go_wp2_with fail
        go_ret
        exact ⟨by rw [HN.out]; rfl, hb⟩
  . have e1 : ((l.length : Int) != (m.length : Int)) = true := by simp; omega
    have e2 : ((l.length : Int) == (m.length : Int)) = false := by simp; omega
    have hR : decide (l = m) = false := decide_eq_false fun e => hlm (by rw [e])
    rw [hR]
    generalize l.length = n at *
    generalize m.length = n2 at *
    clear hA hB
    go_enter Tryz.func9, Tryz.ntmps9
    go_wp2_with fail
    go_ret
    exact ⟨rfl, Below.refl _ _⟩
theorem ci_szC {V : World} {B : Nat} {c : Circ} {bo : Option Addr} {j : Nat} (hS : Szs c.ops) (h : OpsOwn V B bo c.ops.length j c.ops) : Ci V c bo j := by
  obtain ⟨h1, h2⟩ := h.at.rd
  exact ⟨h1, h2, Nat.le_trans hS.1 (by decide), fun o ho => Nat.le_trans (hS.2 o ho) (by decide)⟩
structure OtC (B E : Nat) (w w' : World) : Prop where
  os : w'.os = w.os
  tape : w'.tape = w.tape
  output : w'.output = w.output
  size : w'.heap.size = w.heap.size
  block : ∀ g, g < B ∨ E <= g -> w'.heap[g]? = w.heap[g]?
theorem OtC.refl (B E : Nat) (w : World) : OtC B E w w := ⟨rfl, rfl, rfl, rfl, fun _ _ => rfl⟩
theorem OtC.setCell {B E : Nat} {w w' : World} (h : OtC B E w w') {g : Nat} (i : Nat) (h1 : B <= g) (h2 : g < E) (v : Value) : OtC B E w (w'.setCell ⟨g, i, none⟩ v) :=
  ⟨h.os, h.tape, h.output, by simp [World.setCell, h.size], fun k hk => (Below.heap_setCell _ _ _ _ (fun e => by have e' : k = g := e; omega)).trans (h.block k hk)⟩
theorem OtC.below {B E : Nat} {w w' : World} (h : OtC B E w w') : Below B w w' := ⟨h.os, h.tape, h.output, Nat.le_of_eq h.size.symm, fun k hk => h.block k (.inl hk)⟩
theorem szs_cmp (c : Circ) (hS : Szs c.ops) : Szs (cmpP c).1.ops := by
  unfold cmpP
  split
  . exact ⟨Nat.zero_le _, fun o ho => by cases ho⟩
  . refine ⟨by simp only [cmpO, List.length_map]; exact hS.1, fun o ho => ?_⟩
    obtain ⟨p, hp, rfl⟩ := List.mem_map.1 ho
    simpa [reO] using hS.2 p hp
theorem cmp_len (c : Circ) : (cmpP c).2.1.length <= 64 /\ (cmpP c).2.2.1.length <= 64 := by
  unfold cmpP
  split
  . exact ⟨Nat.zero_le _, Nat.zero_le _⟩
  . rename_i h
    have hk : (chkC c).2 = 0 := by omega
    obtain ⟨h1, h2, h3, h4, -, -⟩ := chkC_ok hk
    have e1 := flN_len (usQ c.ops) c.q.toNat
    have e2 := flN_len (usB c.ops) c.b.toNat
    refine ⟨?_, ?_⟩
    . show (rise (usQ c.ops)).length <= 64
      rw [cmp_q hk]
      omega
    . show (rise (usB c.ops)).length <= 64
      rw [cmp_b hk]
      omega
theorem OwnI.room {w : World} {B : Nat} {ao : Option Addr} {c : Nat} {l : List Int} (h : OwnI w B ao c l) : l.length <= c := by
  rcases h.2 with ⟨e, e0⟩ | ⟨g, cap, cur, e, -, -, h1, -⟩
  . omega
  . simp only [Value.slice.injEq] at e
    omega
theorem xCircuitCompacts (c : Circ) (ao : Option Addr) (k : Nat) (hS : Szs c.ops) (w : World) (hT : Tq w) (hC : Ci w c ao k) : Calls Tryz.prog 3 #[cV c ao k] w fun e w' => e = .returned (.bool true) /\ Below w.heap.size w w' := by
  have C1 := hide (fun V (h : Below w.heap.size w V) => eCopyO c ao k hS V (hC.below h))
  have C2 := hide (fun V (h : Below w.heap.size w V) => cCompactA c ao k hS V (hT.below h).tb (hC.below h))
  have C3 := hide (fun V (h : Below w.heap.size w V) => eCompactA c ao k hS V (hC.below h))
  have hsz := szs_cmp c hS
  have hln := cmp_len c
  have C4 := hide (fun V B1 B2 x1 k1 x2 k2 (h1 : OpsOwn V B1 x1 (cmpP c).1.ops.length k1 (cmpP c).1.ops) (h2 : OpsOwn V B2 x2 (cmpP c).1.ops.length k2 (cmpP c).1.ops) => eSame (cmpP c).1 (cmpP c).1 x1 x2 k1 k2 V (ci_szC hsz h1) (ci_szC hsz h2))
  have C5 := hide (fun V a1 d1 a2 d2 (h1 : Ns V a1 (cmpP c).2.1) (h2 : Ns V a2 (cmpP c).2.1) => aInts a1 a2 d1 d2 (cmpP c).2.1 (cmpP c).2.1 (by omega) V h1 h2)
  have C6 := hide (fun V a1 d1 a2 d2 (h1 : Ns V a1 (cmpP c).2.2.1) (h2 : Ns V a2 (cmpP c).2.2.1) => aInts a1 a2 d1 d2 (cmpP c).2.2.1 (cmpP c).2.2.1 (by omega) V h1 h2)
  have C7 := hide (fun (hz : (chkC c).2 = 0) V (h : Below w.heap.size w V) x1 k1 (h1 : Ci V (cmpP c).1 x1 k1) a1 d1 a2 d2 (n1 : Ns V a1 (cmpP c).2.1) (n2 : Ns V a2 (cmpP c).2.2.1) (r1 : (cmpP c).2.1.length <= d1) (r2 : (cmpP c).2.2.1.length <= d2) => by
    have := cEmbedA (cmpP c).1 x1 k1 (cmpP c).2.1 (cmpP c).2.2.1 a1 a2 d1 d2 c.q c.b hsz (by omega) r1 (by omega) r2 V (hT.below h).tb h1 n1 n2
    have e : embP (cmpP c).1 (cmpP c).2.1 (cmpP c).2.2.1 c.q c.b = (c, 0) := by
      unfold cmpP
      rw [if_neg (by omega)]
      exact cmp_back hz
    simp only [e] at this
    exact this)
  have C8 := hide (fun V (h : Below w.heap.size w V) x1 k1 (h1 : Ci V c x1 k1) => cSame c c x1 ao k1 k V h1 (hC.below h))
  rw [decide_eq_true (rfl : c = c)] at C8
  have C9 := hide (fun V (h : Below w.heap.size w V) x1 k1 (h1 : Ci V c x1 k1) => eSame c c ao x1 k k1 V (hC.below h) h1)
  have C10 := hide (fun V (h : Below w.heap.size w V) => aAlive V (hT.below h))
  have C11 := hide (fun V B1 x1 k1 (h1 : OpsOwn V B1 x1 c.ops.length k1 c.ops) => ci_szC hS h1)
  have C12 := hide (fun V B1 x1 k1 (h1 : OpsOwn V B1 x1 (cmpP c).1.ops.length k1 (cmpP c).1.ops) => ci_szC hsz h1)
  rw [decide_eq_true (rfl : (cmpP c).1 = (cmpP c).1)] at C4
  rw [decide_eq_true (rfl : (cmpP c).2.1 = (cmpP c).2.1)] at C5
  rw [decide_eq_true (rfl : (cmpP c).2.2.1 = (cmpP c).2.2.1)] at C6
  rw [decide_eq_true (rfl : c = c)] at C9
  have HSZ := hide hsz
  have hf : (cmpP c).2.2.2 = 80 ∨ (cmpP c).2.2.2 = 0 /\ (chkC c).2 = 0 := by
    unfold cmpP
    by_cases h : (chkC c).2 ≠ 0
    . rw [if_pos h]; exact .inl rfl
    . rw [if_neg h]; exact .inr ⟨rfl, by omega⟩
  generalize (cmpP c).2.2.2 = fe at *
  generalize ((chkC c).2 = 0) = Zp at *
  have HF := hide hf
  clear hf
  generalize (cmpP c).1 = P at *
  generalize (cmpP c).2.1 = LQ at *
  generalize (cmpP c).2.2.1 = LB at *
  clear hC hT hS hsz
  obtain ⟨q0, b0, l0⟩ := c
  obtain ⟨qp, bp, lp⟩ := P
  unfold cV at *
  simp only at *
  generalize l0.length = n0 at *
  obtain ⟨np, hnp⟩ : ∃ np, lp.length = np := ⟨_, rfl⟩
  have HLP := hide hnp
  have HNN : Hid (np <= 2199023255552) := hide (by rw [← hnp]; exact HSZ.out.1)
  rw [hnp] at C2 C3 C4 C12 C7
  clear hnp
  obtain ⟨mq, hmq⟩ : ∃ mq, LQ.length = mq := ⟨_, rfl⟩
  obtain ⟨mb, hmb⟩ : ∃ mb, LB.length = mb := ⟨_, rfl⟩
  have HMQ := hide hmq
  have HMB := hide hmb
  rw [hmq] at C2 C3 C5 C7
  rw [hmb] at C2 C3 C6 C7
  clear hmq hmb hln
  have HB0 := hide (bnew w (.cells #[.int .i64 q0, .int .i64 b0, .slice ao n0 k] 24))
  have HD0 := hide (heap_alloc_new w (.cells #[.int .i64 q0, .int .i64 b0, .slice ao n0 k] 24))
  go_enter Tryz.func3, Tryz.ntmps3
  go_upto_region 2 with (go_at_call 4; (with_reducible refine Calls.mono (C1.out _ HB0.out) ?_); rintro e w1 ⟨bo, j, rfl, hO1, hb1⟩; have HB1 := hide (HB0.out.trans (hb1.mono HB0.out.size)); have HD1 := hide ((hb1.block _ (def_cells HD0.out).2.2.2).trans HD0.out); have HO1 := hide hO1; clear hO1 hb1)
  have HK0 : Hid (Below w.heap.size w (w1.alloc (.cells #[.int .i64 q0, .int .i64 b0, .slice bo n0 j] 24)) /\ (w1.alloc (.cells #[.int .i64 q0, .int .i64 b0, .slice bo n0 j] 24)).heap[w.heap.size]? = some (.cells #[.int .i64 q0, .int .i64 b0, .slice ao n0 k] 24) /\ (w1.alloc (.cells #[.int .i64 q0, .int .i64 b0, .slice bo n0 j] 24)).heap[w1.heap.size]? = some (.cells #[.int .i64 q0, .int .i64 b0, .slice bo n0 j] 24) /\ Ci (w1.alloc (.cells #[.int .i64 q0, .int .i64 b0, .slice bo n0 j] 24)) ⟨q0, b0, l0⟩ bo j) := hide ⟨HB1.out.trans ((bnew _ _).mono HB1.out.size), (Below.heap_alloc _ _ _ (def_cells HD1.out).2.2.2).trans HD1.out, heap_alloc_new _ _, C11.out _ _ bo j (HO1.out.below (bnew _ _))⟩
  generalize (w1.alloc (.cells #[.int .i64 q0, .int .i64 b0, .slice bo n0 j] 24)) = WK at *
  have HKK : Hid (∀ V, Below WK.heap.size WK V -> Below w.heap.size w V /\ V.heap[w.heap.size]? = some (.cells #[.int .i64 q0, .int .i64 b0, .slice ao n0 k] 24) /\ V.heap[w1.heap.size]? = some (.cells #[.int .i64 q0, .int .i64 b0, .slice bo n0 j] 24) /\ Ci V ⟨q0, b0, l0⟩ bo j) := hide (fun V h => ⟨HK0.out.1.trans (h.mono HK0.out.1.size), (h.block _ (def_cells HK0.out.2.1).2.2.2).trans HK0.out.2.1, (h.block _ (def_cells HK0.out.2.2.1).2.2.2).trans HK0.out.2.2.1, HK0.out.2.2.2.below h⟩)
  obtain ⟨x0, x1, x2, x3⟩ := def_cells HK0.out.2.1
  go_upto_region 3 with (go_at_call 5; (with_reducible refine Calls.mono (C2.out _ HK0.out.1) ?_); rintro e w2 ⟨co, cap, aq, cq, ab, cb, rfl, hO2, hq2, hb2', hb2⟩; have HO2 := hide hO2; have HB2 := hide hb2; have HQ2 := hide hq2; have HQb2 := hide hb2'; clear hO2 hb2 hq2 hb2')
  have HRm : Hid (mq <= cq /\ mb <= cb) := hide (by
    have h1 := HQ2.out.room
    have h2 := HQb2.out.room
    rw [HMQ.out] at h1
    rw [HMB.out] at h2
    exact ⟨h1, h2⟩)
  have HWDb : Hid (∀ g', g' < w2.heap.size -> (w2.alloc (.cells #[.int .i64 qp, .int .i64 bp, .slice co np cap] 24)).heap[g']? = w2.heap[g']?) := hide (fun g' h => Below.heap_alloc _ _ _ h)
  have HDd := hide (heap_alloc_new w2 (.cells #[.int .i64 qp, .int .i64 bp, .slice co np cap] 24))
  have HWKD := hide (HB2.out.trans ((bnew w2 (.cells #[.int .i64 qp, .int .i64 bp, .slice co np cap] 24)).mono HB2.out.size))
  have HD2 : Hid (OpsOwn (w2.alloc (.cells #[.int .i64 qp, .int .i64 bp, .slice co np cap] 24)) WK.heap.size co np cap lp /\ OwnI (w2.alloc (.cells #[.int .i64 qp, .int .i64 bp, .slice co np cap] 24)) WK.heap.size aq cq LQ /\ OwnI (w2.alloc (.cells #[.int .i64 qp, .int .i64 bp, .slice co np cap] 24)) WK.heap.size ab cb LB) := hide ⟨HO2.out.below (bnew _ _), HQ2.out.below (bnew _ _), HQb2.out.below (bnew _ _)⟩
  generalize (w2.alloc (.cells #[.int .i64 qp, .int .i64 bp, .slice co np cap] 24)) = WD at *
  clear x0 x1 x2 x3
  obtain ⟨x0, x1, x2, x3⟩ := def_cells (HKK.out WD HWKD.out).2.1
  go_upto_region 4 with (go_at_call 6; (with_reducible refine Calls.mono (C3.out _ (HKK.out WD HWKD.out).1) ?_); rintro e w3 ⟨co2, cap2, aq2, cq2, ab2, cb2, rfl, hO3, hq3, hb3', hb3⟩; have HO3 := hide hO3; have HB3 := hide hb3; have HQ3 := hide hq3; have HQb3 := hide hb3'; clear hO3 hb3 hq3 hb3')
  have HWDX := hide (HB3.out.trans ((bnew w3 (.cells #[.int .i64 qp, .int .i64 bp, .slice co2 np cap2] 24)).mono HB3.out.size))
  have HXX := hide (heap_alloc_new w3 (.cells #[.int .i64 qp, .int .i64 bp, .slice co2 np cap2] 24))
  have HXO : Hid (OpsOwn (w3.alloc (.cells #[.int .i64 qp, .int .i64 bp, .slice co2 np cap2] 24)) WK.heap.size co np cap lp /\ OpsOwn (w3.alloc (.cells #[.int .i64 qp, .int .i64 bp, .slice co2 np cap2] 24)) WD.heap.size co2 np cap2 lp /\ OwnI (w3.alloc (.cells #[.int .i64 qp, .int .i64 bp, .slice co2 np cap2] 24)) WK.heap.size aq cq LQ /\ OwnI (w3.alloc (.cells #[.int .i64 qp, .int .i64 bp, .slice co2 np cap2] 24)) WD.heap.size aq2 cq2 LQ /\ OwnI (w3.alloc (.cells #[.int .i64 qp, .int .i64 bp, .slice co2 np cap2] 24)) WK.heap.size ab cb LB /\ OwnI (w3.alloc (.cells #[.int .i64 qp, .int .i64 bp, .slice co2 np cap2] 24)) WD.heap.size ab2 cb2 LB) := hide ⟨HD2.out.1.below HWDX.out, HO3.out.below (bnew _ _), HD2.out.2.1.below HWDX.out, HQ3.out.below (bnew _ _), HD2.out.2.2.below HWDX.out, HQb3.out.below (bnew _ _)⟩
  have HDx := hide ((HWDX.out.block _ (def_cells HDd.out).2.2.2).trans HDd.out)
  generalize (w3.alloc (.cells #[.int .i64 qp, .int .i64 bp, .slice co2 np cap2] 24)) = WX at *
  have HXW : Hid (∀ V, Below WX.heap.size WX V -> Below w.heap.size w V) := hide (fun V h => (HKK.out V (HWKD.out.trans ((HWDX.out.trans (h.mono HWDX.out.size)).mono HWKD.out.size))).1)
  have HXC : Hid (∀ V, Below WX.heap.size WX V -> Ci V ⟨qp, bp, lp⟩ co cap) := hide (fun V h => C12.out V _ co cap (HXO.out.1.below h))
  have HXN : Hid (∀ V, Below WX.heap.size WX V -> Ns V aq LQ /\ Ns V aq2 LQ /\ Ns V ab LB /\ Ns V ab2 LB /\ V.heap[w2.heap.size]? = some (.cells #[.int .i64 qp, .int .i64 bp, .slice co np cap] 24) /\ V.heap[w.heap.size]? = some (.cells #[.int .i64 q0, .int .i64 b0, .slice ao n0 k] 24)) := hide (fun V h => ⟨(HXO.out.2.2.1.below h).ns, (HXO.out.2.2.2.1.below h).ns, (HXO.out.2.2.2.2.1.below h).ns, (HXO.out.2.2.2.2.2.below h).ns, (h.block _ (def_cells HDx.out).2.2.2).trans HDx.out, (HKK.out V (HWKD.out.trans ((HWDX.out.trans (h.mono HWDX.out.size)).mono HWKD.out.size))).2.1⟩)
  clear x0 x1 x2 x3
  obtain ⟨x0, x1, x2, x3⟩ := def_cells HXX.out
  obtain ⟨y0, y1, y2, y3⟩ := def_cells HDx.out
  go_upto_region 6 with (first
    | (go_at_call 7; (with_reducible refine Calls.mono (aNum _ _) ?_); rintro e x ⟨rfl, hw⟩; obtain rfl := hw.symm)
    | (go_at_call 8; (with_reducible refine Calls.mono (C4.out WX _ _ co cap co2 cap2 (HXO.out.1) HXO.out.2.1) ?_); rintro e w4 ⟨rfl, hb4⟩; have HB4 := hide hb4; clear hb4)
    | (go_at_call 9; (with_reducible refine Calls.mono (C5.out _ aq cq aq2 cq2 (HXN.out _ HB4.out).1 (HXN.out _ HB4.out).2.1) ?_); rintro e w5 ⟨rfl, hb5⟩; have HB5 := hide (HB4.out.trans (hb5.mono HB4.out.size)); clear hb5)
    | (go_at_call 9; (with_reducible refine Calls.mono (C6.out _ ab cb ab2 cb2 (HXN.out _ HB5.out).2.2.1 (HXN.out _ HB5.out).2.2.2.1) ?_); rintro e w6 ⟨rfl, hb6⟩; have HB6 := hide (HB5.out.trans (hb6.mono HB5.out.size)); obtain ⟨j0, j1, j2, j3⟩ := def_cells (HXN.out _ HB6.out).2.2.2.2.1; obtain ⟨i0, i1, i2, i3⟩ := def_cells (HXN.out _ HB6.out).2.2.2.2.2; clear hb6))
  rcases HF.out with rfl | ⟨rfl, hzp⟩
  . go_wp2_with fail
    obtain ⟨wz, hwz⟩ : ∃ wz, wz = w6 := ⟨_, rfl⟩
    subst hwz
    have HBX := HB6
    have HBz : Hid (Below WD.heap.size WD wz) := hide (HWDX.out.trans (HBX.out.mono HWDX.out.size))
    have HWz : Hid (Below WK.heap.size WK wz) := hide (HWKD.out.trans (HBz.out.mono HWKD.out.size))
    obtain ⟨Bw, hBw⟩ : ∃ Bw, WK.heap.size = Bw := ⟨_, rfl⟩
    have HEB := hide hBw
    obtain ⟨Ew, hEw⟩ : ∃ Ew, w2.heap.size = Ew := ⟨_, rfl⟩
    have HEE := hide hEw
    have HZS : Hid (Bw <= Ew /\ Ew < WD.heap.size /\ WD.heap.size <= wz.heap.size) := hide (by
      have z1 := HB2.out.size
      have z2 := (def_cells HDd.out).2.2.2
      have z3 := HBz.out.size
      omega)
    have HDO : Hid (DOwn wz Bw Ew co np cap (lp.map (·.qs.length))) := hide (by
      have h := HO2.out.down
      rw [HEB.out, HEE.out] at h
      refine h.kept fun g' h1 h2 => ?_
      have z := HZS.out
      rw [HBz.out.block g' (by omega), HWDb.out g' (by omega)])
    have HDz : Hid (wz.heap[Ew]? = some (.cells #[.int .i64 qp, .int .i64 bp, .slice co np cap] 24)) := hide (by rw [← HEE.out]; exact (HBz.out.block _ (def_cells HDd.out).2.2.2).trans HDd.out)
    rw [hEw]
    clear hBw hEw
    go_loopw [14] (fun vi wr => ∃ i : Nat, vi = .int .i64 (i : Int) /\ i <= np /\ OtC Bw Ew wz wr /\ DOwn wr Bw Ew co np cap (lp.map (·.qs.length))) (fun vi _ => np - (Go.RowKit.intOf vi).toNat)
    case atStart => exact ⟨0, rfl, Nat.zero_le _, OtC.refl _ _ _, HDO.out⟩
    case round =>
      obtain ⟨i, rfl, hi, hot, hdo⟩ := hrel
      have hcd := (hot.block _ (.inr (Nat.le_refl _))).trans HDz.out
      obtain ⟨y0, y1, y2, y3⟩ := def_cells hcd
      have HOT := hide hot
      have HDD := hide hdo
      clear hot hdo hcd
      by_cases h : i < np
      . have hd : decide ((i : Int) < (np : Int)) = true := decide_eq_true (by omega)
        have hkk : (i : Int) < (np : Int) := by omega
        obtain ⟨mm, hm⟩ : ∃ mm, (lp.map (·.qs.length))[i]? = some mm := ⟨_, List.getElem?_eq_getElem (by rw [List.length_map, HLP.out]; exact h)⟩
        have HM := hide hm
        have hmb : mm <= 17592186044416 := by
          rw [List.getElem?_map] at hm
          obtain ⟨o, ho, rfl⟩ := Option.map_eq_some_iff.1 hm
          exact HSZ.out.2 o (List.mem_of_getElem? ho)
        have hnb := HNN.out
        clear hm
        obtain ⟨gd, -, -, -, rfl, -⟩ := HDD.out.get HM.out
        go_wp2_with fail
        go_loopw [15] (fun vk wr => ∃ k' : Nat, vk = .int .i64 (k' : Int) /\ k' <= mm /\ OtC Bw Ew wz wr /\ DOwn wr Bw Ew (some ⟨gd, 0, none⟩) np cap (lp.map (·.qs.length))) (fun vk _ => mm - (Go.RowKit.intOf vk).toNat)
        case atStart => exact ⟨0, rfl, Nat.zero_le _, HOT.out, HDD.out⟩
        case round =>
          obtain ⟨k', rfl, hk', hot, hdo⟩ := hrel
          have hcd := (hot.block _ (.inr (Nat.le_refl _))).trans HDz.out
          obtain ⟨z0, z1, z2, z3⟩ := def_cells hcd
          obtain ⟨aq', cq', u, p1, p2, p3, p4, p5, p6, p7, p8⟩ := hdo.getS HM.out
          have HOT2 := hide hot
          have HDD2 := hide hdo
          by_cases hk : k' < mm
          . have hd2 : decide ((k' : Int) < (mm : Int)) = true := decide_eq_true (by omega)
            have hkk2 : (k' : Int) < (mm : Int) := by omega
            obtain ⟨g, x, rfl, r1, r2, r3, r4, r5, r6⟩ := p8 k' hk
            have HR6 := hide r6
            clear hot hdo hcd p7 p8 r6
            go_wp2_with fail
            go_roundw
            case rel => exact ⟨k' + 1, by go_num, by omega, HOT2.out.setCell _ r1 r2 _, HR6.out _⟩
            case measure => simp [Go.RowKit.intOf]; omega
          . obtain rfl : mm = k' := by omega
            clear hot hdo hcd p7 p8
            go_wp2_with fail
            go_roundw
            case rel => exact ⟨i + 1, by go_num, by omega, HOT2.out, HDD2.out⟩
            case measure => simp [Go.RowKit.intOf]; omega
      . obtain rfl : np = i := by omega
        have HBF : Hid (Below WK.heap.size WK wr) := hide (HWz.out.trans (by have := HOT.out.below; rw [← HEB.out] at this; exact this))
        obtain ⟨f0, f1, f2, f3⟩ := HKK.out wr HBF.out
        obtain ⟨s0, s1, s2, s3⟩ := def_cells f1
        obtain ⟨t0, t1, t2, t3⟩ := def_cells f2
        clear f0 f1 f2 f3 HDD HDO
        go_wp2_with (first
          | (go_at_call 8; (with_reducible refine Calls.mono (C9.out _ (HKK.out _ HBF.out).1 bo j (HKK.out _ HBF.out).2.2.2) ?_); rintro e v8 ⟨rfl, hb8⟩; have HB8 := hide (HBF.out.trans (hb8.mono HBF.out.size)); clear hb8)
          | (go_at_call 12; (with_reducible refine Calls.mono (C10.out _ (HKK.out _ HB8.out).1) ?_); rintro e v9 ⟨rfl, hb9⟩; have HB9 := hide (HB8.out.trans (hb9.mono HB8.out.size)); clear hb9))
        go_ret
        exact ⟨rfl, (HKK.out _ HB9.out).1⟩
  . go_wp2_with (first
      | (go_at_call 7; (with_reducible refine Calls.mono (aNum _ _) ?_); rintro e x ⟨rfl, hw⟩; obtain rfl := hw.symm)
      | (go_at_call 10; (with_reducible refine Calls.mono (C7.out hzp _ (HXW.out _ HB6.out) co cap (HXC.out _ HB6.out) aq cq ab cb (HXN.out _ HB6.out).1 (HXN.out _ HB6.out).2.2.1 HRm.out.1 HRm.out.2) ?_); rintro e w7 ⟨ro, rcap, rfl, hO7, hb7⟩; have HO7 := hide hO7; have HB7 := hide (HB6.out.trans (hb7.mono HB6.out.size)); have HB7a := hide (HB7.out.trans ((bnew w7 (.cells #[.int .i64 q0, .int .i64 b0, .slice ro n0 rcap] 24)).mono HB7.out.size)); obtain ⟨j0, j1, j2, j3⟩ := def_cells (HXN.out _ HB7.out).2.2.2.2.2; clear hO7 hb7)
      | (go_at_call 11; (with_reducible refine Calls.mono (C8.out _ (HXW.out _ HB7a.out) ro rcap (C11.out _ _ ro rcap (HO7.out.below (bnew _ _)))) ?_); rintro e wz ⟨rfl, hb8⟩; have HBX := hide (HB7a.out.trans (hb8.mono HB7a.out.size)); obtain ⟨j0, j1, j2, j3⟩ := def_cells (HXN.out _ HBX.out).2.2.2.2.1; clear hb8))
    have HBz : Hid (Below WD.heap.size WD wz) := hide (HWDX.out.trans (HBX.out.mono HWDX.out.size))
    have HWz : Hid (Below WK.heap.size WK wz) := hide (HWKD.out.trans (HBz.out.mono HWKD.out.size))
    obtain ⟨Bw, hBw⟩ : ∃ Bw, WK.heap.size = Bw := ⟨_, rfl⟩
    have HEB := hide hBw
    obtain ⟨Ew, hEw⟩ : ∃ Ew, w2.heap.size = Ew := ⟨_, rfl⟩
    have HEE := hide hEw
    have HZS : Hid (Bw <= Ew /\ Ew < WD.heap.size /\ WD.heap.size <= wz.heap.size) := hide (by
      have z1 := HB2.out.size
      have z2 := (def_cells HDd.out).2.2.2
      have z3 := HBz.out.size
      omega)
    have HDO : Hid (DOwn wz Bw Ew co np cap (lp.map (·.qs.length))) := hide (by
      have h := HO2.out.down
      rw [HEB.out, HEE.out] at h
      refine h.kept fun g' h1 h2 => ?_
      have z := HZS.out
      rw [HBz.out.block g' (by omega), HWDb.out g' (by omega)])
    have HDz : Hid (wz.heap[Ew]? = some (.cells #[.int .i64 qp, .int .i64 bp, .slice co np cap] 24)) := hide (by rw [← HEE.out]; exact (HBz.out.block _ (def_cells HDd.out).2.2.2).trans HDd.out)
    rw [hEw]
    clear hBw hEw
    go_loopw [14] (fun vi wr => ∃ i : Nat, vi = .int .i64 (i : Int) /\ i <= np /\ OtC Bw Ew wz wr /\ DOwn wr Bw Ew co np cap (lp.map (·.qs.length))) (fun vi _ => np - (Go.RowKit.intOf vi).toNat)
    case atStart => exact ⟨0, rfl, Nat.zero_le _, OtC.refl _ _ _, HDO.out⟩
    case round =>
      obtain ⟨i, rfl, hi, hot, hdo⟩ := hrel
      have hcd := (hot.block _ (.inr (Nat.le_refl _))).trans HDz.out
      obtain ⟨y0, y1, y2, y3⟩ := def_cells hcd
      have HOT := hide hot
      have HDD := hide hdo
      clear hot hdo hcd
      by_cases h : i < np
      . have hd : decide ((i : Int) < (np : Int)) = true := decide_eq_true (by omega)
        have hkk : (i : Int) < (np : Int) := by omega
        obtain ⟨mm, hm⟩ : ∃ mm, (lp.map (·.qs.length))[i]? = some mm := ⟨_, List.getElem?_eq_getElem (by rw [List.length_map, HLP.out]; exact h)⟩
        have HM := hide hm
        have hmb : mm <= 17592186044416 := by
          rw [List.getElem?_map] at hm
          obtain ⟨o, ho, rfl⟩ := Option.map_eq_some_iff.1 hm
          exact HSZ.out.2 o (List.mem_of_getElem? ho)
        have hnb := HNN.out
        clear hm
        obtain ⟨gd, -, -, -, rfl, -⟩ := HDD.out.get HM.out
        go_wp2_with fail
        go_loopw [15] (fun vk wr => ∃ k' : Nat, vk = .int .i64 (k' : Int) /\ k' <= mm /\ OtC Bw Ew wz wr /\ DOwn wr Bw Ew (some ⟨gd, 0, none⟩) np cap (lp.map (·.qs.length))) (fun vk _ => mm - (Go.RowKit.intOf vk).toNat)
        case atStart => exact ⟨0, rfl, Nat.zero_le _, HOT.out, HDD.out⟩
        case round =>
          obtain ⟨k', rfl, hk', hot, hdo⟩ := hrel
          have hcd := (hot.block _ (.inr (Nat.le_refl _))).trans HDz.out
          obtain ⟨z0, z1, z2, z3⟩ := def_cells hcd
          obtain ⟨aq', cq', u, p1, p2, p3, p4, p5, p6, p7, p8⟩ := hdo.getS HM.out
          have HOT2 := hide hot
          have HDD2 := hide hdo
          by_cases hk : k' < mm
          . have hd2 : decide ((k' : Int) < (mm : Int)) = true := decide_eq_true (by omega)
            have hkk2 : (k' : Int) < (mm : Int) := by omega
            obtain ⟨g, x, rfl, r1, r2, r3, r4, r5, r6⟩ := p8 k' hk
            have HR6 := hide r6
            clear hot hdo hcd p7 p8 r6
            go_wp2_with fail
            go_roundw
            case rel => exact ⟨k' + 1, by go_num, by omega, HOT2.out.setCell _ r1 r2 _, HR6.out _⟩
            case measure => simp [Go.RowKit.intOf]; omega
          . obtain rfl : mm = k' := by omega
            clear hot hdo hcd p7 p8
            go_wp2_with fail
            go_roundw
            case rel => exact ⟨i + 1, by go_num, by omega, HOT2.out, HDD2.out⟩
            case measure => simp [Go.RowKit.intOf]; omega
      . obtain rfl : np = i := by omega
        have HBF : Hid (Below WK.heap.size WK wr) := hide (HWz.out.trans (by have := HOT.out.below; rw [← HEB.out] at this; exact this))
        obtain ⟨f0, f1, f2, f3⟩ := HKK.out wr HBF.out
        obtain ⟨s0, s1, s2, s3⟩ := def_cells f1
        obtain ⟨t0, t1, t2, t3⟩ := def_cells f2
        clear f0 f1 f2 f3 HDD HDO
        go_wp2_with (first
          | (go_at_call 8; (with_reducible refine Calls.mono (C9.out _ (HKK.out _ HBF.out).1 bo j (HKK.out _ HBF.out).2.2.2) ?_); rintro e v8 ⟨rfl, hb8⟩; have HB8 := hide (HBF.out.trans (hb8.mono HBF.out.size)); clear hb8)
          | (go_at_call 12; (with_reducible refine Calls.mono (C10.out _ (HKK.out _ HB8.out).1) ?_); rintro e v9 ⟨rfl, hb9⟩; have HB9 := hide (HB8.out.trans (hb9.mono HB8.out.size)); clear hb9))
        go_ret
        exact ⟨rfl, (HKK.out _ HB9.out).1⟩
end Go.Proofs.YtijemaahibjejaaGreatDoor.Cir
