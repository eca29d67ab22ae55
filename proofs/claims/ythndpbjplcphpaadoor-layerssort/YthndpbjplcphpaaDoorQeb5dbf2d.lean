import Derived.Test.YthndpbjplcphpaaDoorQ3c3324b3
import Derived.Test.YthndpbjplcphpaaDoorQ9f8c45e5
set_option maxRecDepth 100000
set_option maxHeartbeats 2000000
namespace Go.Proofs.YthndpbjplcphpaaDoor.Cir
open Go.RowKit Go.Shelf Go.Proofs.YthndpbjplcphpaaDoor.Oct Go.Proofs.YthndpbjplcphpaaDoor.Tok Go.Proofs.YthndpbjplcphpaaDoor.Gt
theorem eInts (a b : Option Addr) (ca cb : Nat) (l m : List Int) (hl : l.length <= 1000000000000000) (w : World) (hA : Ns w a l) (hB : Ns w b m) : Calls Tryd.prog 58 #[.slice a l.length ca, .slice b m.length cb] w fun e w' => e = .returned (.bool (decide (l = m))) /\ Below w.heap.size w w' := by
  by_cases hlm : l.length = m.length
  . have HA := hide hA
    have HB := hide hB
    obtain ⟨n, hn⟩ : ∃ n, l.length = n := ⟨_, rfl⟩
    have HL := hide hn
    have HM : Hid (m.length = n) := hide (by omega)
    obtain ⟨R, hR⟩ : ∃ R, decide (l = m) = R := ⟨_, rfl⟩
    have HR := hide hR
    rw [← hlm, hn, hR]
    rw [hn] at hl
    clear hA hB hn hlm hR
    go_enter Tryd.func58, Tryd.ntmps58
    go_wp2_with fail
    go_loopw [5] (fun vi wr => ∃ i : Nat, vi = .int .i64 (i : Int) /\ i <= n /\ Hid (l.take i = m.take i) /\ Below w.heap.size w wr) (fun vi _ => n - (Go.RowKit.intOf vi).toNat)
    case atStart => exact ⟨0, rfl, Nat.zero_le _, hide rfl, Below.refl _ _⟩
    case round =>
      obtain ⟨i, rfl, hi, HS, hb⟩ := hrel
      by_cases h : i < n
      . have hd : decide ((i : Int) < (n : Int)) = true := decide_eq_true (by omega)
        obtain ⟨x, hx⟩ : ∃ x, l[i]? = some x := ⟨_, List.getElem?_eq_getElem (by rw [HL.out]; exact h)⟩
        obtain ⟨y, hy⟩ : ∃ y, m[i]? = some y := ⟨_, List.getElem?_eq_getElem (by rw [HM.out]; exact h)⟩
        obtain ⟨g, off, rfl, hg⟩ := (HA.out.below hb).resolve_left (fun e => by rw [e] at hx; simp at hx)
        obtain ⟨g2, off2, rfl, hg2⟩ := (HB.out.below hb).resolve_left (fun e => by rw [e] at hy; simp at hy)
        have k1 := hg i x hx
        have k2 := hg2 i y hy
        by_cases hxy : x = y
        . subst hxy
          have HS2 := hide (take_eq_succ HS.out hx hy)
          clear hg hg2 hx hy HS
          go_wp2_with fail
          go_region
          go_wp2_with fail
          go_roundw
          case rel => exact ⟨i + 1, by go_num, by omega, HS2, hb.drew⟩
          case measure => simp [Go.RowKit.intOf]; omega
        . have e1 : (x != y) = true := by simpa using hxy
          have e2 : (x == y) = false := by simpa using hxy
          have HN : Hid (R = false) := hide (by
            rw [← HR.out]
            refine decide_eq_false fun e => ?_
            rw [e, hy] at hx
            cases hx
            exact hxy rfl)
          clear hg hg2 hx hy HS
          go_wp2_with fail
          go_region
          go_wp2_with fail
          go_ret
          exact ⟨by rw [HN.out]; rfl, hb.drew⟩
      . obtain rfl : n = i := by omega
        have HN : Hid (R = true) := hide (by
          rw [← HR.out]
          refine decide_eq_true (eq_of_take (by rw [HL.out, HM.out]) ?_)
          rw [HL.out]
          exact HS.out)
        clear HS
        go_wp2_with fail
        go_ret
        exact ⟨by rw [HN.out]; rfl, hb⟩
  . have e1 : ((l.length : Int) != (m.length : Int)) = true := by simp; omega
    have e2 : ((l.length : Int) == (m.length : Int)) = false := by simp; omega
    have hR : decide (l = m) = false := decide_eq_false fun e => hlm (by rw [e])
    rw [hR]
    generalize l.length = n at *
    generalize m.length = n2 at *
    clear hA hB
    go_enter Tryd.func58, Tryd.ntmps58
    go_wp2_with fail
    go_ret
    exact ⟨rfl, Below.refl _ _⟩
theorem eSameOp (o p : COp) (aq ap : Option Addr) (cq cp : Nat) (hl : o.qs.length <= 1000000000000000) (w : World) (hA : Ns w aq o.qs) (hB : Ns w ap p.qs) : Calls Tryd.prog 41 #[opV o aq cq, opV p ap cp] w fun e w' => e = .returned (.bool (decide (o = p))) /\ Below w.heap.size w w' := by
  have c1 := fun V (h : Below w.heap.size w V) => eInts aq ap cq cp o.qs p.qs hl V (hA.below h) (hB.below h)
  obtain ⟨k1, g1, q1, b1, i1, n1⟩ := o
  obtain ⟨k2, g2, q2, b2, i2, n2⟩ := p
  have hdec : decide ((⟨k1, g1, q1, b1, i1, n1⟩ : COp) = ⟨k2, g2, q2, b2, i2, n2⟩) = (decide (k1 = k2) && decide (g1 = g2) && decide (q1 = q2) && decide (b1 = b2) && decide (i1 = i2) && decide (n1 = n2)) := by
    simp only [COp.mk.injEq, Bool.decide_and, Bool.and_assoc]
  rw [hdec]
  clear hdec
  unfold opV
  simp only at *
  generalize decide (q1 = q2) = qe at *
  generalize q1.length = l1 at *
  generalize q2.length = l2 at *
  have hb0 : Below w.heap.size w ((w.alloc (.cells #[.int .i64 k1, .int .i64 g1, .slice aq l1 cq, .int .i64 b1, .int .i64 i1, .int .i64 n1] 57)).alloc (.cells #[.int .i64 k2, .int .i64 g2, .slice ap l2 cp, .int .i64 b2, .int .i64 i2, .int .i64 n2] 57)) := (bnew _ _).trans ((bnew _ _).mono (by simp))
  have HB0 := hide hb0
  clear hb0 hA hB
  by_cases hk : k1 = k2
  . subst hk
    by_cases hg : g1 = g2
    . subst hg
      by_cases hb : b1 = b2
      . subst hb
        by_cases hi : i1 = i2
        . subst hi
          by_cases hn : n1 = n2
          . subst hn
            go_enter Tryd.func41, Tryd.ntmps41
            go_wp2_with (first | (go_at_call 58; refine (c1 _ HB0.out).mono ?_; rintro e w1 ⟨rfl, hb1⟩))
            go_ret
            exact ⟨by simp, HB0.out.trans (hb1.mono HB0.out.size)⟩
          . have e1 : (n1 == n2) = false := by simpa using hn
            go_enter Tryd.func41, Tryd.ntmps41
            go_wp2_with fail
            go_ret
            exact ⟨by simp [hn], HB0.out⟩
        . have e1 : (i1 == i2) = false := by simpa using hi
          go_enter Tryd.func41, Tryd.ntmps41
          go_wp2_with fail
          go_ret
          exact ⟨by simp [hi], HB0.out⟩
      . have e1 : (b1 == b2) = false := by simpa using hb
        go_enter Tryd.func41, Tryd.ntmps41
        go_wp2_with fail
        go_ret
        exact ⟨by simp [hb], HB0.out⟩
    . have e1 : (g1 == g2) = false := by simpa using hg
      go_enter Tryd.func41, Tryd.ntmps41
      go_wp2_with fail
      go_ret
      exact ⟨by simp [hg], HB0.out⟩
  . have e1 : (k1 == k2) = false := by simpa using hk
    go_enter Tryd.func41, Tryd.ntmps41
    go_wp2_with fail
    go_ret
    exact ⟨by simp [hk], HB0.out⟩
theorem eSame (c d : Circ) (ao bo : Option Addr) (k j : Nat) (w : World) (hC : Ci w c ao k) (hD : Ci w d bo j) : Calls Tryd.prog 19 #[cV c ao k, cV d bo j] w fun e w' => e = .returned (.bool (decide (c = d))) /\ Below w.heap.size w w' := by
  obtain ⟨q1, b1, l⟩ := c
  obtain ⟨q2, b2, m⟩ := d
  have hdec : decide ((⟨q1, b1, l⟩ : Circ) = ⟨q2, b2, m⟩) = (decide (q1 = q2) && decide (b1 = b2) && decide (l = m)) := by
    simp only [Circ.mk.injEq, Bool.decide_and, Bool.and_assoc]
  rw [hdec]
  clear hdec
  have hA := hC.ops
  have hB := hD.ops
  have hq := hC.qs
  have hl := hC.len
  clear hC hD
  unfold cV
  simp only at *
  have hb0 : Below w.heap.size w ((w.alloc (.cells #[.int .i64 q1, .int .i64 b1, .slice ao l.length k] 24)).alloc (.cells #[.int .i64 q2, .int .i64 b2, .slice bo m.length j] 24)) := (bnew _ _).trans ((bnew _ _).mono (by simp))
  have HB0 := hide hb0
  clear hb0
  by_cases hqq : q1 = q2
  . subst hqq
    by_cases hbb : b1 = b2
    . subst hbb
      by_cases hlm : l.length = m.length
      . have HA := hide hA
        have HB := hide hB
        obtain ⟨n, hn⟩ : ∃ n, l.length = n := ⟨_, rfl⟩
        have HL := hide hn
        have HM : Hid (m.length = n) := hide (by omega)
        obtain ⟨R, hR⟩ : ∃ R, (decide (q1 = q1) && decide (b1 = b1) && decide (l = m)) = R := ⟨_, rfl⟩
        have HR : Hid (decide (l = m) = R) := hide (by simpa using hR)
        have HQ := hide hq
        rw [← hlm, hn] at HB0
        rw [← hlm, hn, hR]
        rw [hn] at hl
        clear hA hB hn hlm hR hq
        have HK : Hid (∀ V, Below ((w.alloc (.cells #[.int .i64 q1, .int .i64 b1, .slice ao n k] 24)).alloc (.cells #[.int .i64 q1, .int .i64 b1, .slice bo n j] 24)).heap.size ((w.alloc (.cells #[.int .i64 q1, .int .i64 b1, .slice ao n k] 24)).alloc (.cells #[.int .i64 q1, .int .i64 b1, .slice bo n j] 24)) V -> V.cell? ⟨w.heap.size, 2, none⟩ = some (.slice ao n k) /\ V.cell? ⟨w.heap.size + 1, 2, none⟩ = some (.slice bo n j) /\ w.heap.size + 1 < V.heap.size) := hide (fun V hV => by
          obtain ⟨m1, m2⟩ := may_keep hV
          obtain ⟨-, -, x2, x3⟩ := def_cells m1
          obtain ⟨-, -, y2, y3⟩ := def_cells m2
          exact ⟨x2, y2, y3⟩)
        go_enter Tryd.func19, Tryd.ntmps19
        go_wp2_with fail
        generalize hWW : ((w.alloc (.cells #[.int .i64 q1, .int .i64 b1, .slice ao n k] 24)).alloc (.cells #[.int .i64 q1, .int .i64 b1, .slice bo n j] 24)) = WW at *
        clear hWW
        go_loopw [5] (fun vi wr => ∃ i : Nat, vi = .int .i64 (i : Int) /\ i <= n /\ Hid (l.take i = m.take i) /\ Below WW.heap.size WW wr) (fun vi _ => n - (Go.RowKit.intOf vi).toNat)
        case atStart => exact ⟨0, rfl, Nat.zero_le _, hide rfl, Below.refl _ _⟩
        case round =>
          obtain ⟨i, rfl, hi, HS, hbW⟩ := hrel
          have hb := HB0.out.trans (hbW.mono HB0.out.size)
          obtain ⟨x2, y2, xl⟩ := HK.out wr hbW
          by_cases h : i < n
          . have hd : decide ((i : Int) < (n : Int)) = true := decide_eq_true (by omega)
            obtain ⟨x, hx⟩ : ∃ x, l[i]? = some x := ⟨_, List.getElem?_eq_getElem (by rw [HL.out]; exact h)⟩
            obtain ⟨y, hy⟩ : ∃ y, m[i]? = some y := ⟨_, List.getElem?_eq_getElem (by rw [HM.out]; exact h)⟩
            obtain ⟨g, off, aq, cq, rfl, hgl, hoc⟩ := (HA.out.below hb).at hx
            obtain ⟨g2, off2, aq2, cq2, rfl, hgl2, hoc2⟩ := (HB.out.below hb).at hy
            have HC := hide (fun V (h : Below wr.heap.size wr V) => eSameOp x y aq aq2 cq cq2 (HQ.out x (List.mem_of_getElem? hx)) V (hoc.ns.below h) (hoc2.ns.below h))
            have HO1 := hide hoc
            have HO2 := hide hoc2
            have HY : Hid (decide (x = y) = true -> l.take (i + 1) = m.take (i + 1)) := hide (fun e => by
              have e' : x = y := by simpa using e
              subst e'
              exact take_eq_succ HS.out hx hy)
            have HN : Hid (decide (x = y) = false -> R = false) := hide (fun e => by
              have e' : ¬ x = y := by simpa using e
              rw [← HR.out]
              refine decide_eq_false fun e => ?_
              rw [e, hy] at hx
              cases hx
              exact e' rfl)
            clear hx hy hoc hoc2
            have hz := hb.size
            unfold opV at HC
            generalize decide (x = y) = xy at *
            have hi1 : (0 : Int) <= (i : Int) := by omega
            have hi2 : (i : Int) < (n : Int) := by omega
            have HXY : Hid (∀ V, Below wr.heap.size wr V -> (V.cell? ⟨w.heap.size, 2, none⟩ = some (.slice (some ⟨g, off, none⟩) n k) /\ V.cell? ⟨w.heap.size + 1, 2, none⟩ = some (.slice (some ⟨g2, off2, none⟩) n j) /\ w.heap.size + 1 < V.heap.size) /\ g < V.heap.size /\ g2 < V.heap.size /\ (V.cell? ⟨g, off + i * 6, none⟩ = some (.int .i64 x.kind) /\ V.cell? ⟨g, off + i * 6 + 1, none⟩ = some (.int .i64 x.gate) /\ V.cell? ⟨g, off + i * 6 + 2, none⟩ = some (.slice aq x.qs.length cq) /\ V.cell? ⟨g, off + i * 6 + 3, none⟩ = some (.int .i64 x.bit) /\ V.cell? ⟨g, off + i * 6 + 4, none⟩ = some (.int .i64 x.cond) /\ V.cell? ⟨g, off + i * 6 + 5, none⟩ = some (.int .i64 x.whn)) /\ (V.cell? ⟨g2, off2 + i * 6, none⟩ = some (.int .i64 y.kind) /\ V.cell? ⟨g2, off2 + i * 6 + 1, none⟩ = some (.int .i64 y.gate) /\ V.cell? ⟨g2, off2 + i * 6 + 2, none⟩ = some (.slice aq2 y.qs.length cq2) /\ V.cell? ⟨g2, off2 + i * 6 + 3, none⟩ = some (.int .i64 y.bit) /\ V.cell? ⟨g2, off2 + i * 6 + 4, none⟩ = some (.int .i64 y.cond) /\ V.cell? ⟨g2, off2 + i * 6 + 5, none⟩ = some (.int .i64 y.whn))) := hide (fun V hV => by
              have a1 := HO1.out.below hV
              have a2 := HO2.out.below hV
              exact ⟨HK.out V (hbW.trans (hV.mono hbW.size)), Nat.lt_of_lt_of_le hgl hV.size, Nat.lt_of_lt_of_le hgl2 hV.size, ⟨a1.kind, a1.gate, a1.qs, a1.bit, a1.cond, a1.whn⟩, ⟨a2.kind, a2.gate, a2.qs, a2.bit, a2.cond, a2.whn⟩⟩)
            clear HO1 HO2
            obtain ⟨kk1, g1, q1', b1', i1, n1⟩ := x
            obtain ⟨kk2, gg2, q2', b2', i2, n2⟩ := y
            simp only at *
            generalize q1'.length = ql1 at *
            generalize q2'.length = ql2 at *
            go_wp2_with fail
            clear x2 y2
            refine wp_region_quiet (C := fun W => Below wr.heap.size wr W) (by kernel_rfl) (by kernel_rfl) (below_drewN (Below.refl _ _) 1) ?_
            repeat
              refine wpQuiet_step (fun K hK => ?_)
              go_simp
              first
                | (refine hK _ ?_; clear hK K)
                | (apply Exists.intro
                   refine ⟨fun W hW => ?_, hK _ ?_⟩
                   first
                     | (refine (HC.out _ hW).mono ?_; rintro e x ⟨rfl, q⟩; exact ⟨rfl, hW.trans (q.mono hW.size)⟩)
                     | (obtain ⟨⟨v0, v1, v2⟩, v3, v4, ⟨r0, r1, r2, r3, r4, r5⟩, ⟨s0, s1, s2, s3, s4, s5⟩⟩ := HXY.out W hW; go_simp; rfl)
                   clear hK K)
            refine wpQuiet_nil ?_
            intro W hW
            have hbF := hbW.trans (hW.mono hbW.size)
            obtain ⟨⟨v0, v1, v2⟩, -⟩ := HXY.out W hW
            clear HXY
            cases xy with
            | true =>
              have HY2 := hide (HY.out rfl)
              clear HY HN
              go_wp2_with fail
              go_roundw
              case rel => exact ⟨i + 1, by go_num, by omega, HY2, hbF⟩
              case measure => simp [Go.RowKit.intOf]; omega
            | false =>
              have HN2 := hide (HN.out rfl)
              clear HY HN
              go_wp2_with fail
              go_ret
              exact ⟨by rw [HN2.out]; rfl, HB0.out.trans (hbF.mono HB0.out.size)⟩
          . obtain rfl : n = i := by omega
            have HN : Hid (R = true) := hide (by
              rw [← HR.out]
              refine decide_eq_true (eq_of_take (by rw [HL.out, HM.out]) ?_)
              rw [HL.out]
              exact HS.out)
            clear HS
            go_wp2_with fail
            go_ret
            exact ⟨by rw [HN.out]; rfl, hb⟩
      . have e1 : ((l.length : Int) != (m.length : Int)) = true := by simp; omega
        have e2 : ((l.length : Int) == (m.length : Int)) = false := by simp; omega
        have hR : (decide (q1 = q1) && decide (b1 = b1) && decide (l = m)) = false := by
          rw [decide_eq_false (p := l = m) (fun e => hlm (by rw [e]))]
          simp
        rw [hR]
        generalize l.length = n at *
        generalize m.length = n2 at *
        clear hA hB hq hR
        go_enter Tryd.func19, Tryd.ntmps19
        go_wp2_with fail
        go_ret
        exact ⟨rfl, HB0.out⟩
    . have e1 : (b1 == b2) = false := by simpa using hbb
      clear hA hB hq
      generalize decide (l = m) = le at *
      generalize l.length = n at *
      generalize m.length = n2 at *
      go_enter Tryd.func19, Tryd.ntmps19
      go_wp2_with fail
      go_ret
      exact ⟨by simp [hbb], HB0.out⟩
  . have e1 : (q1 == q2) = false := by simpa using hqq
    clear hA hB hq
    generalize decide (l = m) = le at *
    generalize l.length = n at *
    generalize m.length = n2 at *
    go_enter Tryd.func19, Tryd.ntmps19
    go_wp2_with fail
    go_ret
    exact ⟨by simp [hqq], HB0.out⟩
theorem OpsOwn.off {w : World} {B g n c : Nat} {l : List COp} (h : OpsOwn w B (some ⟨g, 0, none⟩) n c l) {i : Nat} {o : COp} (hi : l[i]? = some o) {x : Nat} {cs : Array Value} {fr : Nat × Nat} (hx : w.heap[x]? = some (.cells cs 24 fr)) : x ≠ g /\ ∀ gr cr, w.cell? ⟨g, i * 6 + 2, none⟩ = some (.slice (some ⟨gr, 0, none⟩) o.qs.length cr) -> x ≠ gr := by
  obtain ⟨xs, h1, h2, h3, h4, -⟩ := h
  rw [h2, List.getElem?_map] at hi
  obtain ⟨y, hy, rfl⟩ := Option.map_eq_some_iff.1 hi
  obtain ⟨ao, cr, e, hrow⟩ := h4 y (List.mem_of_getElem? hy)
  refine ⟨fun e' => ?_, fun gr cr' hc e' => ?_⟩
  . subst e'
    exact own_ne h3 hx (by decide) rfl
  . rw [own_at h3 _ _ (opC_at xs i y hy 2 y.2 rfl), e] at hc
    simp only [Option.some.injEq, Value.slice.injEq] at hc
    subst e'
    exact own_ne hrow hx (by decide) (by rw [hc.1]; rfl)
def OpsE (w : World) (B E : Nat) (ao : Option Addr) (n c : Nat) (ops : List COp) : Prop := ∃ xs : List (COp × Value), n = xs.length /\ ops = xs.map (·.1) /\ w.ownsRow B 57 6 (.slice ao n c) n (xs.flatMap opC) /\ (∀ x ∈ xs, RowO w B x.2 x.1.qs) /\ Pw xs /\ ∀ x ∈ xs, ∀ g, x.2.ownBlock = some g -> g < E
theorem OpsE.own {w : World} {B E : Nat} {ao : Option Addr} {n c : Nat} {l : List COp} (h : OpsE w B E ao n c l) : OpsOwn w B ao n c l := by
  obtain ⟨xs, h1, h2, h3, h4, h5, -⟩ := h
  exact ⟨xs, h1, h2, h3, h4, h5⟩
theorem OpsE.base {w : World} {B B' E : Nat} {ao : Option Addr} {n c : Nat} {l : List COp} (h : OpsE w B E ao n c l) (hb : B' <= B) : OpsE w B' E ao n c l := by
  obtain ⟨xs, h1, h2, h3, h4, h5, h6⟩ := h
  refine ⟨xs, h1, h2, ⟨h3.1, ?_⟩, fun x hx => (h4 x hx).base hb, h5, h6⟩
  rcases h3.2 with h2 | ⟨g, cap, cur, e1, e2, e3⟩
  . exact .inl h2
  . exact .inr ⟨g, cap, cur, e1, Nat.le_trans hb e2, e3⟩
theorem OpsE.below {w w' : World} {B E : Nat} {ao : Option Addr} {n c : Nat} {l : List COp} (h : OpsE w B E ao n c l) (hb : Below w.heap.size w w') : OpsE w' B E ao n c l := by
  obtain ⟨xs, h1, h2, h3, h4, h5, h6⟩ := h
  exact ⟨xs, h1, h2, own_of_block h3 (fun k hk => hb.block k (own_lt h3 k hk).2), fun x hx => (h4 x hx).below hb, h5, h6⟩
theorem OpsE.row {w : World} {B E : Nat} {ao : Option Addr} {n c : Nat} {ops : List COp} (h : OpsE w B E ao n c ops) {g : Nat} {cs : Array Value} {fr : Nat × Nat} (hg : w.heap[g]? = some (.cells cs 24 fr)) (cs' : Array Value) : OpsE (w.setRow g cs') B E ao n c ops := by
  obtain ⟨xs, e1, e2, e3, e4, e5, e6⟩ := h
  refine ⟨xs, e1, e2, own_of_block e3 (fun k hk => setRow_other _ _ _ _ (fun e => ?_)), fun x hx => (e4 x hx).block (fun b cs2 fr2 hb => setRow_other _ _ _ _ (fun e => ?_)), e5, e6⟩
  . subst e
    exact own_ne e3 hg (by decide) hk
  . subst e
    rw [hg] at hb
    simp at hb
abbrev Zc : Obj := .cells #[.int .i64 0, .int .i64 0, .slice none 0 0] 24
structure Pr2 (W0 : World) (B n1 n2 : Nat) (l1 l2 : List COp) (x y : Option Nat) (d1 : Option (Nat × Option Addr × Nat)) (d2 : Option (Option Addr × Nat)) (V : World) : Prop where
  bel : Below W0.heap.size W0 V
  hx : ∀ g, x = some g -> W0.heap.size <= g /\ V.heap[g]? = some Zc
  hy : ∀ g, y = some g -> W0.heap.size <= g /\ V.heap[g]? = some Zc
  ne : ∀ g, x = some g -> y = some g -> False
  h1 : ∀ E bo j, d1 = some (E, bo, j) -> OpsE V B E bo n1 j l1 /\ E <= V.heap.size /\ W0.heap.size <= E
  h2 : ∀ bo j, d2 = some (bo, j) -> ∃ E bo1 j1, d1 = some (E, bo1, j1) /\ OpsOwn V E bo n2 j l2
section
variable {W0 V v : World} {B n1 n2 : Nat} {l1 l2 : List COp} {x y : Option Nat} {d1 : Option (Nat × Option Addr × Nat)} {d2 : Option (Option Addr × Nat)}
theorem Pr2.start (h : Below W0.heap.size W0 V) : Pr2 W0 B n1 n2 l1 l2 none none none none V := ⟨h, (fun _ e => by cases e), (fun _ e => by cases e), (fun _ e => by cases e), (fun _ _ _ e => by cases e), (fun _ _ e => by cases e)⟩
theorem Pr2.next (h : Pr2 W0 B n1 n2 l1 l2 x y d1 d2 V) (hb : Below V.heap.size V v) : Pr2 W0 B n1 n2 l1 l2 x y d1 d2 v :=
  ⟨h.bel.trans (hb.mono h.bel.size), fun g e => ⟨(h.hx g e).1, (hb.block g (Array.getElem?_eq_some_iff.1 (h.hx g e).2).1).trans (h.hx g e).2⟩, fun g e => ⟨(h.hy g e).1, (hb.block g (Array.getElem?_eq_some_iff.1 (h.hy g e).2).1).trans (h.hy g e).2⟩, h.ne, fun E bo j e => ⟨(h.h1 E bo j e).1.below hb, Nat.le_trans (h.h1 E bo j e).2.1 hb.size, (h.h1 E bo j e).2.2⟩, fun bo j e => by
    obtain ⟨E, bo1, j1, e1, hO⟩ := h.h2 bo j e
    exact ⟨E, bo1, j1, e1, hO.below hb⟩⟩
theorem Pr2.done {gx gy E j1 j2 : Nat} {bo1 bo2 : Option Addr} (h : Pr2 W0 B n1 n2 l1 l2 (some gx) (some gy) (some (E, bo1, j1)) (some (bo2, j2)) V) (c1 c2 : Array Value) : Below W0.heap.size W0 ((V.setRow gx c1).setRow gy c2) /\ ((V.setRow gx c1).setRow gy c2).heap[gx]? = some (.cells c1 24 (0, 0)) /\ ((V.setRow gx c1).setRow gy c2).heap[gy]? = some (.cells c2 24 (0, 0)) /\ gx ≠ gy /\ OpsE ((V.setRow gx c1).setRow gy c2) B E bo1 n1 j1 l1 /\ OpsOwn ((V.setRow gx c1).setRow gy c2) E bo2 n2 j2 l2 /\ E <= ((V.setRow gx c1).setRow gy c2).heap.size /\ W0.heap.size <= E /\ W0.heap.size <= gx /\ W0.heap.size <= gy := by
  obtain ⟨a1, a2⟩ := h.hx gx rfl
  obtain ⟨b1, b2⟩ := h.hy gy rfl
  have hne : gx ≠ gy := fun e => h.ne gx rfl (by rw [e])
  obtain ⟨o1, o2, o3⟩ := h.h1 E bo1 j1 rfl
  obtain ⟨E', bo', j', e', p1⟩ := h.h2 bo2 j2 rfl
  cases e'
  have b3 : (V.setRow gx c1).heap[gy]? = some Zc := (setRow_other _ _ _ _ hne.symm).trans b2
  refine ⟨Below.row (Below.row h.bel _ _ a1) _ _ b1, (setRow_other _ _ _ _ hne).trans (setRow_heap _ _ _ _ _ _ a2), setRow_heap _ _ _ _ _ _ b3, hne, (o1.row a2 _).row b3 _, (p1.row a2 (by decide) (by decide) _).row b3 (by decide) (by decide) _, by simpa [World.setRow] using o2, o3, a1, b1⟩
end
def cA : Circ := ⟨3, 2, [⟨1, 2, [0], 0, -1, 0⟩, ⟨1, 2, [1], 0, -1, 0⟩, ⟨1, 9, [1], 0, -1, 0⟩, ⟨1, 11, [1, 2], 0, -1, 0⟩, ⟨1, 5, [2], 0, 1, 1⟩, ⟨2, 0, [0], 0, -1, 0⟩, ⟨2, 0, [1], 1, -1, 0⟩]⟩
theorem own_cell8 {w : World} {B e size n m c : Nat} {ao : Option Addr} {xs : List Value} (h : w.ownsRow B e size (.slice ao m c) n xs) (hn : n ≠ 0) : ∃ g, ao = some ⟨g, 0, none⟩ /\ ∀ j v, xs[j]? = some v -> w.cell? ⟨g, j, none⟩ = some v := by
  rcases h.2 with ⟨_, h0⟩ | ⟨g, cap, cur, hv, _⟩
  . exact absurd h0 hn
  . simp only [Value.slice.injEq] at hv
    refine ⟨g, hv.1, fun j v hj => ?_⟩
    have hc := h.cells (g := g) (by rw [ob_eq, hv.1]; rfl) j v hj
    rw [Addr.add_lit, Nat.zero_add] at hc
    exact hc
structure CA (w : World) (B : Nat) (ao : Option Addr) (k : Nat) : Prop where
  ops : OpsAt w B ao 7 k cA.ops
  cells : ∃ g gq oq cq, ao = some ⟨g, 0, none⟩ /\ g < w.heap.size /\ w.cell? ⟨g, 13, none⟩ = some (.int .i64 9) /\ w.cell? ⟨g, 20, none⟩ = some (.slice (some ⟨gq, oq, none⟩) 2 cq) /\ w.cell? ⟨gq, oq + 1, none⟩ = some (.int .i64 2) /\ w.cell? ⟨g, 28, none⟩ = some (.int .i64 1) /\ w.cell? ⟨g, 39, none⟩ = some (.int .i64 1) /\ gq < w.heap.size
theorem CA.of {w : World} {B : Nat} {ao : Option Addr} {k : Nat} (h : OpsAt w B ao 7 k cA.ops) : CA w B ao k := by
  refine ⟨h, ?_⟩
  obtain ⟨xs, h1, h2, h3, h4⟩ := h
  obtain ⟨g, rfl, hc⟩ := own_cell8 h3 (by decide)
  match xs, h1 with
  | [x0, x1, x2, x3, x4, x5, x6], _ =>
    simp only [cA, List.map_cons, List.map_nil, List.cons.injEq, and_true] at h2
    obtain ⟨e0, e1, e2, e3, e4, e5, e6⟩ := h2
    have hI := h4 x3 (by simp)
    rw [← e3] at hI
    rcases hI with ⟨hn, _⟩ | ⟨gq, oq, cq, cs, fr, hv, hl, hg, hz⟩
    . cases hn
    . refine ⟨g, gq, oq, cq, rfl, (own_lt h3 g rfl).2, ?_, ?_, ?_, ?_, ?_, (Array.getElem?_eq_some_iff.1 hg).1⟩
      . refine hc 13 _ ?_
        show some (Value.int .i64 x2.1.gate) = _
        rw [← e2]
      . refine hc 20 _ ?_
        show some x3.2 = _
        rw [hv]
        rfl
      . rw [cell_of_row _ _ _ _ _ _ hg]
        exact hz 1 2 rfl
      . refine hc 28 _ ?_
        show some (Value.int .i64 x4.1.cond) = _
        rw [← e4]
      . refine hc 39 _ ?_
        show some (Value.int .i64 x6.1.bit) = _
        rw [← e6]
theorem CA.below {w w' : World} {B : Nat} {ao : Option Addr} {k : Nat} (h : CA w B ao k) (hb : Below w.heap.size w w') : CA w' B ao k := CA.of (h.ops.below hb)
theorem ci_szs {V : World} {B : Nat} {c : Circ} {bo : Option Addr} {j : Nat} (hS : Szs c.ops) (h : OpsOwn V B bo c.ops.length j c.ops) : Ci V c bo j := by
  obtain ⟨h1, h2⟩ := h.at.rd
  exact ⟨h1, h2, Nat.le_trans hS.1 (by decide), fun o ho => Nat.le_trans (hS.2 o ho) (by decide)⟩
structure Ot (B E : Nat) (w w' : World) : Prop where
  os : w'.os = w.os
  tape : w'.tape = w.tape
  output : w'.output = w.output
  size : w'.heap.size = w.heap.size
  block : ∀ g, g < B ∨ E <= g -> w'.heap[g]? = w.heap[g]?
theorem Ot.refl (B E : Nat) (w : World) : Ot B E w w := ⟨rfl, rfl, rfl, rfl, fun _ _ => rfl⟩
theorem Ot.setCell {B E : Nat} {w w' : World} (h : Ot B E w w') {g : Nat} (i : Nat) (h1 : B <= g) (h2 : g < E) (v : Value) : Ot B E w (w'.setCell ⟨g, i, none⟩ v) :=
  ⟨h.os, h.tape, h.output, by simp [World.setCell, h.size], fun k hk => (Below.heap_setCell _ _ _ _ (fun e => by have e' : k = g := e; omega)).trans (h.block k hk)⟩
theorem Ot.below {B E : Nat} {w w' : World} (h : Ot B E w w') : Below B w w' := ⟨h.os, h.tape, h.output, Nat.le_of_eq h.size.symm, fun k hk => h.block k (.inl hk)⟩
end Go.Proofs.YthndpbjplcphpaaDoor.Cir
