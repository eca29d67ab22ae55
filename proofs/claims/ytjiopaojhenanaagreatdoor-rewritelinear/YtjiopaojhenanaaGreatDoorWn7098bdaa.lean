import Derived.Test.YtjiopaojhenanaaGreatDoorWnb9af57cc
namespace Go.Proofs.YtjiopaojhenanaaGreatDoor.Gt
end Go.Proofs.YtjiopaojhenanaaGreatDoor.Gt
namespace Go.Proofs.YtjiopaojhenanaaGreatDoor.Oct
end Go.Proofs.YtjiopaojhenanaaGreatDoor.Oct
namespace Go.Proofs.YtjiopaojhenanaaGreatDoor.Tok
end Go.Proofs.YtjiopaojhenanaaGreatDoor.Tok
set_option maxRecDepth 100000
set_option maxHeartbeats 2000000
namespace Go.Proofs.YtjiopaojhenanaaGreatDoor.Cir
open Go.RowKit Go.Shelf Go.Proofs.YtjiopaojhenanaaGreatDoor.Oct Go.Proofs.YtjiopaojhenanaaGreatDoor.Tok Go.Proofs.YtjiopaojhenanaaGreatDoor.Gt
theorem eInts (a b : Option Addr) (ca cb : Nat) (l m : List Int) (hl : l.length <= 1000000000000000) (w : World) (hA : Ns w a l) (hB : Ns w b m) : Calls Tryz.prog 39 #[.slice a l.length ca, .slice b m.length cb] w fun e w' => e = .returned (.bool (decide (l = m))) /\ Below w.heap.size w w' := by
  by_cases hlm : l.length = m.length
  . have HA := hide hA
    have HB := hide hB
    obtain ⟨n, hn⟩ : ∃ n, l.length = n := ⟨_, rfl⟩
    have HL := hide hn
    have HM : Hid (m.length = n) := hide (by omega)
    obtain ⟨R, hR⟩ : ∃ R, decide (l = m) = R := ⟨_, rfl⟩
    have HR := hide hR
    rw [← hlm, hn, hR]
    rw [hn] at hl
    clear hA hB hn hlm hR
    go_enter Tryz.func39, Tryz.ntmps39
    go_wp2_with fail
    go_loopw [5] (fun vi wr => ∃ i : Nat, vi = .int .i64 (i : Int) /\ i <= n /\ Hid (l.take i = m.take i) /\ Below w.heap.size w wr) (fun vi _ => n - (Go.RowKit.intOf vi).toNat)
    case atStart => exact ⟨0, rfl, Nat.zero_le _, hide rfl, Below.refl _ _⟩
    case round =>
      obtain ⟨i, rfl, hi, HS, hb⟩ := hrel
      by_cases h : i < n
      . have hd : decide ((i : Int) < (n : Int)) = true := decide_eq_true (by omega)
        obtain ⟨x, hx⟩ : ∃ x, l[i]? = some x := ⟨_, List.getElem?_eq_getElem (by rw [HL.out]; exact h)⟩
        obtain ⟨y, hy⟩ : ∃ y, m[i]? = some y := ⟨_, List.getElem?_eq_getElem (by rw [HM.out]; exact h)⟩
        obtain ⟨g, off, rfl, hg⟩ := (HA.out.below hb).resolve_left (fun e => by rw [e] at hx; simp at hx)
        obtain ⟨g2, off2, rfl, hg2⟩ := (HB.out.below hb).resolve_left (fun e => by rw [e] at hy; simp at hy)
        have k1 := hg i x hx
        have k2 := hg2 i y hy
        by_cases hxy : x = y
        . subst hxy
          have HS2 := hide (take_eq_succ HS.out hx hy)
          clear hg hg2 hx hy HS
          go_wp2_with fail
          go_region
          go_wp2_with fail
          go_roundw
          case rel => exact ⟨i + 1, by go_num, by omega, HS2, hb.drew⟩
          case measure => simp [Go.RowKit.intOf]; omega
        . have e1 : (x != y) = true := by simpa using hxy
          have e2 : (x == y) = false := by simpa using hxy
          have HN : Hid (R = false) := hide (by
            rw [← HR.out]
            refine decide_eq_false fun e => ?_
            rw [e, hy] at hx
            cases hx
            exact hxy rfl)
          clear hg hg2 hx hy HS
          go_wp2_with fail
          go_region
          go_wp2_with fail
          go_ret
          exact ⟨by rw [HN.out]; rfl, hb.drew⟩
      . obtain rfl : n = i := by omega
        have HN : Hid (R = true) := hide (by
          rw [← HR.out]
          refine decide_eq_true (eq_of_take (by rw [HL.out, HM.out]) ?_)
          rw [HL.out]
          exact HS.out)
        clear HS
        go_wp2_with fail
        go_ret
        exact ⟨by rw [HN.out]; rfl, hb⟩
  . have e1 : ((l.length : Int) != (m.length : Int)) = true := by simp; omega
    have e2 : ((l.length : Int) == (m.length : Int)) = false := by simp; omega
    have hR : decide (l = m) = false := decide_eq_false fun e => hlm (by rw [e])
    rw [hR]
    generalize l.length = n at *
    generalize m.length = n2 at *
    clear hA hB
    go_enter Tryz.func39, Tryz.ntmps39
    go_wp2_with fail
    go_ret
    exact ⟨rfl, Below.refl _ _⟩
theorem eSameOp (o p : COp) (aq ap : Option Addr) (cq cp : Nat) (hl : o.qs.length <= 1000000000000000) (w : World) (hA : Ns w aq o.qs) (hB : Ns w ap p.qs) : Calls Tryz.prog 22 #[opV o aq cq, opV p ap cp] w fun e w' => e = .returned (.bool (decide (o = p))) /\ Below w.heap.size w w' := by
  have c1 := fun V (h : Below w.heap.size w V) => eInts aq ap cq cp o.qs p.qs hl V (hA.below h) (hB.below h)
  obtain ⟨k1, g1, q1, b1, i1, n1⟩ := o
  obtain ⟨k2, g2, q2, b2, i2, n2⟩ := p
  have hdec : decide ((⟨k1, g1, q1, b1, i1, n1⟩ : COp) = ⟨k2, g2, q2, b2, i2, n2⟩) = (decide (k1 = k2) && decide (g1 = g2) && decide (q1 = q2) && decide (b1 = b2) && decide (i1 = i2) && decide (n1 = n2)) := by
    simp only [COp.mk.injEq, Bool.decide_and, Bool.and_assoc]
  rw [hdec]
  clear hdec
  unfold opV
  simp only at *
  generalize decide (q1 = q2) = qe at *
  generalize q1.length = l1 at *
  generalize q2.length = l2 at *
  have hb0 : Below w.heap.size w ((w.alloc (.cells #[.int .i64 k1, .int .i64 g1, .slice aq l1 cq, .int .i64 b1, .int .i64 i1, .int .i64 n1] 49)).alloc (.cells #[.int .i64 k2, .int .i64 g2, .slice ap l2 cp, .int .i64 b2, .int .i64 i2, .int .i64 n2] 49)) := (bnew _ _).trans ((bnew _ _).mono (by simp))
  have HB0 := hide hb0
  clear hb0 hA hB
  by_cases hk : k1 = k2
  . subst hk
    by_cases hg : g1 = g2
    . subst hg
      by_cases hb : b1 = b2
      . subst hb
        by_cases hi : i1 = i2
        . subst hi
          by_cases hn : n1 = n2
          . subst hn
            go_enter Tryz.func22, Tryz.ntmps22
            go_wp2_with (first | (go_at_call 39; refine (c1 _ HB0.out).mono ?_; rintro e w1 ⟨rfl, hb1⟩))
            go_ret
            exact ⟨by simp, HB0.out.trans (hb1.mono HB0.out.size)⟩
          . have e1 : (n1 == n2) = false := by simpa using hn
            go_enter Tryz.func22, Tryz.ntmps22
            go_wp2_with fail
            go_ret
            exact ⟨by simp [hn], HB0.out⟩
        . have e1 : (i1 == i2) = false := by simpa using hi
          go_enter Tryz.func22, Tryz.ntmps22
          go_wp2_with fail
          go_ret
          exact ⟨by simp [hi], HB0.out⟩
      . have e1 : (b1 == b2) = false := by simpa using hb
        go_enter Tryz.func22, Tryz.ntmps22
        go_wp2_with fail
        go_ret
        exact ⟨by simp [hb], HB0.out⟩
    . have e1 : (g1 == g2) = false := by simpa using hg
      go_enter Tryz.func22, Tryz.ntmps22
      go_wp2_with fail
      go_ret
      exact ⟨by simp [hg], HB0.out⟩
  . have e1 : (k1 == k2) = false := by simpa using hk
    go_enter Tryz.func22, Tryz.ntmps22
    go_wp2_with fail
    go_ret
    exact ⟨by simp [hk], HB0.out⟩
theorem eSame (c d : Circ) (ao bo : Option Addr) (k j : Nat) (w : World) (hC : Ci w c ao k) (hD : Ci w d bo j) : Calls Tryz.prog 10 #[cV c ao k, cV d bo j] w fun e w' => e = .returned (.bool (decide (c = d))) /\ Below w.heap.size w w' := by
  obtain ⟨q1, b1, l⟩ := c
  obtain ⟨q2, b2, m⟩ := d
  have hdec : decide ((⟨q1, b1, l⟩ : Circ) = ⟨q2, b2, m⟩) = (decide (q1 = q2) && decide (b1 = b2) && decide (l = m)) := by
    simp only [Circ.mk.injEq, Bool.decide_and, Bool.and_assoc]
  rw [hdec]
  clear hdec
  have hA := hC.ops
  have hB := hD.ops
  have hq := hC.qs
  have hl := hC.len
  clear hC hD
  unfold cV
  simp only at *
  have hb0 : Below w.heap.size w ((w.alloc (.cells #[.int .i64 q1, .int .i64 b1, .slice ao l.length k] 24)).alloc (.cells #[.int .i64 q2, .int .i64 b2, .slice bo m.length j] 24)) := (bnew _ _).trans ((bnew _ _).mono (by simp))
  have HB0 := hide hb0
  clear hb0
  by_cases hqq : q1 = q2
  . subst hqq
    by_cases hbb : b1 = b2
    . subst hbb
      by_cases hlm : l.length = m.length
      . have HA := hide hA
        have HB := hide hB
        obtain ⟨n, hn⟩ : ∃ n, l.length = n := ⟨_, rfl⟩
        have HL := hide hn
        have HM : Hid (m.length = n) := hide (by omega)
        obtain ⟨R, hR⟩ : ∃ R, (decide (q1 = q1) && decide (b1 = b1) && decide (l = m)) = R := ⟨_, rfl⟩
        have HR : Hid (decide (l = m) = R) := hide (by simpa using hR)
        have HQ := hide hq
        rw [← hlm, hn] at HB0
        rw [← hlm, hn, hR]
        rw [hn] at hl
        clear hA hB hn hlm hR hq
        have HK : Hid (∀ V, Below ((w.alloc (.cells #[.int .i64 q1, .int .i64 b1, .slice ao n k] 24)).alloc (.cells #[.int .i64 q1, .int .i64 b1, .slice bo n j] 24)).heap.size ((w.alloc (.cells #[.int .i64 q1, .int .i64 b1, .slice ao n k] 24)).alloc (.cells #[.int .i64 q1, .int .i64 b1, .slice bo n j] 24)) V -> V.cell? ⟨w.heap.size, 2, none⟩ = some (.slice ao n k) /\ V.cell? ⟨w.heap.size + 1, 2, none⟩ = some (.slice bo n j) /\ w.heap.size + 1 < V.heap.size) := hide (fun V hV => by
          obtain ⟨m1, m2⟩ := may_keep hV
          obtain ⟨-, -, x2, x3⟩ := def_cells m1
          obtain ⟨-, -, y2, y3⟩ := def_cells m2
          exact ⟨x2, y2, y3⟩)
        go_enter Tryz.func10, Tryz.ntmps10
        go_wp2_with fail
        generalize hWW : ((w.alloc (.cells #[.int .i64 q1, .int .i64 b1, .slice ao n k] 24)).alloc (.cells #[.int .i64 q1, .int .i64 b1, .slice bo n j] 24)) = WW at *
        clear hWW
        go_loopw [5] (fun vi wr => ∃ i : Nat, vi = .int .i64 (i : Int) /\ i <= n /\ Hid (l.take i = m.take i) /\ Below WW.heap.size WW wr) (fun vi _ => n - (Go.RowKit.intOf vi).toNat)
        case atStart => exact ⟨0, rfl, Nat.zero_le _, hide rfl, Below.refl _ _⟩
        case round =>
          obtain ⟨i, rfl, hi, HS, hbW⟩ := hrel
          have hb := HB0.out.trans (hbW.mono HB0.out.size)
          obtain ⟨x2, y2, xl⟩ := HK.out wr hbW
          by_cases h : i < n
          . have hd : decide ((i : Int) < (n : Int)) = true := decide_eq_true (by omega)
            obtain ⟨x, hx⟩ : ∃ x, l[i]? = some x := ⟨_, List.getElem?_eq_getElem (by rw [HL.out]; exact h)⟩
            obtain ⟨y, hy⟩ : ∃ y, m[i]? = some y := ⟨_, List.getElem?_eq_getElem (by rw [HM.out]; exact h)⟩
            obtain ⟨g, off, aq, cq, rfl, hgl, hoc⟩ := (HA.out.below hb).at hx
            obtain ⟨g2, off2, aq2, cq2, rfl, hgl2, hoc2⟩ := (HB.out.below hb).at hy
            have HC := hide (fun V (h : Below wr.heap.size wr V) => eSameOp x y aq aq2 cq cq2 (HQ.out x (List.mem_of_getElem? hx)) V (hoc.ns.below h) (hoc2.ns.below h))
            have HO1 := hide hoc
            have HO2 := hide hoc2
            have HY : Hid (decide (x = y) = true -> l.take (i + 1) = m.take (i + 1)) := hide (fun e => by
              have e' : x = y := by simpa using e
              subst e'
              exact take_eq_succ HS.out hx hy)
            have HN : Hid (decide (x = y) = false -> R = false) := hide (fun e => by
              have e' : ¬ x = y := by simpa using e
              rw [← HR.out]
              refine decide_eq_false fun e => ?_
              rw [e, hy] at hx
              cases hx
              exact e' rfl)
            clear hx hy hoc hoc2
            have hz := hb.size
            unfold opV at HC
            generalize decide (x = y) = xy at *
            have hi1 : (0 : Int) <= (i : Int) := by omega
            have hi2 : (i : Int) < (n : Int) := by omega
            have HXY : Hid (∀ V, Below wr.heap.size wr V -> (V.cell? ⟨w.heap.size, 2, none⟩ = some (.slice (some ⟨g, off, none⟩) n k) /\ V.cell? ⟨w.heap.size + 1, 2, none⟩ = some (.slice (some ⟨g2, off2, none⟩) n j) /\ w.heap.size + 1 < V.heap.size) /\ g < V.heap.size /\ g2 < V.heap.size /\ (V.cell? ⟨g, off + i * 6, none⟩ = some (.int .i64 x.kind) /\ V.cell? ⟨g, off + i * 6 + 1, none⟩ = some (.int .i64 x.gate) /\ V.cell? ⟨g, off + i * 6 + 2, none⟩ = some (.slice aq x.qs.length cq) /\ V.cell? ⟨g, off + i * 6 + 3, none⟩ = some (.int .i64 x.bit) /\ V.cell? ⟨g, off + i * 6 + 4, none⟩ = some (.int .i64 x.cond) /\ V.cell? ⟨g, off + i * 6 + 5, none⟩ = some (.int .i64 x.whn)) /\ (V.cell? ⟨g2, off2 + i * 6, none⟩ = some (.int .i64 y.kind) /\ V.cell? ⟨g2, off2 + i * 6 + 1, none⟩ = some (.int .i64 y.gate) /\ V.cell? ⟨g2, off2 + i * 6 + 2, none⟩ = some (.slice aq2 y.qs.length cq2) /\ V.cell? ⟨g2, off2 + i * 6 + 3, none⟩ = some (.int .i64 y.bit) /\ V.cell? ⟨g2, off2 + i * 6 + 4, none⟩ = some (.int .i64 y.cond) /\ V.cell? ⟨g2, off2 + i * 6 + 5, none⟩ = some (.int .i64 y.whn))) := hide (fun V hV => by
              have a1 := HO1.out.below hV
              have a2 := HO2.out.below hV
              exact ⟨HK.out V (hbW.trans (hV.mono hbW.size)), Nat.lt_of_lt_of_le hgl hV.size, Nat.lt_of_lt_of_le hgl2 hV.size, ⟨a1.kind, a1.gate, a1.qs, a1.bit, a1.cond, a1.whn⟩, ⟨a2.kind, a2.gate, a2.qs, a2.bit, a2.cond, a2.whn⟩⟩)
            clear HO1 HO2
            obtain ⟨kk1, g1, q1', b1', i1, n1⟩ := x
            obtain ⟨kk2, gg2, q2', b2', i2, n2⟩ := y
            simp only at *
            generalize q1'.length = ql1 at *
            generalize q2'.length = ql2 at *
            go_wp2_with fail
            clear x2 y2
            refine wp_region_quiet (C := fun W => Below wr.heap.size wr W) (by kernel_rfl) (by kernel_rfl) (below_drewN (Below.refl _ _) 1) ?_
            repeat
              refine wpQuiet_step (fun K hK => ?_)
              go_simp
              first
                | (refine hK _ ?_; clear hK K)
                | (apply Exists.intro
                   refine ⟨fun W hW => ?_, hK _ ?_⟩
                   first
                     | (refine (HC.out _ hW).mono ?_; rintro e x ⟨rfl, q⟩; exact ⟨rfl, hW.trans (q.mono hW.size)⟩)
                     | (obtain ⟨⟨v0, v1, v2⟩, v3, v4, ⟨r0, r1, r2, r3, r4, r5⟩, ⟨s0, s1, s2, s3, s4, s5⟩⟩ := HXY.out W hW; go_simp; rfl)
                   clear hK K)
            refine wpQuiet_nil ?_
            intro W hW
            have hbF := hbW.trans (hW.mono hbW.size)
            obtain ⟨⟨v0, v1, v2⟩, -⟩ := HXY.out W hW
            clear HXY
            cases xy with
            | true =>
              have HY2 := hide (HY.out rfl)
              clear HY HN
              go_wp2_with fail
              go_roundw
              case rel => exact ⟨i + 1, by go_num, by omega, HY2, hbF⟩
              case measure => simp [Go.RowKit.intOf]; omega
            | false =>
              have HN2 := hide (HN.out rfl)
              clear HY HN
              go_wp2_with fail
              go_ret
              exact ⟨by rw [HN2.out]; rfl, HB0.out.trans (hbF.mono HB0.out.size)⟩
          . obtain rfl : n = i := by omega
            have HN : Hid (R = true) := hide (by
              rw [← HR.out]
              refine decide_eq_true (eq_of_take (by rw [HL.out, HM.out]) ?_)
              rw [HL.out]
              exact HS.out)
            clear HS
            go_wp2_with fail
            go_ret
            exact ⟨by rw [HN.out]; rfl, hb⟩
      . have e1 : ((l.length : Int) != (m.length : Int)) = true := by simp; omega
        have e2 : ((l.length : Int) == (m.length : Int)) = false := by simp; omega
        have hR : (decide (q1 = q1) && decide (b1 = b1) && decide (l = m)) = false := by
          rw [decide_eq_false (p := l = m) (fun e => hlm (by rw [e]))]
          simp
        rw [hR]
        generalize l.length = n at *
        generalize m.length = n2 at *
        clear hA hB hq hR
        go_enter Tryz.func10, Tryz.ntmps10
        go_wp2_with fail
        go_ret
        exact ⟨rfl, HB0.out⟩
    . have e1 : (b1 == b2) = false := by simpa using hbb
      clear hA hB hq
      generalize decide (l = m) = le at *
      generalize l.length = n at *
      generalize m.length = n2 at *
      go_enter Tryz.func10, Tryz.ntmps10
      go_wp2_with fail
      go_ret
      exact ⟨by simp [hbb], HB0.out⟩
  . have e1 : (q1 == q2) = false := by simpa using hqq
    clear hA hB hq
    generalize decide (l = m) = le at *
    generalize l.length = n at *
    generalize m.length = n2 at *
    go_enter Tryz.func10, Tryz.ntmps10
    go_wp2_with fail
    go_ret
    exact ⟨by simp [hqq], HB0.out⟩
theorem ci_szs {V : World} {B : Nat} {c : Circ} {bo : Option Addr} {j : Nat} (hS : Szs c.ops) (h : OpsOwn V B bo c.ops.length j c.ops) : Ci V c bo j := by
  obtain ⟨h1, h2⟩ := h.at.rd
  exact ⟨h1, h2, Nat.le_trans hS.1 (by decide), fun o ho => Nat.le_trans (hS.2 o ho) (by decide)⟩
end Go.Proofs.YtjiopaojhenanaaGreatDoor.Cir
