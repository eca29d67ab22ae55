import Derived.Test.YtmkalhaegbnknaaDoorQ423a3897
import Derived.Test.YtmkalhaegbnknaaDoorQec82f9dd
import Derived.Test.YtmkalhaegbnknaaDoorQ8e3b1666
import Derived.Test.YtmkalhaegbnknaaDoorQ14018358
set_option maxRecDepth 100000
set_option maxHeartbeats 8000000
namespace Go.Proofs.YtmkalhaegbnknaaDoor.Cir
open Go.RowKit Go.Shelf Go.Proofs.YtmkalhaegbnknaaDoor.Oct Go.Proofs.YtmkalhaegbnknaaDoor.Tok Go.Proofs.YtmkalhaegbnknaaDoor.Gt Go.Proofs.YtmkalhaegbnknaaDoor.Rf
theorem dConj_80 (c : Circ) (ao : Option Addr) (k : Nat) (hk : ((chkC c).2 == 0) = false) (w : World) (hC : Ci w c ao k) : Calls Tryd.prog 9 #[cV c ao k] w fun e w' => e = .returned (.tuple #[cV nulC none 0, .int .i64 80]) /\ Below w.heap.size w w' := by
  have c1 := fun V (h : Below w.heap.size w V) => eMay c ao k V (hC.below h)
  rw [hk] at c1
  obtain ⟨q, b, l⟩ := c
  unfold cV nulC at *
  simp only [List.length_nil] at *
  generalize l.length = n at *
  clear hC hk
  have HB0 := hide (show Below w.heap.size w ((w.alloc (.cells #[.int .i64 q, .int .i64 b, .slice ao n k] 24)).alloc (.cells #[.int .i64 0, .int .i64 0, .slice none 0 0] 24)) from (bnew _ _).trans ((bnew _ _).mono (by simp)))
  go_enter Tryd.func9, Tryd.ntmps9
  go_wp2_with (first
    | (go_at_call 23; refine (c1 _ HB0.out).mono ?_; rintro e w1 ⟨rfl, hb1⟩; obtain ⟨m1, m2⟩ := may_keep hb1; obtain ⟨x0, x1, x2, x3⟩ := def_cells m1; have HB1 := hide (HB0.out.trans (hb1.mono HB0.out.size)); have HM1 := hide m1; have HM2 := hide m2; clear hb1 m1 m2)
    | refine wpList_store_row rfl _ _ _ rfl (w.heap.size + 1) _ rfl rfl _ _ HM2.out (by exact infoCi) (by rfl) (by simp [Value.oneCell']) ?_)
  refine bodyPost_ret (results_ct rfl _ _ (w.heap.size + 1) _ _ _ _ rfl (setRow_heap _ _ _ _ _ _ HM2.out) Tryd.underlying24 rfl (by exact infoCi)) rfl ?_
  exact ⟨rfl, Below.row HB1.out _ _ (by omega)⟩
theorem dConj_go (c : Circ) (ao : Option Addr) (k : Nat) (hk : (chkC c).2 = 0) (w : World) (hC : Ci w c ao k) : Calls Tryd.prog 9 #[cV c ao k] w fun e w' => ∃ bo j, e = .returned (.tuple #[cV (cjP c).1 bo j, .int .i64 (cjP c).2]) /\ OpsAt w' w.heap.size bo (cjP c).1.ops.length j (cjP c).1.ops /\ Below w.heap.size w w' := by
  have c1 := fun V (h : Below w.heap.size w V) => eMay c ao k V (hC.below h)
  have c4 := fun V => dEmpty c ao k V
  have hck := chkC_ok hk
  have HOK := hide hck.2.2.2.2.2
  have HQ64 := hide (fun o (ho : o ∈ c.ops) => (may_in hck.1 hck.2.1 hck.2.2.2.1 (hck.2.2.2.2.2 o ho)).1)
  have hlen := hck.2.2.2.2.1
  have HOI := hide hC.ops
  have HRE : Hid (cjP c = if 4096 < (c.ops.flatMap cjO).length then (nulC, 170) else (⟨c.q, c.b, c.ops.flatMap cjO⟩, 0)) := hide (by
    unfold cjP
    rw [if_neg (by simp [hk])])
  generalize cjP c = R at *
  obtain ⟨⟨rq, rb, rl⟩, re⟩ := R
  rw [hk] at c1
  obtain ⟨q, b, l⟩ := c
  unfold cV at *
  simp only [beq_self_eq_true] at *
  obtain ⟨n, hnn⟩ : ∃ n, l.length = n := ⟨_, rfl⟩
  have HL := hide hnn
  rw [hnn] at c1 c4 hlen ⊢
  obtain ⟨rn, hrn⟩ : ∃ rn, rl.length = rn := ⟨_, rfl⟩
  have HRN := hide hrn
  rw [hrn]
  clear hC hk hck hnn hrn
  have HB0 := hide (show Below w.heap.size w ((w.alloc (.cells #[.int .i64 q, .int .i64 b, .slice ao n k] 24)).alloc (.cells #[.int .i64 0, .int .i64 0, .slice none 0 0] 24)) from (bnew _ _).trans ((bnew _ _).mono (by simp)))
  go_enter Tryd.func9, Tryd.ntmps9
  go_wp2_with (first
    | (go_at_call 23; refine (c1 _ HB0.out).mono ?_; rintro e w1 ⟨rfl, hb1⟩; obtain ⟨m1, m2⟩ := may_keep hb1; obtain ⟨x0, x1, x2, x3⟩ := def_cells m1; have HB1 := hide (HB0.out.trans (hb1.mono HB0.out.size)); have HM1 := hide m1; have HM2 := hide m2; clear hb1 m1 m2)
    | (go_at_call 25; refine (c4 _).mono ?_; rintro e w2 ⟨rfl, hb2⟩; have HB2 := hide (HB1.out.trans (hb2.mono HB1.out.size)); have m1 := (hb2.block _ (Array.getElem?_eq_some_iff.1 HM1.out).1).trans HM1.out; have m2 := (hb2.block _ (Array.getElem?_eq_some_iff.1 HM2.out).1).trans HM2.out; obtain ⟨y0, y1, y2, y3⟩ := def_cells m1; have HM3 := hide m1; have HM4 := hide m2; clear hb2 m1 m2))
  have HS0 : Hid (Below w2.heap.size w2 (w2.alloc (.cells #[.int .i64 q, .int .i64 b, .slice none 0 0] 24)) /\ (w2.alloc (.cells #[.int .i64 q, .int .i64 b, .slice none 0 0] 24)).heap[w2.heap.size]? = some (.cells #[.int .i64 q, .int .i64 b, .slice none 0 0] 24) /\ w2.heap.size < (w2.alloc (.cells #[.int .i64 q, .int .i64 b, .slice none 0 0] 24)).heap.size) := hide ⟨bnew _ _, heap_alloc_new _ _, by simp⟩
  have hDW := (Array.getElem?_eq_some_iff.1 HM4.out).1
  clear x0 x1 x2 x3 y0 y1 y2 y3 c1 c4 HM1 HM2 HB0 HB1
  generalize (w2.alloc (.cells #[.int .i64 q, .int .i64 b, .slice none 0 0] 24)) = w3 at *
  generalize hDD : w2.heap.size = D at *
  have HDD := hide hDD
  clear hDD
  go_loopw [5, 6, 7, 8, 9] (fun vi _ _ _ _ wr => ∃ i : Nat, vi = .int .i64 (i : Int) /\ i <= n /\ Below w2.heap.size w2 wr /\ D < wr.heap.size /\ ∃ (bo : Option Addr) (m2 j : Nat), wr.heap[D]? = some (.cells #[.int .i64 q, .int .i64 b, .slice bo m2 j] 24 (0, 0)) /\ m2 = ((l.take i).flatMap cjO).length /\ m2 <= 5 * i /\ OpsOwn wr D bo m2 j ((l.take i).flatMap cjO)) (fun vi _ _ _ _ _ => n - (Go.RowKit.intOf vi).toNat)
  case atStart => exact ⟨0, rfl, Nat.zero_le _, by rw [HDD.out]; exact HS0.out.1, HS0.out.2.2, none, 0, 0, HS0.out.2.1, by simp, by omega, OpsOwn.nil _ _⟩
  case round =>
    obtain ⟨i, rfl, hi, hb, hDr, bo, m2, j, hmo, hml, hm5, hO⟩ := hrel
    have hD2 : w2.heap.size = D := HDD.out
    have ha := (hb.block w.heap.size (Array.getElem?_eq_some_iff.1 HM3.out).1).trans HM3.out
    have hzr := (hb.block (w.heap.size + 1) (by omega)).trans HM4.out
    obtain ⟨r0, r1, r2, r3⟩ := def_cells ha
    have HZr := hide hzr
    have HMO := hide hmo
    have HML := hide hml
    have HOw := hide hO
    have HBr := hide hb
    clear ha hzr hmo hml hO hb
    by_cases h : i < n
    . have hd : decide ((i : Int) < (n : Int)) = true := decide_eq_true (by omega)
      have hkk : (i : Int) < (n : Int) := by omega
      obtain ⟨o, ho⟩ : ∃ o, l[i]? = some o := ⟨_, List.getElem?_eq_getElem (by rw [HL.out]; exact h)⟩
      have hom := List.mem_of_getElem? ho
      have hmay := HOK.out o hom
      have hbw := HB2.out.trans (HBr.out.mono HB2.out.size)
      obtain ⟨g, off, aq, cq, rfl, hgl, hoc⟩ := (HOI.out.below hbw).at ho
      have HNS : Hid (Ns w2 aq o.qs) := hide (by
        obtain ⟨g2, off2, aq2, cq2, e2, hgl2, hoc2⟩ := (HOI.out.below HB2.out).at ho
        have := hoc.qs
        simp only [Option.some.injEq, Addr.mk.injEq, and_true] at e2
        rw [e2.1, e2.2, HBr.out.cell (p := ⟨g2, off2 + i * 6 + 2, none⟩) (by exact hgl2), hoc2.qs] at this
        simp only [Option.some.injEq, Value.slice.injEq, true_and] at this
        rw [← this.1]
        exact hoc2.ns)
      have k0 := hoc.kind
      have k1 := hoc.gate
      have k2 := hoc.qs
      have k3 := hoc.bit
      have k4 := hoc.cond
      have k5 := hoc.whn
      have hpos := may_pos hmay
      have h64q := HQ64.out o hom
      have HTK : Hid ((l.take (i + 1)).flatMap cjO = (l.take i).flatMap cjO ++ cjO o) := hide (by rw [List.take_add_one, ho, List.flatMap_append]; simp)
      have HC5 := hide (cjO_len o)
      have HMy := hide (may_gt hmay)
      obtain ⟨CO, hCO⟩ : ∃ CO, cjO o = CO := ⟨_, rfl⟩
      have HCOE := hide hCO
      rw [hCO] at HTK HC5
      obtain ⟨cl, hcl⟩ : ∃ cl, CO.length = cl := ⟨_, rfl⟩
      have HCO := hide hcl
      rw [hcl] at HC5
      have hcl5 := HC5.out
      have HNB : Hid (ob bo ≠ some wr.heap.size) := hide (fun e => by
        obtain ⟨xs, _, _, h3, _⟩ := HOw.out
        have := (own_lt h3 _ e).2
        omega)
      have HPD : Hid (D < wr.heap.size) := hide hDr
      obtain ⟨kind, gate, qs, bit, cond, whn⟩ := o
      simp only at k0 k1 k2 k3 k4 k5 HNS HMy hpos h64q
      obtain ⟨m, hm⟩ : ∃ m, qs.length = m := ⟨_, rfl⟩
      have HQ := hide hm
      rw [hm] at k2 hpos h64q
      clear hoc ho hom hmay hm HOK HOI HQ64 hCO hcl hbw
      by_cases hk1 : kind = 1
      . subst hk1
        obtain ⟨g1, g2, g3⟩ : 1 <= gate /\ gate <= 20 /\ qs.length = arN gate := by
          rcases HMy.out with ⟨-, e1, e2, e3⟩ | ⟨e, -⟩
          . exact ⟨e1, e2, chk_len e3⟩
          . exact absurd rfl e
        have HIN := hide (fun V => dIn gate ⟨g1, g2⟩ V)
        have HCK : Hid ((cjK gate).length = cl) := hide (by rw [← HCO.out, ← HCOE.out]; simp [cjO])
        have HAR0 : Hid (∀ (i2 : Nat) (kk : Int), (cjK gate)[i2]? = some kk -> (rw' kk).q = (arN kk : Int) /\ 1 <= arN kk /\ arN kk <= m) := hide (fun i2 kk hkk' => by
          have hm' := List.mem_of_getElem? hkk'
          unfold cjK at hm'
          rw [List.mem_filter] at hm'
          have := cj_ar ⟨gate.toNat, by omega⟩ kk hm'.1 (by simpa using hm'.2)
          simp only [Int.toNat_of_nonneg (show 0 <= gate by omega)] at this
          rw [← g3, HQ.out] at this
          exact this)
        have HCT0 : Hid (∀ (i2 : Nat) (kk : Int), (cjK gate)[i2]? = some kk -> CO.take (i2 + 1) = CO.take i2 ++ [⟨1, kk, qs.take (arN kk), bit, cond, whn⟩]) := hide (fun i2 kk hkk' => by
          rw [List.take_add_one, ← HCOE.out]
          unfold cjO
          rw [if_pos rfl, List.getElem?_map, hkk']
          rfl)
        clear g1 g2 g3
        have HYS : Hid (((wr.alloc (.cells #[.int .i64 1, .int .i64 gate, .slice aq m cq, .int .i64 bit, .int .i64 cond, .int .i64 whn] 41)).alloc (.cells #[.int .i64 gate] 38)).heap.size = wr.heap.size + 1 + 1) := hide (by simp)
        have HYB : Hid (Below wr.heap.size wr ((wr.alloc (.cells #[.int .i64 1, .int .i64 gate, .slice aq m cq, .int .i64 bit, .int .i64 cond, .int .i64 whn] 41)).alloc (.cells #[.int .i64 gate] 38))) := hide ((bnew _ _).trans ((bnew _ _).mono (by simp)))
        have HY6 : Hid (((wr.alloc (.cells #[.int .i64 1, .int .i64 gate, .slice aq m cq, .int .i64 bit, .int .i64 cond, .int .i64 whn] 41)).alloc (.cells #[.int .i64 gate] 38)).heap[wr.heap.size]? = some (.cells #[.int .i64 1, .int .i64 gate, .slice aq m cq, .int .i64 bit, .int .i64 cond, .int .i64 whn] 41)) := hide ((Below.heap_alloc _ _ _ (by simp)).trans (heap_alloc_new _ _))
        have HY7 : Hid (((wr.alloc (.cells #[.int .i64 1, .int .i64 gate, .slice aq m cq, .int .i64 bit, .int .i64 cond, .int .i64 whn] 41)).alloc (.cells #[.int .i64 gate] 38)).heap[wr.heap.size + 1]? = some (.cells #[.int .i64 gate] 38 (0, 0))) := hide (by
          have := heap_alloc_new (wr.alloc (.cells #[.int .i64 1, .int .i64 gate, .slice aq m cq, .int .i64 bit, .int .i64 cond, .int .i64 whn] 41)) (.cells #[.int .i64 gate] 38)
          simpa using this)
        go_wp2_with (go_at_call 28; refine (HIN.out ((wr.alloc (.cells #[.int .i64 1, .int .i64 gate, .slice aq m cq, .int .i64 bit, .int .i64 cond, .int .i64 whn] 41)).alloc (.cells #[.int .i64 gate] 38))).mono ?_; rintro e w6 ⟨gL, cL, rfl, hgL, hb6⟩; have HGL0 := hide hgL; have HB6 := hide hb6; have h66 := (hb6.block wr.heap.size (by simp; omega)).trans HY6.out; obtain ⟨q0', q1', q2', q3', q4', q5', q6', q7'⟩ := six_cells h66; clear hgL hb6 h66)
        have hLn : (cjK gate).length = cl := HCK.out
        try rw [hLn]
        have HB6' : Hid (Below wr.heap.size wr w6) := hide (HYB.out.trans (HB6.out.mono HYB.out.size))
        have HI0 : Hid (Below w2.heap.size w2 w6 /\ w6.heap[wr.heap.size]? = some (.cells #[.int .i64 1, .int .i64 gate, .slice aq m cq, .int .i64 bit, .int .i64 cond, .int .i64 whn] 41) /\ w6.heap[gL]? = some (.cells ((cjK gate).map (Value.int .i64)).toArray 38 (0, 0)) /\ D < w6.heap.size /\ w6.heap[D]? = some (.cells #[.int .i64 q, .int .i64 b, .slice bo m2 j] 24 (0, 0)) /\ ob bo ≠ some wr.heap.size /\ OpsOwn w6 D bo m2 j ((l.take i).flatMap cjO)) := hide ⟨HBr.out.trans (HB6'.out.mono HBr.out.size), (HB6.out.block _ (Array.getElem?_eq_some_iff.1 HY6.out).1).trans HY6.out, HGL0.out, by have := HB6'.out.size; omega, (HB6'.out.block D hDr).trans HMO.out, HNB.out, HOw.out.below HB6'.out⟩
        clear q0' q1' q2' q3' q4' q5' q6' q7' HYS HYB HY6 HY7 HB6 HB6' HGL0 hLn
        generalize wr.heap.size = P6 at *
        generalize hLLE : cjK gate = LL at *
        have HLL := hide hLLE
        clear hLLE
        have hP6D : D < P6 := HPD.out
        have hgLP : D ≠ gL /\ P6 ≠ gL := ⟨fun e => by
          have := HI0.out.2.2.1
          rw [← e, HI0.out.2.2.2.2.1] at this
          simp at this, fun e => by
          have := HI0.out.2.2.1
          rw [← e, HI0.out.2.1] at this
          simp at this⟩
        obtain ⟨hgLP1, hgLP2⟩ := hgLP
        generalize hLST : (l.take i).flatMap cjO = LST at *
        clear hLST
        clear k0 k1 k2 k3 k4 k5
        have HAR := HAR0
        have HCT := HCT0
        have HCL := HCK
        go_loopw [8, 9] (fun vk _ wr => ∃ i2 : Nat, vk = .int .i64 (i2 : Int) /\ i2 <= cl /\ Below w2.heap.size w2 wr /\ wr.heap[P6]? = some (.cells #[.int .i64 1, .int .i64 gate, .slice aq m cq, .int .i64 bit, .int .i64 cond, .int .i64 whn] 41) /\ wr.heap[gL]? = some (.cells ((LL : List Int).map (Value.int .i64)).toArray 38 (0, 0)) /\ D < wr.heap.size /\ ∃ (bo : Option Addr) (m3 j : Nat), wr.heap[D]? = some (.cells #[.int .i64 q, .int .i64 b, .slice bo m3 j] 24 (0, 0)) /\ m3 = m2 + i2 /\ ob bo ≠ some P6 /\ OpsOwn wr D bo m3 j (LST ++ CO.take i2)) (fun vk _ _ => cl - (Go.RowKit.intOf vk).toNat)
        case atStart => exact ⟨0, rfl, Nat.zero_le _, HI0.out.1, HI0.out.2.1, HI0.out.2.2.1, HI0.out.2.2.2.1, bo, m2, j, HI0.out.2.2.2.2.1, rfl, HI0.out.2.2.2.2.2.1, by rw [List.take_zero, List.append_nil]; exact HI0.out.2.2.2.2.2.2⟩
        case round =>
          obtain ⟨i2, rfl, hi2, hb, h6, hgl, hDx, bo, m3, j, hmo, hm3, hnp, hO⟩ := hrel
          obtain ⟨x0, x1, x2, x3, x4, x5, x6, x7⟩ := six_cells h6
          obtain ⟨y0, y1, y2, y3⟩ := def_cells hmo
          have hglz : gL < wr.heap.size := (Array.getElem?_eq_some_iff.1 hgl).1
          have hP6x : P6 < wr.heap.size := (Array.getElem?_eq_some_iff.1 h6).1
          have HBx := hide hb
          have H6 := hide h6
          have HGL := hide hgl
          have HMO := hide hmo
          have HM3 := hide hm3
          have HNP := hide hnp
          have HOw := hide hO
          have hm3b : m3 <= 100000 := by omega
          clear hb h6 hgl hmo hm3 hnp hO
          by_cases h2 : i2 < cl
          . have hd2 : decide ((i2 : Int) < (cl : Int)) = true := decide_eq_true (by omega)
            have hkk2 : (i2 : Int) < (cl : Int) := by omega
            obtain ⟨kk, hkx⟩ : ∃ kk, LL[i2]? = some kk := ⟨_, List.getElem?_eq_getElem (by rw [HCL.out]; exact h2)⟩
            have hcell : wr.cell? ⟨gL, i2, none⟩ = some (.int .i64 kk) := by
              rw [cell_of_row _ _ _ _ _ _ HGL.out]
              simp [hkx]
            have HKX := hide hkx
            have HNX : Hid (Ns (wr.alloc (.cells #[.int .i64 1, .int .i64 kk, .slice aq m cq, .int .i64 bit, .int .i64 cond, .int .i64 whn] 41)) aq qs) := hide ((HNS.out.below HBx.out).below (bnew _ _))
            have HXS : Hid ((wr.alloc (.cells #[.int .i64 1, .int .i64 kk, .slice aq m cq, .int .i64 bit, .int .i64 cond, .int .i64 whn] 41)).heap.size = wr.heap.size + 1) := hide (by simp)
            clear hkx
            go_wp2_with (at_builtin; refine app_emp17 rfl _ _ rfl [] 0 rfl #[] rfl (wr.heap.size + 1) HXS.out rfl aq cq qs m HQ.out hpos rfl HNX.out (by omega) (by omega) ?_)
            intro a7 c7 w7 hR7 hb7
            try simp only [Nat.zero_add, List.nil_append] at hR7
            try simp only [Nat.zero_add]
            try rw [HXS.out] at hb7
            obtain ⟨ga, rfl⟩ : ∃ ga, a7 = some ⟨ga, 0, none⟩ := by
              obtain ⟨a, c, e, ho⟩ := hR7
              simp only [Value.slice.injEq] at e
              obtain ⟨g, e2, -⟩ := own_some ho (by rw [HQ.out]; exact hpos)
              exact ⟨g, by rw [e.1, e2]⟩
            have hcap : m <= c7 := by
              obtain ⟨a, c, e, ho⟩ := hR7
              simp only [Value.slice.injEq] at e
              have := own_cap17 ho
              rw [HQ.out, ← e.2.2] at this
              exact this
            have h97 := (hb7.block wr.heap.size (by omega)).trans (heap_alloc_new wr (.cells #[.int .i64 1, .int .i64 kk, .slice aq m cq, .int .i64 bit, .int .i64 cond, .int .i64 whn] 41))
            obtain ⟨k0', k1', k2', k3', k4', k5', k6', k7'⟩ := six_cells h97
            have old7 : ∀ b9, b9 < wr.heap.size -> w7.heap[b9]? = wr.heap[b9]? := fun b9 h9 => (hb7.block b9 (by omega)).trans (Below.heap_alloc _ _ _ h9)
            have h67 := (old7 P6 (by omega)).trans H6.out
            obtain ⟨j0', j1', j2', j3', j4', j5', j6', j7'⟩ := six_cells h67
            have hcell7 : w7.cell? ⟨gL, i2, none⟩ = some (.int .i64 kk) := by
              rw [cell_of_row _ _ _ _ _ _ ((old7 gL hglz).trans HGL.out)]
              simp [HKX.out]
            have hd7 := (old7 D hDx).trans HMO.out
            obtain ⟨d0', d1', d2', d3'⟩ := def_cells hd7
            have HR7 := hide hR7
            have HB7 := hide hb7
            have H97 := hide h97
            have HO7 := hide old7
            have hz7 : wr.heap.size < w7.heap.size := by have := hb7.size; simp at this; omega
            clear hR7 hb7 h97 old7 h67 hd7 x0 x1 x2 x3 x4 x5 x6 x7 y0 y1 y2 y3 hcell
            obtain ⟨ha1, ha2, ha3⟩ := HAR.out i2 kk HKX.out
            generalize hak : arN kk = ak at *
            have HAK := hide hak
            have hacq : ak <= c7 := by omega
            clear hak
            go_wp2_with fail
            have HVE : Hid (w7.setCell ⟨wr.heap.size, 2, none⟩ (.slice (some ⟨ga, 0, none⟩) m c7) = w7.setRow wr.heap.size #[.int .i64 1, .int .i64 kk, .slice (some ⟨ga, 0, none⟩) m c7, .int .i64 bit, .int .i64 cond, .int .i64 whn]) := hide (by
              rw [setCell_eq_setRow _ _ 2 _ _ _ _ H97.out]
              rfl)
            rw [HVE.out]
            have HV9 : Hid ((w7.setRow wr.heap.size #[.int .i64 1, .int .i64 kk, .slice (some ⟨ga, 0, none⟩) m c7, .int .i64 bit, .int .i64 cond, .int .i64 whn]).heap[wr.heap.size]? = some (.cells #[.int .i64 1, .int .i64 kk, .slice (some ⟨ga, 0, none⟩) m c7, .int .i64 bit, .int .i64 cond, .int .i64 whn] 41 (0, 0)) /\ (∀ b9, b9 ≠ wr.heap.size -> (w7.setRow wr.heap.size #[.int .i64 1, .int .i64 kk, .slice (some ⟨ga, 0, none⟩) m c7, .int .i64 bit, .int .i64 cond, .int .i64 whn]).heap[b9]? = w7.heap[b9]?) /\ (w7.setRow wr.heap.size #[.int .i64 1, .int .i64 kk, .slice (some ⟨ga, 0, none⟩) m c7, .int .i64 bit, .int .i64 cond, .int .i64 whn]).heap.size = w7.heap.size) := hide ⟨setRow_heap _ _ _ _ _ _ H97.out, fun b9 h9 => setRow_other _ _ _ _ h9, by simp [World.setRow]⟩
            have HVB : Hid (Below (wr.heap.size) wr (w7.setRow wr.heap.size #[.int .i64 1, .int .i64 kk, .slice (some ⟨ga, 0, none⟩) m c7, .int .i64 bit, .int .i64 cond, .int .i64 whn])) := hide (Below.row ((bnew wr (.cells #[.int .i64 1, .int .i64 kk, .slice aq m cq, .int .i64 bit, .int .i64 cond, .int .i64 whn] 41)).trans (HB7.out.mono (by omega))) _ _ (Nat.le_refl _))
            clear HVE
            generalize (w7.setRow wr.heap.size #[.int .i64 1, .int .i64 kk, .slice (some ⟨ga, 0, none⟩) m c7, .int .i64 bit, .int .i64 cond, .int .i64 whn]) = V9 at *
            have HKW : Hid (∀ W, Below V9.heap.size V9 W -> W.cell? ⟨wr.heap.size, 2, none⟩ = some (.slice (some ⟨ga, 0, none⟩) m c7) /\ W.cell? ⟨gL, i2, none⟩ = some (.int .i64 kk) /\ W.frozen? ⟨wr.heap.size, 2, none⟩ = false) := hide (fun W hW => by
              have e1 := (hW.block _ (Array.getElem?_eq_some_iff.1 HV9.out.1).1).trans HV9.out.1
              obtain ⟨-, -, q2, -, -, -, q6, -⟩ := six_cells e1
              refine ⟨q2, ?_, q6 2⟩
              rw [cell_of_row _ _ _ _ _ _ ((hW.block gL (by rw [HV9.out.2.2]; omega)).trans ((HV9.out.2.1 gL (by omega)).trans ((HO7.out gL hglz).trans HGL.out)))]
              simp [HKX.out])
            refine wp_region_quiet_last2 (C := fun W => Below V9.heap.size V9 W) (by kernel_rfl) 8 rfl (by kernel_rfl) (by kernel_rfl) (below_drewN (Below.refl _ _) 1) ?_
            simp only [List.take_succ_cons, List.take_zero]
            repeat
              refine wpQuiet_step (fun K hK => ?_)
              go_simp
              first
                | (refine hK _ ?_; clear hK K)
                | (apply Exists.intro
                   refine ⟨fun W hW => ?_, hK _ ?_⟩
                   first
                     | with_reducible rfl
                     | (refine (hArity kk _).mono ?_; rintro e x ⟨rfl, hx⟩; exact ⟨rfl, by rw [hx]; exact hW⟩)
                     | (obtain ⟨a0, a1, a2⟩ := HKW.out W hW; go_simp; rfl)
                   clear hK K)
            refine wpQuiet_nil ?_
            intro W9 hW9
            obtain ⟨a0, a1, a2⟩ := HKW.out W9 hW9
            have h99 := (hW9.block _ (Array.getElem?_eq_some_iff.1 HV9.out.1).1).trans HV9.out.1
            have old9 : ∀ b9, b9 < wr.heap.size -> W9.heap[b9]? = wr.heap[b9]? := fun b9 h9 => (hW9.block b9 (by rw [HV9.out.2.2]; omega)).trans ((HV9.out.2.1 b9 (by omega)).trans (HO7.out b9 h9))
            have hR9 : RowO W9 wr.heap.size (.slice (some ⟨ga, 0, none⟩) m c7) qs := (((HR7.out.base (by omega)).block (w' := V9) (fun b9 cs fr hb9 => HV9.out.2.1 b9 (fun e => by
              rw [e, H97.out] at hb9
              simp at hb9))).below hW9)
            have hz9 : wr.heap.size < W9.heap.size := (Array.getElem?_eq_some_iff.1 h99).1
            have HH9 := hide h99
            have HOL := hide old9
            have HRR := hide (hR9.take17 ak HQ.out ha3)
            have HBL := hide (HVB.out.trans (hW9.mono HVB.out.size))
            clear hW9 h99 old9 hR9 HKW
            have HEQ : Hid ((W9.setCell ⟨wr.heap.size, 2, none⟩ (.slice (some ⟨ga, 0, none⟩) ak c7)) = W9.setRow wr.heap.size #[.int .i64 1, .int .i64 kk, .slice (some ⟨ga, 0, none⟩) ak c7, .int .i64 bit, .int .i64 cond, .int .i64 whn]) := hide (by
              rw [setCell_eq_setRow _ _ 2 _ _ _ _ HH9.out]
              rfl)
            have hX6 : ((W9.setCell ⟨wr.heap.size, 2, none⟩ (.slice (some ⟨ga, 0, none⟩) ak c7))).heap[wr.heap.size]? = some (.cells #[.int .i64 1, .int .i64 kk, .slice (some ⟨ga, 0, none⟩) ak c7, .int .i64 bit, .int .i64 cond, .int .i64 whn] 41 (0, 0)) := by rw [HEQ.out]; exact setRow_heap _ _ _ _ _ _ HH9.out
            have hXo : ∀ b9, b9 ≠ wr.heap.size -> ((W9.setCell ⟨wr.heap.size, 2, none⟩ (.slice (some ⟨ga, 0, none⟩) ak c7))).heap[b9]? = W9.heap[b9]? := fun b9 h9 => by rw [HEQ.out]; exact setRow_other _ _ _ _ h9
            have HXs : Hid (((W9.setCell ⟨wr.heap.size, 2, none⟩ (.slice (some ⟨ga, 0, none⟩) ak c7))).heap.size = W9.heap.size) := hide (by simp [World.setCell])
            have HXB : Hid (∀ b9, b9 < wr.heap.size -> ((W9.setCell ⟨wr.heap.size, 2, none⟩ (.slice (some ⟨ga, 0, none⟩) ak c7))).heap[b9]? = wr.heap[b9]?) := hide (fun b9 h9 => (hXo b9 (by omega)).trans (HOL.out b9 h9))
            have HXO : Hid (OpsE ((W9.setCell ⟨wr.heap.size, 2, none⟩ (.slice (some ⟨ga, 0, none⟩) ak c7))) D wr.heap.size bo m3 j (LST ++ CO.take i2)) := hide (by
              obtain ⟨xs, e1, e2, e3, e4, e5, e6⟩ := HOw.out.upto
              exact ⟨xs, e1, e2, own_of_block e3 (fun q9 h9 => HXB.out q9 (own_lt e3 q9 h9).2), fun x hx => (e4 x hx).block (fun b9 cs fr hb9 => HXB.out b9 (Array.getElem?_eq_some_iff.1 hb9).1), e5, e6⟩)
            have HXR : Hid (RowO ((W9.setCell ⟨wr.heap.size, 2, none⟩ (.slice (some ⟨ga, 0, none⟩) ak c7))) wr.heap.size (.slice (some ⟨ga, 0, none⟩) ak c7) (⟨1, kk, qs.take ak, bit, cond, whn⟩ : COp).qs) := hide (HRR.out.block (fun b9 cs fr hb9 => hXo b9 (fun e => by
              rw [e, HH9.out] at hb9
              simp at hb9)))
            have HXd : Hid (((W9.setCell ⟨wr.heap.size, 2, none⟩ (.slice (some ⟨ga, 0, none⟩) ak c7))).heap[D]? = some (.cells #[.int .i64 q, .int .i64 b, .slice bo m3 j] 24 (0, 0))) := hide ((HXB.out D hDx).trans HMO.out)
            obtain ⟨w0', w1', w2', w3'⟩ := def_cells HXd.out
            obtain ⟨a0', a1', a2', a3', a4', a5', a6', a7'⟩ := six_cells hX6
            obtain ⟨s0', s1', s2', s3', s4', s5', s6', s7'⟩ := six_cells ((HXB.out P6 (by omega)).trans H6.out)
            have HXW : Hid (Below w2.heap.size w2 ((W9.setCell ⟨wr.heap.size, 2, none⟩ (.slice (some ⟨ga, 0, none⟩) ak c7)))) := hide (by
              have e1 := HBx.out.trans (HBL.out.mono HBx.out.size)
              rw [HEQ.out]
              exact Below.row e1 _ _ (by omega))
            clear hX6 hXo
            go_wp2_with (at_builtin; refine list_push18 rfl _ _ rfl HXO.out (by omega) (by rw [HXs.out]; omega) (⟨1, kk, qs.take ak, bit, cond, whn⟩ : COp) (.slice (some ⟨ga, 0, none⟩) ak c7) HXR.out W9.heap.size HXs.out (by omega) _ rfl rfl rfl ?_)
            intro g6 c6 w6 hO5 hg6 hat6
            have hO6 : OpsOwn w6 D (some ⟨g6, 0, none⟩) (m3 + 1) c6 (LST ++ CO.take (i2 + 1)) := by
              rw [HCT.out i2 kk HKX.out, ← List.append_assoc, HAK.out]
              simpa using hO5
            have kp : ∀ b9, b9 < wr.heap.size -> ob bo ≠ some b9 -> w6.heap[b9]? = wr.heap[b9]? := fun b9 h9 hne => (hg6.block b9 (by rw [HXs.out]; omega) hne.symm).trans (HXB.out b9 h9)
            have d6 : w6.heap[D]? = some (.cells #[.int .i64 q, .int .i64 b, .slice bo m3 j] 24 (0, 0)) := (kp D hDx (HOw.out.ne HMO.out (by decide))).trans HMO.out
            have p6 : w6.heap[P6]? = some (.cells #[.int .i64 1, .int .i64 gate, .slice aq m cq, .int .i64 bit, .int .i64 cond, .int .i64 whn] 41) := (kp P6 (by omega) HNP.out).trans H6.out
            have l6 : w6.heap[gL]? = some (.cells ((LL : List Int).map (Value.int .i64)).toArray 38 (0, 0)) := (kp gL hglz (HOw.out.ne HGL.out (by decide))).trans HGL.out
            have hb6 : Below w2.heap.size w2 w6 := HXW.out.grown hg6 (by rw [HXs.out]; omega) (fun q9 h9 => by have := HOw.out.blt q9 h9; omega)
            have hng : ob (some (⟨g6, 0, none⟩ : Addr)) ≠ some P6 := fun e => by
              have e' : g6 = P6 := by simpa [ob] using e
              rcases hat6 with hh | hh
              . exact HNP.out (by rw [hh, e'])
              . first
                  | omega
                  | (rw [HXs.out] at hh; omega)
            obtain ⟨s0, s1, s2, s3⟩ := def_cells d6
            have vf : w6.frozen? ⟨D, 2, none⟩ = false := by simp [World.frozen?, d6]
            have HE : Hid (w6.setCell ⟨D, 2, none⟩ (.slice (some ⟨g6, 0, none⟩) (m3 + 1) c6) = w6.setRow D #[.int .i64 q, .int .i64 b, .slice (some ⟨g6, 0, none⟩) (m3 + 1) c6]) := hide (by
              rw [setCell_eq_setRow _ _ 2 _ _ _ _ d6]
              rfl)
            have HF : Hid (Below w2.heap.size w2 (w6.setRow D #[.int .i64 q, .int .i64 b, .slice (some ⟨g6, 0, none⟩) (m3 + 1) c6]) /\ (w6.setRow D #[.int .i64 q, .int .i64 b, .slice (some ⟨g6, 0, none⟩) (m3 + 1) c6]).heap[P6]? = some (.cells #[.int .i64 1, .int .i64 gate, .slice aq m cq, .int .i64 bit, .int .i64 cond, .int .i64 whn] 41) /\ (w6.setRow D #[.int .i64 q, .int .i64 b, .slice (some ⟨g6, 0, none⟩) (m3 + 1) c6]).heap[gL]? = some (.cells ((LL : List Int).map (Value.int .i64)).toArray 38 (0, 0)) /\ D < (w6.setRow D #[.int .i64 q, .int .i64 b, .slice (some ⟨g6, 0, none⟩) (m3 + 1) c6]).heap.size /\ ∃ (bo : Option Addr) (m4 j : Nat), (w6.setRow D #[.int .i64 q, .int .i64 b, .slice (some ⟨g6, 0, none⟩) (m3 + 1) c6]).heap[D]? = some (.cells #[.int .i64 q, .int .i64 b, .slice bo m4 j] 24 (0, 0)) /\ m4 = m2 + (i2 + 1) /\ ob bo ≠ some P6 /\ OpsOwn (w6.setRow D #[.int .i64 q, .int .i64 b, .slice (some ⟨g6, 0, none⟩) (m3 + 1) c6]) D bo m4 j (LST ++ CO.take (i2 + 1))) := hide
              ⟨Below.row hb6 _ _ (by omega), (setRow_other _ _ _ _ (by omega)).trans p6, (setRow_other _ _ _ _ (by omega)).trans l6, (Array.getElem?_eq_some_iff.1 (setRow_heap w6 D _ #[.int .i64 q, .int .i64 b, .slice (some ⟨g6, 0, none⟩) (m3 + 1) c6] _ _ d6)).1, _, m3 + 1, _, setRow_heap _ _ _ _ _ _ d6, by rw [HM3.out]; omega, hng, hO6.row d6 (by decide) (by decide) _⟩
            clear hO5 hO6 hg6 hat6 d6 p6 l6 hb6 kp hng
            go_wp2_with fail
            rw [HE.out]
            go_roundw
            case rel => exact ⟨i2 + 1, by go_num, by omega, HF.out⟩
            case measure => simp [Go.RowKit.intOf]; omega
          . obtain rfl : cl = i2 := by omega
            have hd2 : decide ((cl : Int) < (cl : Int)) = false := decide_eq_false (by omega)
            go_wp2_with fail
            go_roundw
            case rel =>
              refine ⟨i + 1, by go_num, by omega, HBx.out, hDx, bo, m3, j, HMO.out, ?_, by have := HM3.out; have := HC5.out; omega, ?_⟩
              . rw [HTK.out, List.length_append, ← HML.out, HM3.out, HCO.out]
              . have := HOw.out
                rw [List.take_of_length_le (by rw [HCO.out]; exact Nat.le_refl _)] at this
                rw [HTK.out]
                exact this
            case measure => simp [Go.RowKit.intOf]; omega
      . have HK1 := hide hk1
        have HCT0 : Hid (∀ (i2 : Nat) (kk : Int), ([gate] : List Int)[i2]? = some kk -> CO.take (i2 + 1) = CO.take i2 ++ [⟨kind, kk, qs, bit, cond, whn⟩]) := hide (fun i2 kk hkk' => by
          have e1 : CO = [⟨kind, gate, qs, bit, cond, whn⟩] := by rw [← HCOE.out]; unfold cjO; rw [if_neg HK1.out]
          have e2 : i2 = 0 := by have := (List.getElem?_eq_some_iff.1 hkk').1; simp at this; exact this
          subst e2
          simp at hkk'
          rw [e1, hkk']
          rfl)
        have HCK : Hid (([gate] : List Int).length = cl) := hide (by rw [← HCO.out, ← HCOE.out]; unfold cjO; rw [if_neg HK1.out]; rfl)
        obtain rfl : cl = 1 := by have := HCK.out; simp at this; exact this.symm
        clear hk1
        have HYS : Hid (((wr.alloc (.cells #[.int .i64 kind, .int .i64 gate, .slice aq m cq, .int .i64 bit, .int .i64 cond, .int .i64 whn] 41)).alloc (.cells #[.int .i64 gate] 38)).heap.size = wr.heap.size + 1 + 1) := hide (by simp)
        have HYB : Hid (Below wr.heap.size wr ((wr.alloc (.cells #[.int .i64 kind, .int .i64 gate, .slice aq m cq, .int .i64 bit, .int .i64 cond, .int .i64 whn] 41)).alloc (.cells #[.int .i64 gate] 38))) := hide ((bnew _ _).trans ((bnew _ _).mono (by simp)))
        have HY6 : Hid (((wr.alloc (.cells #[.int .i64 kind, .int .i64 gate, .slice aq m cq, .int .i64 bit, .int .i64 cond, .int .i64 whn] 41)).alloc (.cells #[.int .i64 gate] 38)).heap[wr.heap.size]? = some (.cells #[.int .i64 kind, .int .i64 gate, .slice aq m cq, .int .i64 bit, .int .i64 cond, .int .i64 whn] 41)) := hide ((Below.heap_alloc _ _ _ (by simp)).trans (heap_alloc_new _ _))
        have HY7 : Hid (((wr.alloc (.cells #[.int .i64 kind, .int .i64 gate, .slice aq m cq, .int .i64 bit, .int .i64 cond, .int .i64 whn] 41)).alloc (.cells #[.int .i64 gate] 38)).heap[wr.heap.size + 1]? = some (.cells #[.int .i64 gate] 38 (0, 0))) := hide (by
          have := heap_alloc_new (wr.alloc (.cells #[.int .i64 kind, .int .i64 gate, .slice aq m cq, .int .i64 bit, .int .i64 cond, .int .i64 whn] 41)) (.cells #[.int .i64 gate] 38)
          simpa using this)
        have e1 : (kind == 1) = false := by simpa using HK1.out
        go_wp2_with fail
        have HI0 : Hid (Below w2.heap.size w2 ((wr.alloc (.cells #[.int .i64 kind, .int .i64 gate, .slice aq m cq, .int .i64 bit, .int .i64 cond, .int .i64 whn] 41)).alloc (.cells #[.int .i64 gate] 38)) /\ ((wr.alloc (.cells #[.int .i64 kind, .int .i64 gate, .slice aq m cq, .int .i64 bit, .int .i64 cond, .int .i64 whn] 41)).alloc (.cells #[.int .i64 gate] 38)).heap[wr.heap.size]? = some (.cells #[.int .i64 kind, .int .i64 gate, .slice aq m cq, .int .i64 bit, .int .i64 cond, .int .i64 whn] 41) /\ ((wr.alloc (.cells #[.int .i64 kind, .int .i64 gate, .slice aq m cq, .int .i64 bit, .int .i64 cond, .int .i64 whn] 41)).alloc (.cells #[.int .i64 gate] 38)).heap[wr.heap.size + 1]? = some (.cells (([gate] : List Int).map (Value.int .i64)).toArray 38 (0, 0)) /\ D < ((wr.alloc (.cells #[.int .i64 kind, .int .i64 gate, .slice aq m cq, .int .i64 bit, .int .i64 cond, .int .i64 whn] 41)).alloc (.cells #[.int .i64 gate] 38)).heap.size /\ ((wr.alloc (.cells #[.int .i64 kind, .int .i64 gate, .slice aq m cq, .int .i64 bit, .int .i64 cond, .int .i64 whn] 41)).alloc (.cells #[.int .i64 gate] 38)).heap[D]? = some (.cells #[.int .i64 q, .int .i64 b, .slice bo m2 j] 24 (0, 0)) /\ ob bo ≠ some wr.heap.size /\ OpsOwn ((wr.alloc (.cells #[.int .i64 kind, .int .i64 gate, .slice aq m cq, .int .i64 bit, .int .i64 cond, .int .i64 whn] 41)).alloc (.cells #[.int .i64 gate] 38)) D bo m2 j ((l.take i).flatMap cjO)) := hide ⟨HBr.out.trans (HYB.out.mono HBr.out.size), HY6.out, HY7.out, by rw [HYS.out]; omega, (HYB.out.block D hDr).trans HMO.out, HNB.out, HOw.out.below HYB.out⟩
        generalize ((wr.alloc (.cells #[.int .i64 kind, .int .i64 gate, .slice aq m cq, .int .i64 bit, .int .i64 cond, .int .i64 whn] 41)).alloc (.cells #[.int .i64 gate] 38)) = w6 at *
        generalize hgLE : wr.heap.size + 1 = gL at *
        clear HYS HYB HY6 HY7
        generalize hP6E : wr.heap.size = P6 at *
        have HPG := hide hP6E
        clear hgLE hP6E
        generalize hLLE : ([gate] : List Int) = LL at *
        have HLL := hide hLLE
        clear hLLE
        have hP6D : D < P6 := HPD.out
        have hgLP : D ≠ gL /\ P6 ≠ gL := ⟨fun e => by
          have := HI0.out.2.2.1
          rw [← e, HI0.out.2.2.2.2.1] at this
          simp at this, fun e => by
          have := HI0.out.2.2.1
          rw [← e, HI0.out.2.1] at this
          simp at this⟩
        obtain ⟨hgLP1, hgLP2⟩ := hgLP
        generalize hLST : (l.take i).flatMap cjO = LST at *
        clear hLST
        clear k0 k1 k2 k3 k4 k5
        have HCT := HCT0
        have HCL := HCK
        go_loopw [8, 9] (fun vk _ wr => ∃ i2 : Nat, vk = .int .i64 (i2 : Int) /\ i2 <= 1 /\ Below w2.heap.size w2 wr /\ wr.heap[P6]? = some (.cells #[.int .i64 kind, .int .i64 gate, .slice aq m cq, .int .i64 bit, .int .i64 cond, .int .i64 whn] 41) /\ wr.heap[gL]? = some (.cells ((LL : List Int).map (Value.int .i64)).toArray 38 (0, 0)) /\ D < wr.heap.size /\ ∃ (bo : Option Addr) (m3 j : Nat), wr.heap[D]? = some (.cells #[.int .i64 q, .int .i64 b, .slice bo m3 j] 24 (0, 0)) /\ m3 = m2 + i2 /\ ob bo ≠ some P6 /\ OpsOwn wr D bo m3 j (LST ++ CO.take i2)) (fun vk _ _ => 1 - (Go.RowKit.intOf vk).toNat)
        case atStart => exact ⟨0, rfl, Nat.zero_le _, HI0.out.1, HI0.out.2.1, HI0.out.2.2.1, HI0.out.2.2.2.1, bo, m2, j, HI0.out.2.2.2.2.1, rfl, HI0.out.2.2.2.2.2.1, by rw [List.take_zero, List.append_nil]; exact HI0.out.2.2.2.2.2.2⟩
        case round =>
          obtain ⟨i2, rfl, hi2, hb, h6, hgl, hDx, bo, m3, j, hmo, hm3, hnp, hO⟩ := hrel
          obtain ⟨x0, x1, x2, x3, x4, x5, x6, x7⟩ := six_cells h6
          obtain ⟨y0, y1, y2, y3⟩ := def_cells hmo
          have hglz : gL < wr.heap.size := (Array.getElem?_eq_some_iff.1 hgl).1
          have hP6x : P6 < wr.heap.size := (Array.getElem?_eq_some_iff.1 h6).1
          have HBx := hide hb
          have H6 := hide h6
          have HGL := hide hgl
          have HMO := hide hmo
          have HM3 := hide hm3
          have HNP := hide hnp
          have HOw := hide hO
          have hm3b : m3 <= 100000 := by omega
          clear hb h6 hgl hmo hm3 hnp hO
          by_cases h2 : i2 < 1
          . have hd2 : decide ((i2 : Int) < (1 : Int)) = true := decide_eq_true (by omega)
            have hkk2 : (i2 : Int) < (1 : Int) := by omega
            obtain ⟨kk, hkx⟩ : ∃ kk, LL[i2]? = some kk := ⟨_, List.getElem?_eq_getElem (by rw [HCL.out]; exact h2)⟩
            have hcell : wr.cell? ⟨gL, i2, none⟩ = some (.int .i64 kk) := by
              rw [cell_of_row _ _ _ _ _ _ HGL.out]
              simp [hkx]
            have HKX := hide hkx
            have HNX : Hid (Ns (wr.alloc (.cells #[.int .i64 kind, .int .i64 kk, .slice aq m cq, .int .i64 bit, .int .i64 cond, .int .i64 whn] 41)) aq qs) := hide ((HNS.out.below HBx.out).below (bnew _ _))
            have HXS : Hid ((wr.alloc (.cells #[.int .i64 kind, .int .i64 kk, .slice aq m cq, .int .i64 bit, .int .i64 cond, .int .i64 whn] 41)).heap.size = wr.heap.size + 1) := hide (by simp)
            clear hkx
            go_wp2_with (at_builtin; refine app_emp17 rfl _ _ rfl [] 0 rfl #[] rfl (wr.heap.size + 1) HXS.out rfl aq cq qs m HQ.out hpos rfl HNX.out (by omega) (by omega) ?_)
            intro a7 c7 w7 hR7 hb7
            try simp only [Nat.zero_add, List.nil_append] at hR7
            try simp only [Nat.zero_add]
            try rw [HXS.out] at hb7
            obtain ⟨ga, rfl⟩ : ∃ ga, a7 = some ⟨ga, 0, none⟩ := by
              obtain ⟨a, c, e, ho⟩ := hR7
              simp only [Value.slice.injEq] at e
              obtain ⟨g, e2, -⟩ := own_some ho (by rw [HQ.out]; exact hpos)
              exact ⟨g, by rw [e.1, e2]⟩
            have hcap : m <= c7 := by
              obtain ⟨a, c, e, ho⟩ := hR7
              simp only [Value.slice.injEq] at e
              have := own_cap17 ho
              rw [HQ.out, ← e.2.2] at this
              exact this
            have h97 := (hb7.block wr.heap.size (by omega)).trans (heap_alloc_new wr (.cells #[.int .i64 kind, .int .i64 kk, .slice aq m cq, .int .i64 bit, .int .i64 cond, .int .i64 whn] 41))
            obtain ⟨k0', k1', k2', k3', k4', k5', k6', k7'⟩ := six_cells h97
            have old7 : ∀ b9, b9 < wr.heap.size -> w7.heap[b9]? = wr.heap[b9]? := fun b9 h9 => (hb7.block b9 (by omega)).trans (Below.heap_alloc _ _ _ h9)
            have h67 := (old7 P6 (by omega)).trans H6.out
            obtain ⟨j0', j1', j2', j3', j4', j5', j6', j7'⟩ := six_cells h67
            have hcell7 : w7.cell? ⟨gL, i2, none⟩ = some (.int .i64 kk) := by
              rw [cell_of_row _ _ _ _ _ _ ((old7 gL hglz).trans HGL.out)]
              simp [HKX.out]
            have hd7 := (old7 D hDx).trans HMO.out
            obtain ⟨d0', d1', d2', d3'⟩ := def_cells hd7
            have HR7 := hide hR7
            have HB7 := hide hb7
            have H97 := hide h97
            have HO7 := hide old7
            have hz7 : wr.heap.size < w7.heap.size := by have := hb7.size; simp at this; omega
            clear hR7 hb7 h97 old7 h67 hd7 x0 x1 x2 x3 x4 x5 x6 x7 y0 y1 y2 y3 hcell
            have e0 : (kind == 1) = false := by simpa using HK1.out
            have hz9 := hz7
            have HH9 := H97
            have HOL := HO7
            have HRR := hide (HR7.out.base (show wr.heap.size <= wr.heap.size + 1 by omega))
            have HBL := hide ((bnew wr (.cells #[.int .i64 kind, .int .i64 kk, .slice aq m cq, .int .i64 bit, .int .i64 cond, .int .i64 whn] 41)).trans (HB7.out.mono (by omega)))
            have HEQ : Hid ((w7.setCell ⟨wr.heap.size, 2, none⟩ (.slice (some ⟨ga, 0, none⟩) m c7)) = w7.setRow wr.heap.size #[.int .i64 kind, .int .i64 kk, .slice (some ⟨ga, 0, none⟩) m c7, .int .i64 bit, .int .i64 cond, .int .i64 whn]) := hide (by
              rw [setCell_eq_setRow _ _ 2 _ _ _ _ HH9.out]
              rfl)
            have hX6 : ((w7.setCell ⟨wr.heap.size, 2, none⟩ (.slice (some ⟨ga, 0, none⟩) m c7))).heap[wr.heap.size]? = some (.cells #[.int .i64 kind, .int .i64 kk, .slice (some ⟨ga, 0, none⟩) m c7, .int .i64 bit, .int .i64 cond, .int .i64 whn] 41 (0, 0)) := by rw [HEQ.out]; exact setRow_heap _ _ _ _ _ _ HH9.out
            have hXo : ∀ b9, b9 ≠ wr.heap.size -> ((w7.setCell ⟨wr.heap.size, 2, none⟩ (.slice (some ⟨ga, 0, none⟩) m c7))).heap[b9]? = w7.heap[b9]? := fun b9 h9 => by rw [HEQ.out]; exact setRow_other _ _ _ _ h9
            have HXs : Hid (((w7.setCell ⟨wr.heap.size, 2, none⟩ (.slice (some ⟨ga, 0, none⟩) m c7))).heap.size = w7.heap.size) := hide (by simp [World.setCell])
            have HXB : Hid (∀ b9, b9 < wr.heap.size -> ((w7.setCell ⟨wr.heap.size, 2, none⟩ (.slice (some ⟨ga, 0, none⟩) m c7))).heap[b9]? = wr.heap[b9]?) := hide (fun b9 h9 => (hXo b9 (by omega)).trans (HOL.out b9 h9))
            have HXO : Hid (OpsE ((w7.setCell ⟨wr.heap.size, 2, none⟩ (.slice (some ⟨ga, 0, none⟩) m c7))) D wr.heap.size bo m3 j (LST ++ CO.take i2)) := hide (by
              obtain ⟨xs, e1, e2, e3, e4, e5, e6⟩ := HOw.out.upto
              exact ⟨xs, e1, e2, own_of_block e3 (fun q9 h9 => HXB.out q9 (own_lt e3 q9 h9).2), fun x hx => (e4 x hx).block (fun b9 cs fr hb9 => HXB.out b9 (Array.getElem?_eq_some_iff.1 hb9).1), e5, e6⟩)
            have HXR : Hid (RowO ((w7.setCell ⟨wr.heap.size, 2, none⟩ (.slice (some ⟨ga, 0, none⟩) m c7))) wr.heap.size (.slice (some ⟨ga, 0, none⟩) m c7) (⟨kind, kk, qs, bit, cond, whn⟩ : COp).qs) := hide (HRR.out.block (fun b9 cs fr hb9 => hXo b9 (fun e => by
              rw [e, HH9.out] at hb9
              simp at hb9)))
            have HXd : Hid (((w7.setCell ⟨wr.heap.size, 2, none⟩ (.slice (some ⟨ga, 0, none⟩) m c7))).heap[D]? = some (.cells #[.int .i64 q, .int .i64 b, .slice bo m3 j] 24 (0, 0))) := hide ((HXB.out D hDx).trans HMO.out)
            obtain ⟨w0', w1', w2', w3'⟩ := def_cells HXd.out
            obtain ⟨a0', a1', a2', a3', a4', a5', a6', a7'⟩ := six_cells hX6
            obtain ⟨s0', s1', s2', s3', s4', s5', s6', s7'⟩ := six_cells ((HXB.out P6 (by omega)).trans H6.out)
            have HXW : Hid (Below w2.heap.size w2 ((w7.setCell ⟨wr.heap.size, 2, none⟩ (.slice (some ⟨ga, 0, none⟩) m c7)))) := hide (by
              have e1 := HBx.out.trans (HBL.out.mono HBx.out.size)
              rw [HEQ.out]
              exact Below.row e1 _ _ (by omega))
            clear hX6 hXo
            go_wp2_with (at_builtin; refine list_push18 rfl _ _ rfl HXO.out (by omega) (by rw [HXs.out]; omega) (⟨kind, kk, qs, bit, cond, whn⟩ : COp) (.slice (some ⟨ga, 0, none⟩) m c7) HXR.out w7.heap.size HXs.out (by omega) _ rfl rfl rfl ?_)
            intro g6 c6 w6 hO5 hg6 hat6
            have hO6 : OpsOwn w6 D (some ⟨g6, 0, none⟩) (m3 + 1) c6 (LST ++ CO.take (i2 + 1)) := by
              rw [HCT.out i2 kk HKX.out, ← List.append_assoc]
              simpa using hO5
            have kp : ∀ b9, b9 < wr.heap.size -> ob bo ≠ some b9 -> w6.heap[b9]? = wr.heap[b9]? := fun b9 h9 hne => (hg6.block b9 (by rw [HXs.out]; omega) hne.symm).trans (HXB.out b9 h9)
            have d6 : w6.heap[D]? = some (.cells #[.int .i64 q, .int .i64 b, .slice bo m3 j] 24 (0, 0)) := (kp D hDx (HOw.out.ne HMO.out (by decide))).trans HMO.out
            have p6 : w6.heap[P6]? = some (.cells #[.int .i64 kind, .int .i64 gate, .slice aq m cq, .int .i64 bit, .int .i64 cond, .int .i64 whn] 41) := (kp P6 (by omega) HNP.out).trans H6.out
            have l6 : w6.heap[gL]? = some (.cells ((LL : List Int).map (Value.int .i64)).toArray 38 (0, 0)) := (kp gL hglz (HOw.out.ne HGL.out (by decide))).trans HGL.out
            have hb6 : Below w2.heap.size w2 w6 := HXW.out.grown hg6 (by rw [HXs.out]; omega) (fun q9 h9 => by have := HOw.out.blt q9 h9; omega)
            have hng : ob (some (⟨g6, 0, none⟩ : Addr)) ≠ some P6 := fun e => by
              have e' : g6 = P6 := by simpa [ob] using e
              rcases hat6 with hh | hh
              . exact HNP.out (by rw [hh, e'])
              . first
                  | omega
                  | (rw [HXs.out] at hh; omega)
            obtain ⟨s0, s1, s2, s3⟩ := def_cells d6
            have vf : w6.frozen? ⟨D, 2, none⟩ = false := by simp [World.frozen?, d6]
            have HE : Hid (w6.setCell ⟨D, 2, none⟩ (.slice (some ⟨g6, 0, none⟩) (m3 + 1) c6) = w6.setRow D #[.int .i64 q, .int .i64 b, .slice (some ⟨g6, 0, none⟩) (m3 + 1) c6]) := hide (by
              rw [setCell_eq_setRow _ _ 2 _ _ _ _ d6]
              rfl)
            have HF : Hid (Below w2.heap.size w2 (w6.setRow D #[.int .i64 q, .int .i64 b, .slice (some ⟨g6, 0, none⟩) (m3 + 1) c6]) /\ (w6.setRow D #[.int .i64 q, .int .i64 b, .slice (some ⟨g6, 0, none⟩) (m3 + 1) c6]).heap[P6]? = some (.cells #[.int .i64 kind, .int .i64 gate, .slice aq m cq, .int .i64 bit, .int .i64 cond, .int .i64 whn] 41) /\ (w6.setRow D #[.int .i64 q, .int .i64 b, .slice (some ⟨g6, 0, none⟩) (m3 + 1) c6]).heap[gL]? = some (.cells ((LL : List Int).map (Value.int .i64)).toArray 38 (0, 0)) /\ D < (w6.setRow D #[.int .i64 q, .int .i64 b, .slice (some ⟨g6, 0, none⟩) (m3 + 1) c6]).heap.size /\ ∃ (bo : Option Addr) (m4 j : Nat), (w6.setRow D #[.int .i64 q, .int .i64 b, .slice (some ⟨g6, 0, none⟩) (m3 + 1) c6]).heap[D]? = some (.cells #[.int .i64 q, .int .i64 b, .slice bo m4 j] 24 (0, 0)) /\ m4 = m2 + (i2 + 1) /\ ob bo ≠ some P6 /\ OpsOwn (w6.setRow D #[.int .i64 q, .int .i64 b, .slice (some ⟨g6, 0, none⟩) (m3 + 1) c6]) D bo m4 j (LST ++ CO.take (i2 + 1))) := hide
              ⟨Below.row hb6 _ _ (by omega), (setRow_other _ _ _ _ (by omega)).trans p6, (setRow_other _ _ _ _ (by omega)).trans l6, (Array.getElem?_eq_some_iff.1 (setRow_heap w6 D _ #[.int .i64 q, .int .i64 b, .slice (some ⟨g6, 0, none⟩) (m3 + 1) c6] _ _ d6)).1, _, m3 + 1, _, setRow_heap _ _ _ _ _ _ d6, by rw [HM3.out]; omega, hng, hO6.row d6 (by decide) (by decide) _⟩
            clear hO5 hO6 hg6 hat6 d6 p6 l6 hb6 kp hng
            go_wp2_with fail
            rw [HE.out]
            go_roundw
            case rel => exact ⟨i2 + 1, by go_num, by omega, HF.out⟩
            case measure => simp [Go.RowKit.intOf]; omega
          . obtain rfl : i2 = 1 := by omega
            have hd2 : decide ((1 : Int) < 1) = false := decide_eq_false (by omega)
            go_wp2_with fail
            go_roundw
            case rel =>
              refine ⟨i + 1, by go_num, by omega, HBx.out, hDx, bo, m3, j, HMO.out, ?_, by have := HM3.out; have := HC5.out; omega, ?_⟩
              . rw [HTK.out, List.length_append, ← HML.out, HM3.out, HCO.out]
              . have := HOw.out
                rw [List.take_of_length_le (by rw [HCO.out]; exact Nat.le_refl _)] at this
                rw [HTK.out]
                exact this
            case measure => simp [Go.RowKit.intOf]; omega
    . obtain rfl : n = i := by omega
      have hd : decide ((n : Int) < (n : Int)) = false := decide_eq_false (by omega)
      obtain ⟨s0, s1, s2, s3⟩ := def_cells HMO.out
      have htk : l.take n = l := List.take_of_length_le (by rw [HL.out]; exact Nat.le_refl _)
      have hO := HOw.out
      have hML := HML.out
      rw [htk] at hO hML
      have HO := hide hO
      have HME := hide hML
      clear hO hML htk HOw HML
      by_cases h4 : 4096 < m2
      . have d4 : decide ((m2 : Int) > 4096) = true := decide_eq_true (by omega)
        have d5 : decide ((4096 : Int) < (m2 : Int)) = true := decide_eq_true (by omega)
        go_wp2_with (refine wpList_store_row rfl _ _ _ rfl (w.heap.size + 1) _ rfl rfl _ _ HZr.out (by exact infoCi) (by rfl) (by simp [Value.oneCell']) ?_)
        refine bodyPost_ret (results_ct rfl _ _ (w.heap.size + 1) _ _ _ _ rfl (setRow_heap _ _ _ _ _ _ HZr.out) Tryd.underlying24 rfl (by exact infoCi)) rfl ?_
        have h5 : 4096 < (l.flatMap cjO).length := by rw [← HME.out]; exact h4
        have hre := HRE.out
        rw [if_pos h5] at hre
        simp only [nulC, Prod.mk.injEq, Circ.mk.injEq] at hre
        obtain ⟨⟨rfl, rfl, rfl⟩, rfl⟩ := hre
        obtain rfl := HRN.out
        exact ⟨none, 0, rfl, OpsAt.nil17 _ _, Below.row (HB2.out.trans (HBr.out.mono HB2.out.size)) _ _ (by omega)⟩
      . have d4 : decide ((m2 : Int) > 4096) = false := decide_eq_false (by omega)
        have d5 : decide ((4096 : Int) < (m2 : Int)) = false := decide_eq_false (by omega)
        go_wp2_with (refine wpList_store_row rfl _ _ _ rfl (w.heap.size + 1) _ rfl rfl _ _ HZr.out (by exact infoCi) (by rfl) (by simp [Value.oneCell']) ?_)
        refine bodyPost_ret (results_ct rfl _ _ (w.heap.size + 1) _ _ _ _ rfl (setRow_heap _ _ _ _ _ _ HZr.out) Tryd.underlying24 rfl (by exact infoCi)) rfl ?_
        have h5 : ¬ 4096 < (l.flatMap cjO).length := by rw [← HME.out]; exact h4
        have hre := HRE.out
        rw [if_neg h5] at hre
        simp only [Prod.mk.injEq, Circ.mk.injEq] at hre
        obtain ⟨⟨rfl, rfl, rfl⟩, rfl⟩ := hre
        obtain rfl := HRN.out
        rw [← HME.out]
        exact ⟨bo, j, rfl, ((HO.out.base (by omega)).row HZr.out (by decide) (by decide) _).at, Below.row (HB2.out.trans (HBr.out.mono HB2.out.size)) _ _ (by omega)⟩
theorem dConj (c : Circ) (ao : Option Addr) (k : Nat) (w : World) (hC : Ci w c ao k) : Calls Tryd.prog 9 #[cV c ao k] w fun e w' => ∃ bo j, e = .returned (.tuple #[cV (cjP c).1 bo j, .int .i64 (cjP c).2]) /\ OpsAt w' w.heap.size bo (cjP c).1.ops.length j (cjP c).1.ops /\ Below w.heap.size w w' := by
  rcases chk_two c with hk | hk
  . exact dConj_go c ao k hk w hC
  . have e : cjP c = (nulC, 80) := by unfold cjP; rw [if_pos (by rw [hk]; decide)]
    rw [e]
    refine (dConj_80 c ao k (by rw [hk]; rfl) w hC).mono ?_
    rintro e w' ⟨rfl, hb⟩
    exact ⟨none, 0, rfl, OpsAt.nil17 _ _, hb⟩
end Go.Proofs.YtmkalhaegbnknaaDoor.Cir
