import Derived.Test.YtmkalhaegbnknaaDoorQ46d9e303
set_option maxRecDepth 100000
set_option maxHeartbeats 2000000
namespace Go.Proofs.YtmkalhaegbnknaaDoor.Cir
open Go.RowKit Go.Shelf Go.Proofs.YtmkalhaegbnknaaDoor.Oct Go.Proofs.YtmkalhaegbnknaaDoor.Tok Go.Proofs.YtmkalhaegbnknaaDoor.Gt
theorem cIndexM (f : Nat) (he : ∀ args w, (callFunc f args).run Tryd.prog w = .ok (.enter f args) w) (P : COp -> Bool) (ops : List COp) (ao : Option Addr) (k : Nat) (hn : ops.length <= 1000000000000000) (w : World) (hO : OpsIn w ao ops)
    (hf : ∀ V, Below w.heap.size w V -> ∀ o ∈ ops, ∀ aq cq, Calls Tryd.prog f #[opV o aq cq] V fun e w' => e = .returned (.bool (P o)) /\ Below V.heap.size V w') :
    Calls Tryd.prog 48 #[.slice ao ops.length k, .func (.func f) #[] #[]] w fun e w' => (∃ r : Int, e = .returned (.int .i64 r) /\ decide (0 <= r) = ops.any P) /\ Below w.heap.size w w' := by
  have HO := hide hO
  obtain ⟨n, hn'⟩ : ∃ n, ops.length = n := ⟨_, rfl⟩
  have HL := hide hn'
  rw [hn'] at hn ⊢
  clear hn' hO
  go_enter Tryd.func48, Tryd.ntmps48
  go_wp2_with fail
  go_loopw [5, 8] (fun _ vi wr => ∃ i : Nat, vi = .int .i64 (i : Int) /\ i <= n /\ Hid ((ops.take i).any P = false) /\ Below w.heap.size w wr) (fun _ vi _ => n - (Go.RowKit.intOf vi).toNat)
  case atStart => exact ⟨0, rfl, Nat.zero_le _, hide rfl, Below.refl _ _⟩
  case round =>
    obtain ⟨i, rfl, hi, HA, hb⟩ := hrel
    by_cases h : i < n
    . have hd : decide ((i : Int) < (n : Int)) = true := decide_eq_true (by omega)
      obtain ⟨o, ho⟩ : ∃ o, ops[i]? = some o := ⟨_, List.getElem?_eq_getElem (by rw [HL.out]; exact h)⟩
      obtain ⟨g, off, aq, cq, rfl, hgl, hoc⟩ := (HO.out.below hb).at ho
      have k0 := hoc.kind
      have k1 := hoc.gate
      have k2 := hoc.qs
      have k3 := hoc.bit
      have k4 := hoc.cond
      have k5 := hoc.whn
      have c1 := hf wr hb o (List.mem_of_getElem? ho) aq cq
      have HS : Hid (P o = false -> (ops.take (i + 1)).any P = false) := hide (fun e => by
        rw [List.take_add_one, ho, List.any_append, HA.out]
        simp [e])
      have HY : Hid (P o = true -> ops.any P = true) := hide (fun e => List.any_eq_true.2 ⟨o, List.mem_of_getElem? ho, e⟩)
      unfold opV at c1
      generalize P o = po at *
      clear hoc ho
      obtain ⟨kind, gate, qs, bit, cond, whn⟩ := o
      simp only at k0 k1 k2 k3 k4 k5 c1
      cases po with
      | true =>
        have HY2 := hide (HY.out rfl)
        clear HS HY
        go_wp2_with fail
        refine c1.mono ?_
        rintro e w2 ⟨rfl, hb2⟩
        go_wp2_with fail
        go_ret
        refine ⟨⟨(i : Int), rfl, ?_⟩, hb.trans (hb2.mono hb.size)⟩
        rw [HY2.out]
        exact decide_eq_true (by omega)
      | false =>
        have HS2 := hide (HS.out rfl)
        clear HS HY
        go_wp2_with fail
        refine c1.mono ?_
        rintro e w2 ⟨rfl, hb2⟩
        go_wp2_with fail
        go_roundw
        case rel => exact ⟨i + 1, by go_num, by omega, HS2, hb.trans (hb2.mono hb.size)⟩
        case measure => simp [Go.RowKit.intOf]; omega
    . obtain rfl : n = i := by omega
      have hz := HA.out
      rw [List.take_of_length_le (by rw [HL.out]; exact Nat.le_refl _)] at hz
      have HZ := hide hz
      clear hz HA
      go_wp2_with fail
      go_ret
      exact ⟨⟨-1, rfl, by rw [HZ.out]; rfl⟩, hb⟩
theorem cContainsM (f : Nat) (he : ∀ args w, (callFunc f args).run Tryd.prog w = .ok (.enter f args) w) (P : COp -> Bool) (ops : List COp) (ao : Option Addr) (k : Nat) (hn : ops.length <= 1000000000000000) (w : World) (hO : OpsIn w ao ops)
    (hf : ∀ V, Below w.heap.size w V -> ∀ o ∈ ops, ∀ aq cq, Calls Tryd.prog f #[opV o aq cq] V fun e w' => e = .returned (.bool (P o)) /\ Below V.heap.size V w') :
    Calls Tryd.prog 33 #[.slice ao ops.length k, .func (.func f) #[] #[]] w fun e w' => e = .returned (.bool (ops.any P)) /\ Below w.heap.size w w' := by
  have c1 := cIndexM f he P ops ao k hn w hO hf
  generalize ops.any P = R at *
  generalize ops.length = n at *
  clear hf hO he
  go_enter Tryd.func33, Tryd.ntmps33
  go_wp2_with (first | (go_at_call 48; refine c1.mono ?_; rintro e w2 ⟨⟨r, rfl, hr⟩, hb2⟩))
  go_ret
  exact ⟨by rw [← hr]; rfl, hb2⟩
theorem ct_at {w : World} (hT : Ti w) {x : Nat} (hx : x < 21) : w.cell? ⟨1, x, none⟩ = some (.int .i64 (ctK (x : Int))) := by
  refine hT.ct x _ ?_
  unfold ctV ctK
  rw [List.getElem?_map, Int.toNat_natCast, List.getElem?_eq_getElem (show x < ctT.length from hx)]
  rfl
theorem iUncontrolled (o : COp) (aq : Option Addr) (cq : Nat) (h0 : 0 <= o.gate) (h1 : o.gate <= 20) (w : World) (hT : Ti w) : Calls Tryd.prog 34 #[opV o aq cq] w fun e w' => e = .returned (.bool (ncO o)) /\ Below w.heap.size w w' := by
  obtain ⟨kind, gate, qs, bit, cond, whn⟩ := o
  unfold opV ncO
  simp only at *
  obtain ⟨x, rfl⟩ : ∃ x : Nat, gate = (x : Int) := ⟨gate.toNat, by omega⟩
  generalize qs.length = m
  have hx : x < 21 := by omega
  have hct := ct_at (hT.below (bnew w (.cells #[.int .i64 kind, .int .i64 (x : Int), .slice aq m cq, .int .i64 bit, .int .i64 cond, .int .i64 whn] 41))) hx
  generalize ctK (x : Int) = v at *
  have hxi : (x : Int) < 21 := by omega
  clear hT h0 h1
  by_cases hk : kind = 1
  . subst hk
    go_enter Tryd.func34, Tryd.ntmps34
    go_wp2_with fail
    go_ret
    exact ⟨by cases hv : (v == 0) <;> simp_all, bnew _ _⟩
  . have e1 : (kind == 1) = false := by simpa using hk
    rw [decide_eq_false hk]
    go_enter Tryd.func34, Tryd.ntmps34
    go_wp2_with fail
    go_ret
    exact ⟨rfl, bnew _ _⟩
theorem eUnc : ∀ args w, (callFunc 34 args).run Tryd.prog w = .ok (.enter 34 args) w := enters_of Tryd.func34 (by kernel_rfl) rfl
end Go.Proofs.YtmkalhaegbnknaaDoor.Cir
namespace Go.Proofs.YtmkalhaegbnknaaDoor.Cir
open Go.RowKit Go.Shelf Go.Proofs.YtmkalhaegbnknaaDoor.Oct Go.Proofs.YtmkalhaegbnknaaDoor.Tok Go.Proofs.YtmkalhaegbnknaaDoor.Gt Go.Proofs.YtmkalhaegbnknaaDoor.Rf
theorem c6_set17 (w : World) (g : Nat) (cs : Array Value) (a b c d e f : Value) (t : TypeId) (hg : w.heap[g]? = some (.cells cs t (0, 0))) (hs : cs.size = 6) : (((((w.setCell ⟨g, 0, none⟩ a).setCell ⟨g, 1, none⟩ b).setCell ⟨g, 2, none⟩ c).setCell ⟨g, 3, none⟩ d).setCell ⟨g, 4, none⟩ e).setCell ⟨g, 5, none⟩ f = w.setRow g #[a, b, c, d, e, f] := by
  obtain ⟨l⟩ := cs
  match l, hs with
  | [u0, u1, u2, u3, u4, u5], _ =>
    rw [setCell_eq_setRow w g 0 _ t _ _ hg, setCell_eq_setRow _ g 1 _ t _ _ (setRow_heap w g _ _ t _ hg), setRow_setRow, setCell_eq_setRow _ g 2 _ t _ _ (setRow_heap w g _ _ t _ hg), setRow_setRow, setCell_eq_setRow _ g 3 _ t _ _ (setRow_heap w g _ _ t _ hg), setRow_setRow, setCell_eq_setRow _ g 4 _ t _ _ (setRow_heap w g _ _ t _ hg), setRow_setRow, setCell_eq_setRow _ g 5 _ t _ _ (setRow_heap w g _ _ t _ hg), setRow_setRow]
    rfl
theorem iUnder (q : Int) (o : COp) (aq : Option Addr) (cq : Nat) (h0 : 0 <= o.gate) (h1 : o.gate <= 20) (hl : o.qs.length <= 1000000000000) (hpos : 0 < o.qs.length) (w : World) (hT : Ti w) (hN : Ns w aq o.qs) : Calls Tryd.prog 35 #[.int .i64 q, opV o aq cq] w fun e w' => ∃ a' c', e = .returned (opV (ctO q o) a' c') /\ RowO w' w.heap.size (.slice a' (ctO q o).qs.length c') (ctO q o).qs /\ Below w.heap.size w w' := by
  have c1 := fun V (h : Below w.heap.size w V) k => iWith o aq cq k aq cq o.qs (by omega) V (hN.below h)
  have c2 := fun V k ar cr (h : Ns V ar (q :: o.qs)) => iWith o aq cq k ar cr (q :: o.qs) (by simp; omega) V h
  obtain ⟨kind, gate, qs, bit, cond, whn⟩ := o
  unfold ctO
  simp only at *
  obtain ⟨x, rfl⟩ : ∃ x : Nat, gate = (x : Int) := ⟨gate.toNat, by omega⟩
  have hx : x < 21 := by omega
  unfold opV at *
  simp only [List.length_cons] at *
  obtain ⟨m, hm⟩ : ∃ m, qs.length = m := ⟨_, rfl⟩
  have HQ := hide hm
  simp only [hm] at c1 c2 hl hpos ⊢
  clear hm
  have HW : Hid (Below w.heap.size w ((w.alloc (.cells #[.int .i64 kind, .int .i64 (x : Int), .slice aq m cq, .int .i64 bit, .int .i64 cond, .int .i64 whn] 41)).alloc (.cells #[.int .i64 0, .int .i64 0, .slice none 0 0, .int .i64 0, .int .i64 0, .int .i64 0] 41))) := hide ((bnew _ _).trans ((bnew _ _).mono (by simp)))
  have hct := ct_at (hT.below HW.out) hx
  have HNS := hide (hN.below HW.out)
  have hxi : (x : Int) < 21 := by omega
  generalize ctK (x : Int) = v at *
  clear hT h0 h1 hN
  have HM : Hid (((w.alloc (.cells #[.int .i64 kind, .int .i64 (x : Int), .slice aq m cq, .int .i64 bit, .int .i64 cond, .int .i64 whn] 41)).alloc (.cells #[.int .i64 0, .int .i64 0, .slice none 0 0, .int .i64 0, .int .i64 0, .int .i64 0] 41)).heap[w.heap.size]? = some (.cells #[.int .i64 kind, .int .i64 (x : Int), .slice aq m cq, .int .i64 bit, .int .i64 cond, .int .i64 whn] 41) /\ ((w.alloc (.cells #[.int .i64 kind, .int .i64 (x : Int), .slice aq m cq, .int .i64 bit, .int .i64 cond, .int .i64 whn] 41)).alloc (.cells #[.int .i64 0, .int .i64 0, .slice none 0 0, .int .i64 0, .int .i64 0, .int .i64 0] 41)).heap[w.heap.size]? = some (.cells #[.int .i64 kind, .int .i64 (x : Int), .slice aq m cq, .int .i64 bit, .int .i64 cond, .int .i64 whn] 41) /\ ((w.alloc (.cells #[.int .i64 kind, .int .i64 (x : Int), .slice aq m cq, .int .i64 bit, .int .i64 cond, .int .i64 whn] 41)).alloc (.cells #[.int .i64 0, .int .i64 0, .slice none 0 0, .int .i64 0, .int .i64 0, .int .i64 0] 41)).heap[w.heap.size + 1]? = some (.cells #[.int .i64 0, .int .i64 0, .slice none 0 0, .int .i64 0, .int .i64 0, .int .i64 0] 41)) := hide (by
    obtain ⟨m1, m2⟩ := may_keep (w := w) (Below.refl _ ((w.alloc (.cells #[.int .i64 kind, .int .i64 (x : Int), .slice aq m cq, .int .i64 bit, .int .i64 cond, .int .i64 whn] 41)).alloc (.cells #[.int .i64 0, .int .i64 0, .slice none 0 0, .int .i64 0, .int .i64 0, .int .i64 0] 41)))
    exact ⟨m1, m1, m2⟩)
  by_cases hv : v = (x : Int)
  . subst hv
    rw [if_pos rfl]
    have e0 : ((x : Int) == (x : Int)) = true := by simp
    go_enter Tryd.func35, Tryd.ntmps35
    go_wp2_with (first
      | (go_at_call 46; refine (c1 _ HW.out _).mono ?_; rintro e w1 ⟨a1, k1, rfl, hR, hb1⟩; have m2 := (hb1.block (w.heap.size + 1) (by simp)).trans HM.out.2.2; have HR := hide hR; have HB1 := hide hb1; have HM2 := hide m2; clear hR hb1 m2)
      | refine wpList_store_row rfl _ _ _ rfl (w.heap.size + 1) _ rfl rfl _ _ HM2.out (by exact infoO6) (by rfl) (by simp [Value.oneCell']) ?_)
    refine bodyPost_ret (results_c rfl _ _ (w.heap.size + 1) _ _ _ _ rfl (setRow_heap _ _ _ _ _ _ HM2.out) Tryd.underlying41 rfl (by exact infoO6)) rfl ?_
    refine ⟨a1, k1, by rw [HQ.out], ?_, Below.row (HW.out.trans (HB1.out.mono HW.out.size)) _ _ (by omega)⟩
    rw [HQ.out]
    refine (HR.out.base HW.out.size).block (fun g cs fr hg => setRow_other _ _ _ _ (fun e => ?_))
    subst e
    rw [HM2.out] at hg
    simp at hg
  . rw [if_neg hv]
    have e0 : (v == (x : Int)) = false := by simpa using hv
    have HV := hide hv
    clear hv
    go_enter Tryd.func35, Tryd.ntmps35
    go_wp2_with fail
    obtain ⟨i0, hi, hz0, hz1, hz2⟩ := info_parts Gt.infoI
    obtain ⟨gs, os, haq, hsc⟩ := HNS.out.resolve_left (fun e => by have := HQ.out; rw [e] at this; simp at this; omega)
    have HSC := hide hsc
    have HAQ := hide haq
    clear hsc haq
    generalize hW0 : (w.alloc (.cells #[.int .i64 kind, .int .i64 (x : Int), .slice aq m cq, .int .i64 bit, .int .i64 cond, .int .i64 whn] 41)).alloc (.cells #[.int .i64 0, .int .i64 0, .slice none 0 0, .int .i64 0, .int .i64 0, .int .i64 0] 41) = W0 at *
    refine region_front (S := (fun V : World => V.heap[w.heap.size]? = some (.cells #[.int .i64 kind, .int .i64 (x : Int), .slice aq m cq, .int .i64 bit, .int .i64 cond, .int .i64 whn] 41))) (by kernel_rfl) 8 (by kernel_rfl) HM.out.2.1 (fun hHeld => ?_)
    simp only [List.take_succ_cons, List.take_zero]
    refine take_to (i := 0) (d := 19) (v := ?_) rfl rfl (by kernel_rfl) (by kernel_rfl) (by kernel_rfl) (fun _ _ _ h => h) (Or.inl ⟨by rfl, ?_⟩) (by assumption) ?_
    rotate_left 1
    . intro W hSw
      obtain ⟨s0, s1, s2, s3, s4, s5, s6, s7⟩ := six_cells hSw
      go_simp
      with_reducible rfl
    simp only [Act.put, List.setIfInBounds_toArray, List.set_cons_zero, List.set_cons_succ]
    refine take_to (i := 1) (d := 20) (v := ?_) rfl rfl (by kernel_rfl) (by kernel_rfl) (by kernel_rfl) (fun _ _ _ h => h) (Or.inl ⟨by rfl, ?_⟩) (by assumption) ?_
    rotate_left 1
    . intro W hSw
      obtain ⟨s0, s1, s2, s3, s4, s5, s6, s7⟩ := six_cells hSw
      go_simp
      with_reducible rfl
    simp only [Act.put, List.setIfInBounds_toArray, List.set_cons_zero, List.set_cons_succ]
    refine take_to (i := 2) (d := 21) (v := ?_) rfl rfl (by kernel_rfl) (by kernel_rfl) (by kernel_rfl) (fun _ _ _ h => h) (Or.inl ⟨by rfl, ?_⟩) (by assumption) ?_
    rotate_left 1
    . intro W hSw
      obtain ⟨s0, s1, s2, s3, s4, s5, s6, s7⟩ := six_cells hSw
      go_simp
      with_reducible rfl
    simp only [Act.put, List.setIfInBounds_toArray, List.set_cons_zero, List.set_cons_succ]
    refine take_to (i := 4) (d := 23) (v := ?_) rfl rfl (by kernel_rfl) (by kernel_rfl) (by kernel_rfl) (fun _ _ _ h => h) (Or.inl ⟨by rfl, ?_⟩) (by assumption) ?_
    rotate_left 1
    . intro W hSw
      obtain ⟨s0, s1, s2, s3, s4, s5, s6, s7⟩ := six_cells hSw
      go_simp
      with_reducible rfl
    simp only [Act.put, List.setIfInBounds_toArray, List.set_cons_zero, List.set_cons_succ]
    refine take_to (i := 5) (d := 24) (v := ?_) rfl rfl (by kernel_rfl) (by kernel_rfl) (by kernel_rfl) (fun _ _ _ h => h) (Or.inl ⟨by rfl, ?_⟩) (by assumption) ?_
    rotate_left 1
    . intro W hSw
      obtain ⟨s0, s1, s2, s3, s4, s5, s6, s7⟩ := six_cells hSw
      go_simp
      with_reducible rfl
    simp only [Act.put, List.setIfInBounds_toArray, List.set_cons_zero, List.set_cons_succ]
    refine wpAnyH_ready (rs := [3]) (by kernel_rfl) (by simp) ?_
    refine AllReadyH.cons (o := { dst := some 22, op := Op.buildSlice 39 1 #[(0, Operand.tmp 21)], type := 39, pos := "table.go:72", after := #[{ on := 2, ground := Ground.data }], guard := none }) rfl (fun K hK => ?_) AllReadyH.nil
    go_simp
    have hSa : (fun V : World => V.heap[w.heap.size]? = some (.cells #[.int .i64 kind, .int .i64 (x : Int), .slice aq m cq, .int .i64 bit, .int .i64 cond, .int .i64 whn] 41)) (W0.alloc (.cells #[.int .i64 q] 3)).drew := (Below.heap_alloc _ _ _ (Array.getElem?_eq_some_iff.1 HM.out.1).1).trans HM.out.1
    have hba : Below W0.heap.size W0 (W0.alloc (.cells #[.int .i64 q] 3)).drew := (bnew _ _).drew
    have hown : (W0.alloc (.cells #[.int .i64 q] 3)).drew.ownsRow W0.heap.size 3 1 (.slice (some ⟨W0.heap.size, 0, none⟩) 1 1) 1 [.int .i64 q] := ⟨rfl, .inr ⟨W0.heap.size, 1, #[.int .i64 q], rfl, Nat.le_refl _, heap_alloc_new _ _, Nat.le_refl _, by decide, rfl, rfl⟩⟩
    have hmz : (W0.alloc (.cells #[.int .i64 q] 3)).drew.heap[w.heap.size + 1]? = some (.cells #[.int .i64 0, .int .i64 0, .slice none 0 0, .int .i64 0, .int .i64 0, .int .i64 0] 41) := (Below.heap_alloc _ _ _ (Array.getElem?_eq_some_iff.1 HM.out.2.2).1).trans HM.out.2.2
    have hza : (W0.alloc (.cells #[.int .i64 q] 3)).drew.heap.size = W0.heap.size + 1 := World.size_alloc _ _
    refine hK.out _ _ hSa (fun hHeld => ?_)
    clear hK K
    generalize (W0.alloc (.cells #[.int .i64 q] 3)).drew = Wa at *
    try simp only [Act.put, List.setIfInBounds_toArray, List.set_cons_zero, List.set_cons_succ]
    refine wpAnyH_ready (rs := [6]) (by kernel_rfl) (by simp) ?_
    refine AllReadyH.cons (o := { dst := some 25, op := Op.call { callee := Callee.builtin Builtin.append, args := #[Operand.tmp 22, Operand.tmp 24], argTypes := #[39, 39] }, type := 39, pos := "table.go:72", after := #[{ on := 3, ground := Ground.data }, { on := 5, ground := Ground.data }], guard := none }) rfl (fun K hK => ?_) AllReadyH.nil
    refine step_append_lies _ rfl (.tmp 22) (.tmp 24) 39 rfl W0.heap.size 3 i0 (.int .i64 0) 1 8 Tryd.underlying39 hi hz0 hz1 hz2 rfl (by decide) (.slice (some ⟨W0.heap.size, 0, none⟩) 1 1) 1 [.int .i64 q] (by rfl) hown ⟨gs, os, none⟩ m cq (qs.map (Value.int .i64)) (by rw [← HAQ.out]; rfl) (by rw [List.length_map, HQ.out]; simp) (fun j u hu => ?_) (fun u hu => ?_) hpos (by unfold maxLen; omega) (by omega) (by omega) _ rfl ?_
    . rw [Addr.add_lit]
      rw [List.getElem?_map] at hu
      obtain ⟨y, hy, rfl⟩ := Option.map_eq_some_iff.1 hu
      exact cell_below (HSC.out j y hy) hba
    . obtain ⟨y, _, rfl⟩ := List.mem_map.1 hu
      rfl
    intro g2 cap w2 hown2 hgrow hat hlt
    have hb2 : Below W0.heap.size W0 w2 := hba.grown hgrow (by omega) (fun k hk => by cases hk; exact Nat.le_refl _)
    have hS2 : (fun V : World => V.heap[w.heap.size]? = some (.cells #[.int .i64 kind, .int .i64 (x : Int), .slice aq m cq, .int .i64 bit, .int .i64 cond, .int .i64 whn] 41)) w2 := (hb2.block _ (Array.getElem?_eq_some_iff.1 HM.out.1).1).trans HM.out.1
    have hz2m : w2.heap[w.heap.size + 1]? = some (.cells #[.int .i64 0, .int .i64 0, .slice none 0 0, .int .i64 0, .int .i64 0, .int .i64 0] 41) := (hb2.block _ (Array.getElem?_eq_some_iff.1 HM.out.2.2).1).trans HM.out.2.2
    have hNs : Ns w2 (some ⟨g2, 0, none⟩) (q :: qs) := .inr ⟨g2, 0, rfl, fun j z hj => by
      rw [Nat.zero_add]
      refine own_at hown2 _ _ ?_
      show ((q :: qs).map (Value.int .i64))[j]? = _
      rw [List.getElem?_map, hj]
      rfl⟩
    have c3 := c2 w2 v (some ⟨g2, 0, none⟩) cap hNs
    rw [Nat.add_comm m 1] at c3
    refine hK.out _ _ hS2 (fun hHeld => ?_)
    clear hK K hown2 hgrow hat hlt
    try simp only [Act.put, List.setIfInBounds_toArray, List.set_cons_zero, List.set_cons_succ]
    refine wpAnyH_ready (rs := [7]) (by kernel_rfl) (by simp) ?_
    refine AllReadyH.cons (o := { dst := some 26, op := Op.call { callee := Callee.value (Operand.func 46), args := #[Operand.tmp 19, Operand.tmp 20, Operand.tmp 25], argTypes := #[41, 38, 39] }, type := 41, pos := "table.go:72", after := #[{ on := 0, ground := Ground.data }, { on := 1, ground := Ground.data }, { on := 6, ground := Ground.data }, { on := 6, ground := Ground.chain }], guard := none }) rfl (fun K hK => ?_) AllReadyH.nil
    go_simp
    go_at_call 46
    refine Calls.mono c3 ?_
    rintro e w3 ⟨a3, k3, rfl, hR3, hb3⟩
    have hS3 : (fun V : World => V.heap[w.heap.size]? = some (.cells #[.int .i64 kind, .int .i64 (x : Int), .slice aq m cq, .int .i64 bit, .int .i64 cond, .int .i64 whn] 41)) w3 := (hb3.block _ (Array.getElem?_eq_some_iff.1 hS2).1).trans hS2
    have hm3 : w3.heap[w.heap.size + 1]? = some (.cells #[.int .i64 0, .int .i64 0, .slice none 0 0, .int .i64 0, .int .i64 0, .int .i64 0] 41) := (hb3.block _ (Array.getElem?_eq_some_iff.1 hz2m).1).trans hz2m
    have hbb : Below w.heap.size w w3 := (HW.out.trans (hb2.mono HW.out.size)).trans (hb3.mono (HW.out.trans (hb2.mono HW.out.size)).size)
    have hRb := hR3.base (HW.out.trans (hb2.mono HW.out.size)).size
    go_wp2_with fail
    refine hK.out _ _ hS3 (fun hHeld => ?_)
    clear hK K
    try simp only [Act.put, List.setIfInBounds_toArray, List.set_cons_zero, List.set_cons_succ]
    refine wpAnyH_done (by kernel_rfl) ?_ _
    refine ql_last17 (o := { dst := none, op := Op.store 41 (Operand.tmp 4) (Operand.tmp 26), type := 0, pos := "table.go:72", after := #[{ on := 7, ground := Ground.data }, { on := 7, ground := Ground.chain }, { on := 0, ground := Ground.phase }, { on := 1, ground := Ground.phase }, { on := 2, ground := Ground.phase }, { on := 3, ground := Ground.phase }, { on := 4, ground := Ground.phase }, { on := 5, ground := Ground.phase }, { on := 6, ground := Ground.phase }, { on := 7, ground := Ground.phase }], guard := none }) rfl (fun K hK => ?_)
    obtain ⟨u0, u1, u2, u3, u4, u5, u6, u7⟩ := six_cells hm3
    have HR3 := hide hRb
    have HB3 := hide hbb
    have HM3 := hide hm3
    clear hRb hbb hm3 hR3 hb3 hS3 hHeld hb2 hS2 hz2m hNs c3
    go_simp
    refine hK.out _ _ ?_
    clear hK K
    rw [c6_set17 _ _ _ _ _ _ _ _ _ _ HM3.out rfl]
    go_wp2_with fail
    refine bodyPost_ret (results_c rfl _ _ (w.heap.size + 1) _ _ _ _ rfl (setRow_heap _ _ _ _ _ _ HM3.out) Tryd.underlying41 rfl (by exact infoO6)) rfl ?_
    refine ⟨a3, k3, by rw [HQ.out, Nat.add_comm m 1], ?_, Below.row HB3.out _ _ (by omega)⟩
    have hr := HR3.out
    try simp only [List.length_cons] at hr ⊢
    rw [HQ.out, Nat.add_comm m 1]
    refine hr.block (fun g cs fr hg => setRow_other _ _ _ _ (fun e => ?_))
    subst e
    rw [HM3.out] at hg
    simp at hg
end Go.Proofs.YtmkalhaegbnknaaDoor.Cir
