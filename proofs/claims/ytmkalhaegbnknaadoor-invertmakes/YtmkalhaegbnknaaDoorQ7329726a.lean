import Derived.Test.YtmkalhaegbnknaaDoorQb5801e0d
set_option maxRecDepth 100000
set_option maxHeartbeats 4000000
namespace Go.Proofs.YtmkalhaegbnknaaDoor.Cir
open Go.RowKit Go.Shelf Go.Proofs.YtmkalhaegbnknaaDoor.Oct Go.Proofs.YtmkalhaegbnknaaDoor.Tok Go.Proofs.YtmkalhaegbnknaaDoor.Gt Go.Proofs.YtmkalhaegbnknaaDoor.Rf
theorem cjV_eq : cjV = cjT.flatten.map (Value.int .i64) := by
  unfold cjV
  rw [List.flatMap_def, List.map_flatten]
theorem cj_flat : ∀ (x : Fin 21) (j : Fin 5), cjT.flatten[x.1 * 5 + j.1]? = (cjT[x.1]?).bind (·[j.1]?) := by decide +kernel
theorem cj_five : ∀ x : Fin 21, ∃ a0 a1 a2 a3 a4 : Int, cjT[x.1]? = some [a0, a1, a2, a3, a4] := fun x => by
  have h : ∀ x : Fin 21, ((cjT[x.1]?).map (·.length)) = some 5 := by decide +kernel
  have hx := h x
  cases hc : cjT[x.1]? with
  | none => rw [hc] at hx; cases hx
  | some l =>
    rw [hc] at hx
    match l, hx with
    | [a0, a1, a2, a3, a4], _ => exact ⟨a0, a1, a2, a3, a4, rfl⟩
theorem cj_ar : ∀ x : Fin 21, ∀ k ∈ (cjT[x.1]?).getD [], k ≠ 0 -> (rw' k).q = (arN k : Int) /\ 1 <= arN k /\ arN k <= arN (x.1 : Int) := by decide +kernel
def cjF (r : List Int) (kd : Int) (qs : List Int) (bit cond whn : Int) (i : Nat) : List COp := ((r.take i).filter (· ≠ 0)).map fun k => ⟨kd, k, qs.take (arN k), bit, cond, whn⟩
theorem cjF_yes (r : List Int) (kd : Int) (qs : List Int) (bit cond whn : Int) (i : Nat) (k : Int) (h : r[i]? = some k) (hk : k ≠ 0) : cjF r kd qs bit cond whn (i + 1) = cjF r kd qs bit cond whn i ++ [⟨kd, k, qs.take (arN k), bit, cond, whn⟩] := by
  unfold cjF
  rw [List.take_add_one, h, List.filter_append, List.map_append]
  simp [hk]
theorem cjF_no (r : List Int) (kd : Int) (qs : List Int) (bit cond whn : Int) (i : Nat) (h : r[i]? = some 0) : cjF r kd qs bit cond whn (i + 1) = cjF r kd qs bit cond whn i := by
  unfold cjF
  rw [List.take_add_one, h, List.filter_append, List.map_append]
  simp
theorem idx5_0 (a0 a1 a2 a3 a4 : Int) (w : World) : (Instr.index 70 (.agg #[.int .i64 a0, .int .i64 a1, .int .i64 a2, .int .i64 a3, .int .i64 a4]) (.int .i64 ((0 : Nat) : Int))).run Tryd.prog w = .ok (.int .i64 a0) w := by kernel_rfl
theorem idx5_1 (a0 a1 a2 a3 a4 : Int) (w : World) : (Instr.index 70 (.agg #[.int .i64 a0, .int .i64 a1, .int .i64 a2, .int .i64 a3, .int .i64 a4]) (.int .i64 ((1 : Nat) : Int))).run Tryd.prog w = .ok (.int .i64 a1) w := by kernel_rfl
theorem idx5_2 (a0 a1 a2 a3 a4 : Int) (w : World) : (Instr.index 70 (.agg #[.int .i64 a0, .int .i64 a1, .int .i64 a2, .int .i64 a3, .int .i64 a4]) (.int .i64 ((2 : Nat) : Int))).run Tryd.prog w = .ok (.int .i64 a2) w := by kernel_rfl
theorem idx5_3 (a0 a1 a2 a3 a4 : Int) (w : World) : (Instr.index 70 (.agg #[.int .i64 a0, .int .i64 a1, .int .i64 a2, .int .i64 a3, .int .i64 a4]) (.int .i64 ((3 : Nat) : Int))).run Tryd.prog w = .ok (.int .i64 a3) w := by kernel_rfl
theorem idx5_4 (a0 a1 a2 a3 a4 : Int) (w : World) : (Instr.index 70 (.agg #[.int .i64 a0, .int .i64 a1, .int .i64 a2, .int .i64 a3, .int .i64 a4]) (.int .i64 ((4 : Nat) : Int))).run Tryd.prog w = .ok (.int .i64 a4) w := by kernel_rfl
theorem idx5 (a0 a1 a2 a3 a4 : Int) (i : Nat) (k : Int) (h : [a0, a1, a2, a3, a4][i]? = some k) (w : World) : (Instr.index 70 (.agg #[.int .i64 a0, .int .i64 a1, .int .i64 a2, .int .i64 a3, .int .i64 a4]) (.int .i64 (i : Int))).run Tryd.prog w = .ok (.int .i64 k) w := by
  have hi : i < 5 := (List.getElem?_eq_some_iff.1 h).1
  obtain rfl | rfl | rfl | rfl | rfl : i = 0 ∨ i = 1 ∨ i = 2 ∨ i = 3 ∨ i = 4 := by omega
  . simp only [List.getElem?_cons_zero, Option.some.injEq] at h
    rw [← h]
    exact idx5_0 a0 a1 a2 a3 a4 w
  . simp only [List.getElem?_cons_zero, List.getElem?_cons_succ, Option.some.injEq] at h
    rw [← h]
    exact idx5_1 a0 a1 a2 a3 a4 w
  . simp only [List.getElem?_cons_zero, List.getElem?_cons_succ, Option.some.injEq] at h
    rw [← h]
    exact idx5_2 a0 a1 a2 a3 a4 w
  . simp only [List.getElem?_cons_zero, List.getElem?_cons_succ, Option.some.injEq] at h
    rw [← h]
    exact idx5_3 a0 a1 a2 a3 a4 w
  . simp only [List.getElem?_cons_zero, List.getElem?_cons_succ, Option.some.injEq] at h
    rw [← h]
    exact idx5_4 a0 a1 a2 a3 a4 w
theorem ns_take17 {w : World} {ao : Option Addr} {l : List Int} (h : Ns w ao l) (k : Nat) : Ns w ao (l.take k) := by
  rcases h with h | ⟨g, off, e, h⟩
  . left
    rw [h]
    simp
  . refine .inr ⟨g, off, e, fun j z hj => h j z ?_⟩
    rw [List.getElem?_take] at hj
    split at hj
    . exact hj
    . cases hj
theorem iConj_no (o : COp) (aq : Option Addr) (cq : Nat) (hk : ¬ o.kind = 1) (hl : o.qs.length <= 64) (w : World) (hN : Ns w aq o.qs) : Calls Tryd.prog 27 #[opV o aq cq] w fun e w' => ∃ bo j, e = .returned (.slice bo 1 j) /\ OpsOwn w' w.heap.size bo 1 j [o] /\ Below w.heap.size w w' := by
  have c1 := fun V (h : Below w.heap.size w V) k => iWith o aq cq k aq cq o.qs (by omega) V (hN.below h)
  obtain ⟨kind, gate, qs, bit, cond, whn⟩ := o
  unfold opV at *
  simp only at *
  obtain ⟨m, hm⟩ : ∃ m, qs.length = m := ⟨_, rfl⟩
  have HQ := hide hm
  simp only [hm] at c1 hl ⊢
  have e0 : (kind != 1) = true := by simpa using hk
  have e1 : (kind == 1) = false := by simpa using hk
  clear hm hN hk
  have HB0 : Hid (Below w.heap.size w (w.alloc (.cells #[.int .i64 kind, .int .i64 gate, .slice aq m cq, .int .i64 bit, .int .i64 cond, .int .i64 whn] 41))) := hide (bnew _ _)
  go_enter Tryd.func27, Tryd.ntmps27
  go_wp2_with (first | (go_at_call 46; refine (c1 _ HB0.out _).mono ?_; rintro e w1 ⟨a1, k1, rfl, hR, hb1⟩; have HR := hide hR; have HB1 := hide (HB0.out.trans (hb1.mono HB0.out.size)); clear hR hb1))
  go_ret
  refine ⟨_, _, rfl, ⟨[(⟨kind, gate, qs, bit, cond, whn⟩, .slice a1 m k1)], rfl, rfl, ⟨rfl, .inr ⟨w1.heap.size, 1, _, rfl, HB1.out.size, heap_alloc_new _ _, Nat.le_refl _, by decide, rfl, rfl⟩⟩, ?_, List.pairwise_singleton _ _⟩, HB1.out.trans ((bnew _ _).mono HB1.out.size)⟩
  intro x hx
  rw [List.mem_singleton] at hx
  subst hx
  exact (HR.out.base HB0.out.size).below (bnew _ _)
theorem iConj_yes (o : COp) (aq : Option Addr) (cq : Nat) (x : Nat) (hk : o.kind = 1) (hx : o.gate = (x : Int)) (hx1 : x < 21) (hq : o.qs.length = arN o.gate) (hpos : 0 < o.qs.length) (hl : o.qs.length <= 64) (hc : o.qs.length <= cq) (w : World) (hT : Ti w) (hN : Ns w aq o.qs) : Calls Tryd.prog 27 #[opV o aq cq] w fun e w' => ∃ bo j, e = .returned (.slice bo (cjO o).length j) /\ OpsOwn w' w.heap.size bo (cjO o).length j (cjO o) /\ Below w.heap.size w w' := by
  obtain ⟨kind, gate, qs, bit, cond, whn⟩ := o
  simp only at hk hx hq hl hc hN hpos
  subst hk hx
  obtain ⟨gs, os, rfl, hsc⟩ := hN.resolve_left (fun e => by rw [e] at hpos; simp at hpos)
  have hN : Ns w (some ⟨gs, os, none⟩) qs := .inr ⟨gs, os, rfl, hsc⟩
  have cW := fun V (h : Below w.heap.size w V) k => iWith ⟨1, (x : Int), qs, bit, cond, whn⟩ (some ⟨gs, os, none⟩) cq k (some ⟨gs, os, none⟩) cq (qs.take (arN k)) (by rw [List.length_take]; omega) V (ns_take17 (hN.below h) _)
  have cA := fun V (h : Below w.heap.size w V) k => gArity k V (hT.below h).tb
  obtain ⟨a0, a1, a2, a3, a4, h5⟩ := cj_five ⟨x, hx1⟩
  simp only at h5
  have har := cj_ar ⟨x, hx1⟩
  simp only [h5, Option.getD_some] at har
  have hcell : ∀ V, Below w.heap.size w V -> ∀ j k, [a0, a1, a2, a3, a4][j]? = some k -> V.cell? ⟨0, x * 5 + j, none⟩ = some (.int .i64 k) := fun V hV j k hjk => by
    have hj : j < 5 := (List.getElem?_eq_some_iff.1 hjk).1
    refine (hT.below hV).cj _ _ ?_
    rw [cjV_eq, List.getElem?_map, cj_flat ⟨x, hx1⟩ ⟨j, hj⟩, h5]
    show (([a0, a1, a2, a3, a4] : List Int)[j]?).map _ = _
    rw [hjk]
    rfl
  have hO : cjO ⟨1, (x : Int), qs, bit, cond, whn⟩ = cjF [a0, a1, a2, a3, a4] 1 qs bit cond whn 5 := by
    unfold cjO cjF cjK
    rw [if_pos rfl, Int.toNat_natCast, h5]
    rfl
  rw [hO]
  clear hO
  unfold opV at *
  simp only [List.length_take] at *
  obtain ⟨m, hm⟩ : ∃ m, qs.length = m := ⟨_, rfl⟩
  have HQ := hide hm
  simp only [hm] at cW hl hpos hq hc ⊢
  have HHI := hide (fun i k => idx5 a0 a1 a2 a3 a4 i k)
  have HAR : Hid (∀ (i : Nat) (k : Int), [a0, a1, a2, a3, a4][i]? = some k -> k ≠ 0 -> (rw' k).q = (arN k : Int) /\ 1 <= arN k /\ arN k <= m) := hide (fun i k hik hk => by
    have := har k (List.mem_of_getElem? hik) hk
    rw [hq]
    exact this)
  have b0 := hcell _ (bnew w (.cells #[.int .i64 1, .int .i64 (x : Int), .slice (some ⟨gs, os, none⟩) m cq, .int .i64 bit, .int .i64 cond, .int .i64 whn] 41)) 0 a0 rfl
  have b1 := hcell _ (bnew w (.cells #[.int .i64 1, .int .i64 (x : Int), .slice (some ⟨gs, os, none⟩) m cq, .int .i64 bit, .int .i64 cond, .int .i64 whn] 41)) 1 a1 rfl
  have b2 := hcell _ (bnew w (.cells #[.int .i64 1, .int .i64 (x : Int), .slice (some ⟨gs, os, none⟩) m cq, .int .i64 bit, .int .i64 cond, .int .i64 whn] 41)) 2 a2 rfl
  have b3 := hcell _ (bnew w (.cells #[.int .i64 1, .int .i64 (x : Int), .slice (some ⟨gs, os, none⟩) m cq, .int .i64 bit, .int .i64 cond, .int .i64 whn] 41)) 3 a3 rfl
  have b4 := hcell _ (bnew w (.cells #[.int .i64 1, .int .i64 (x : Int), .slice (some ⟨gs, os, none⟩) m cq, .int .i64 bit, .int .i64 cond, .int .i64 whn] 41)) 4 a4 rfl
  have hxi : (x : Int) < 21 := by omega
  have HCW := hide cW
  have HCA := hide cA
  simp only [Nat.add_zero] at b0
  clear hm hN hT hcell har hsc cW cA h5 hq
  have HB0 : Hid (Below w.heap.size w (w.alloc (.cells #[.int .i64 1, .int .i64 (x : Int), .slice (some ⟨gs, os, none⟩) m cq, .int .i64 bit, .int .i64 cond, .int .i64 whn] 41))) := hide (bnew _ _)
  have HM0 : Hid ((w.alloc (.cells #[.int .i64 1, .int .i64 (x : Int), .slice (some ⟨gs, os, none⟩) m cq, .int .i64 bit, .int .i64 cond, .int .i64 whn] 41)).heap[w.heap.size]? = some (.cells #[.int .i64 1, .int .i64 (x : Int), .slice (some ⟨gs, os, none⟩) m cq, .int .i64 bit, .int .i64 cond, .int .i64 whn] 41)) := hide (heap_alloc_new _ _)
  obtain ⟨r, hr⟩ : ∃ r, [a0, a1, a2, a3, a4] = r := ⟨_, rfl⟩
  have HRR := hide hr
  have HRL : Hid (r.length = 5) := hide (by rw [← hr]; rfl)
  rw [hr] at HAR HHI ⊢
  clear hr
  go_enter Tryd.func27, Tryd.ntmps27
  go_wp2_with fail
  go_loopw [3, 5, 20] (fun v3 _ vi wr => ∃ i : Nat, vi = .int .i64 (i : Int) /\ i <= 5 /\ Below w.heap.size w wr /\ wr.heap[w.heap.size]? = some (.cells #[.int .i64 1, .int .i64 (x : Int), .slice (some ⟨gs, os, none⟩) m cq, .int .i64 bit, .int .i64 cond, .int .i64 whn] 41) /\ ∃ (bo : Option Addr) (m2 j : Nat), v3 = .slice bo m2 j /\ m2 = (cjF r 1 qs bit cond whn i).length /\ OpsOwn wr (w.heap.size + 1) bo m2 j (cjF r 1 qs bit cond whn i)) (fun _ _ vi _ => 5 - (Go.RowKit.intOf vi).toNat)
  case atStart => exact ⟨0, rfl, by omega, HB0.out, HM0.out, none, 0, 0, rfl, by simp [cjF], OpsOwn.nil _ _⟩
  case round =>
    obtain ⟨i, rfl, hi, hb, hm0, bo, m2, j, rfl, hm2, hO⟩ := hrel
    have HBr := hide hb
    have HM := hide hm0
    have HO := hide hO
    have HL2 := hide hm2
    by_cases h : i < 5
    . have hd : decide ((i : Int) < 5) = true := decide_eq_true (by omega)
      have hkk : (i : Int) < 5 := by omega
      obtain ⟨kk, hkx⟩ : ∃ kk, r[i]? = some kk := ⟨_, List.getElem?_eq_getElem (by rw [HRL.out]; exact h)⟩
      have hix := HHI.out i kk hkx
      have HKX := hide hkx
      clear hkx hb hm0 hO hm2 b0 b1 b2 b3 b4
      by_cases h0 : kk = 0
      . subst h0
        go_wp2_with fail
        go_roundw
        case rel => exact ⟨i + 1, by go_num, by omega, HBr.out, HM.out, bo, m2, j, rfl, by rw [cjF_no _ _ _ _ _ _ _ HKX.out]; exact HL2.out, by rw [cjF_no _ _ _ _ _ _ _ HKX.out]; exact HO.out⟩
        case measure => simp [Go.RowKit.intOf]; omega
      . have e0 : (kk != 0) = true := by simpa using h0
        have e1 : (kk == 0) = false := by simpa using h0
        obtain ⟨ha1, ha2, ha3⟩ := HAR.out i kk HKX.out h0
        have hsz2 : m2 <= 5 := by rw [HL2.out]; unfold cjF; rw [List.length_map]; exact Nat.le_trans (List.length_filter_le _ _) (by rw [List.length_take, HRL.out]; omega)
        have HK0 := hide h0
        have HCA' := hide (fun V (h : Below w.heap.size w V) => HCA.out V h kk)
        rw [ha1] at HCA'
        have HCW' := hide (fun V (h : Below w.heap.size w V) => HCW.out V h kk)
        rw [Nat.min_eq_left ha3] at HCW'
        generalize hak : arN kk = ak at *
        have hacq : ak <= cq := by omega
        have HAK := hide hak
        have HNP : Hid (ob bo ≠ some w.heap.size) := hide (fun e => by
          have := HO.out.blt _ e
          omega)
        have hwl : w.heap.size + 1 <= wr.heap.size := (Array.getElem?_eq_some_iff.1 HM.out).1
        clear hak
        clear h0 ha1 HCA HCW HAR HHI
        go_wp2_with fail
        refine wp_region_held_drew (S := (fun V : World => V.heap[w.heap.size]? = some (.cells #[.int .i64 1, .int .i64 (x : Int), .slice (some ⟨gs, os, none⟩) m cq, .int .i64 bit, .int .i64 cond, .int .i64 whn] 41))) (by kernel_rfl) HM.out (fun hHeld => ?_)
        refine take_to (i := 0) (d := 25) (v := ?_) rfl rfl (by kernel_rfl) (by kernel_rfl) (by kernel_rfl) (fun _ _ _ h => h) (Or.inl ⟨by rfl, ?_⟩) (by assumption) ?_
        rotate_left 1
        . intro W hSw
          obtain ⟨s0, s1, s2, s3, s4, s5, s6, s7⟩ := six_cells hSw
          go_simp
          with_reducible rfl
        simp only [Act.put, List.setIfInBounds_toArray, List.set_cons_zero, List.set_cons_succ]
        refine take_to (i := 1) (d := 26) (v := ?_) rfl rfl (by kernel_rfl) (by kernel_rfl) (by kernel_rfl) (fun _ _ _ h => h) (Or.inl ⟨by rfl, ?_⟩) (by assumption) ?_
        rotate_left 1
        . intro W hSw
          obtain ⟨s0, s1, s2, s3, s4, s5, s6, s7⟩ := six_cells hSw
          go_simp
          with_reducible rfl
        simp only [Act.put, List.setIfInBounds_toArray, List.set_cons_zero, List.set_cons_succ]
        refine take_to (i := 2) (d := 27) (v := ?_) rfl rfl (by kernel_rfl) (by kernel_rfl) (by kernel_rfl) (fun _ _ _ h => h) (Or.inl ⟨by rfl, ?_⟩) (by assumption) ?_
        rotate_left 1
        . intro W hSw
          obtain ⟨s0, s1, s2, s3, s4, s5, s6, s7⟩ := six_cells hSw
          go_simp
          with_reducible rfl
        simp only [Act.put, List.setIfInBounds_toArray, List.set_cons_zero, List.set_cons_succ]
        refine take_to (i := 3) (d := 28) (v := ?_) rfl rfl (by kernel_rfl) (by kernel_rfl) (by kernel_rfl) (fun _ _ _ h => h) (Or.inl ⟨by rfl, ?_⟩) (by assumption) ?_
        rotate_left 1
        . intro W hSw
          obtain ⟨s0, s1, s2, s3, s4, s5, s6, s7⟩ := six_cells hSw
          go_simp
          with_reducible rfl
        simp only [Act.put, List.setIfInBounds_toArray, List.set_cons_zero, List.set_cons_succ]
        refine take_to (i := 4) (d := 29) (v := ?_) rfl rfl (by kernel_rfl) (by kernel_rfl) (by kernel_rfl) (fun _ _ _ h => h) (Or.inl ⟨by rfl, ?_⟩) (by assumption) ?_
        rotate_left 1
        . intro W hSw
          obtain ⟨s0, s1, s2, s3, s4, s5, s6, s7⟩ := six_cells hSw
          go_simp
          with_reducible rfl
        simp only [Act.put, List.setIfInBounds_toArray, List.set_cons_zero, List.set_cons_succ]
        refine take_to (i := 5) (d := 30) (v := ?_) rfl rfl (by kernel_rfl) (by kernel_rfl) (by kernel_rfl) (fun _ _ _ h => h) (Or.inl ⟨by rfl, ?_⟩) (by assumption) ?_
        rotate_left 1
        . intro W hSw
          obtain ⟨s0, s1, s2, s3, s4, s5, s6, s7⟩ := six_cells hSw
          go_simp
          with_reducible rfl
        simp only [Act.put, List.setIfInBounds_toArray, List.set_cons_zero, List.set_cons_succ]
        refine wpAnyH_ready (rs := [6]) (by kernel_rfl) (by simp) ?_
        refine AllReadyH.cons (o := { dst := some 31, op := Op.call { callee := Callee.value (Operand.func 47), args := #[Operand.tmp 30], argTypes := #[38] }, type := 3, pos := "table.go:55", after := #[{ on := 5, ground := Ground.data }], guard := none }) rfl (fun K hK => ?_) AllReadyH.nil
        go_simp
        go_at_call 47
        refine Calls.mono (HCA'.out wr.drew HBr.out.drew) ?_
        rintro e w5 ⟨rfl, hb5⟩
        have hS5 : (fun V : World => V.heap[w.heap.size]? = some (.cells #[.int .i64 1, .int .i64 (x : Int), .slice (some ⟨gs, os, none⟩) m cq, .int .i64 bit, .int .i64 cond, .int .i64 whn] 41)) w5 := (hb5.block _ (Array.getElem?_eq_some_iff.1 HM.out).1).trans HM.out
        have hbw5 : Below w.heap.size w w5 := HBr.out.drew.trans (hb5.mono HBr.out.size)
        have hO5 : OpsE w5 (w.heap.size + 1) wr.heap.size bo m2 j (cjF r 1 qs bit cond whn i) := (show OpsOwn wr.drew (w.heap.size + 1) bo m2 j (cjF r 1 qs bit cond whn i) from HO.out).upto.below hb5
        go_wp2_with fail
        refine hK.out _ _ hS5 (fun hHeld => ?_)
        clear hK K
        refine take_to (i := 7) (d := 32) (v := ?_) rfl rfl (by kernel_rfl) (by kernel_rfl) (by kernel_rfl) (fun _ _ _ h => h) (Or.inl ⟨by rfl, ?_⟩) (by assumption) ?_
        rotate_left 1
        . intro W hSw
          obtain ⟨s0, s1, s2, s3, s4, s5, s6, s7⟩ := six_cells hSw
          go_simp
          with_reducible rfl
        simp only [Act.put, List.setIfInBounds_toArray, List.set_cons_zero, List.set_cons_succ]
        refine wpAnyH_ready (rs := [8]) (by kernel_rfl) (by simp) ?_
        refine AllReadyH.cons (o := { dst := some 33, op := Op.call { callee := Callee.value (Operand.func 46), args := #[Operand.tmp 26, Operand.tmp 27, Operand.tmp 32], argTypes := #[41, 38, 39] }, type := 41, pos := "table.go:55", after := #[{ on := 1, ground := Ground.data }, { on := 2, ground := Ground.data }, { on := 7, ground := Ground.data }, { on := 6, ground := Ground.chain }], guard := none }) rfl (fun K hK => ?_) AllReadyH.nil
        go_simp
        go_at_call 46
        refine Calls.mono (HCW'.out w5 hbw5) ?_
        rintro e w6 ⟨a6, k6, rfl, hR6, hb6⟩
        have hS6 : (fun V : World => V.heap[w.heap.size]? = some (.cells #[.int .i64 1, .int .i64 (x : Int), .slice (some ⟨gs, os, none⟩) m cq, .int .i64 bit, .int .i64 cond, .int .i64 whn] 41)) w6 := (hb6.block _ (Array.getElem?_eq_some_iff.1 hS5).1).trans hS5
        have hbw6 : Below w.heap.size w w6 := hbw5.trans (hb6.mono hbw5.size)
        have hO6 := hO5.below hb6
        go_wp2_with fail
        refine hK.out _ _ hS6 (fun hHeld => ?_)
        clear hK K
        refine wpAnyH_ready (rs := [9]) (by kernel_rfl) (by simp) ?_
        refine AllReadyH.cons (o := { dst := some 34, op := Op.buildSlice 22 1 #[(0, Operand.tmp 33)], type := 22, pos := "table.go:55", after := #[{ on := 8, ground := Ground.data }], guard := none }) rfl (fun K hK => ?_) AllReadyH.nil
        go_simp
        have hba : Below w6.heap.size w6 (w6.alloc (.cells (opC ((⟨1, kk, qs.take ak, bit, cond, whn⟩ : COp), .slice a6 ak k6)).toArray 41)) := bnew _ _
        have hH : (w6.alloc (.cells (opC ((⟨1, kk, qs.take ak, bit, cond, whn⟩ : COp), .slice a6 ak k6)).toArray 41)).heap[w6.heap.size]? = some (.cells (opC ((⟨1, kk, qs.take ak, bit, cond, whn⟩ : COp), .slice a6 ak k6)).toArray 41 (0, 0)) := heap_alloc_new _ _
        have hS7 : (fun V : World => V.heap[w.heap.size]? = some (.cells #[.int .i64 1, .int .i64 (x : Int), .slice (some ⟨gs, os, none⟩) m cq, .int .i64 bit, .int .i64 cond, .int .i64 whn] 41)) (w6.alloc (.cells (opC ((⟨1, kk, qs.take ak, bit, cond, whn⟩ : COp), .slice a6 ak k6)).toArray 41)) := (hba.block _ (Array.getElem?_eq_some_iff.1 hS6).1).trans hS6
        refine hK.out _ _ hS7 (fun hHeld => ?_)
        clear hK K
        try simp only [Act.put, List.setIfInBounds_toArray, List.set_cons_zero, List.set_cons_succ]
        refine wpAnyH_ready (rs := [10]) (by kernel_rfl) (by simp) ?_
        refine AllReadyH.cons (o := { dst := some 35, op := Op.call { callee := Callee.builtin Builtin.append, args := #[Operand.tmp 25, Operand.tmp 34], argTypes := #[22, 22] }, type := 22, pos := "table.go:55", after := #[{ on := 0, ground := Ground.data }, { on := 9, ground := Ground.data }, { on := 8, ground := Ground.chain }], guard := none }) rfl (fun K hK => ?_) AllReadyH.nil
        refine step_push17 rfl (.tmp 25) (.tmp 34) rfl (hO6.below hba) hwl (by have z5 := hb5.size; have z6 := hb6.size; have h2 : wr.drew.heap.size = wr.heap.size := rfl; simp only [World.size_alloc]; omega) ⟨1, kk, qs.take ak, bit, cond, whn⟩ (.slice a6 ak k6) ((hR6.base (show wr.heap.size <= w5.heap.size from hb5.size)).below hba) w6.heap.size hH (by omega) (by rfl) (by rfl) ?_
        intro g8 c8 w8 hO8 hg8
        have hOb := (hO6.below hba).own
        have hb8 : Below w.heap.size w w8 := (hbw6.trans (hba.mono hbw6.size)).grown hg8 (hbw6.trans (hba.mono hbw6.size)).size (fun q hq => by have := hOb.blt q hq; omega)
        have hS8 : (fun V : World => V.heap[w.heap.size]? = some (.cells #[.int .i64 1, .int .i64 (x : Int), .slice (some ⟨gs, os, none⟩) m cq, .int .i64 bit, .int .i64 cond, .int .i64 whn] 41)) w8 := (hg8.block _ (Array.getElem?_eq_some_iff.1 hS7).1 HNP.out.symm).trans hS7
        refine hK.out _ _ hS8 (fun hHeld => ?_)
        clear hK K
        try simp only [Act.put, List.setIfInBounds_toArray, List.set_cons_zero, List.set_cons_succ]
        refine take_to (i := 11) (d := 3) (v := ?_) rfl rfl (by kernel_rfl) (by kernel_rfl) (by kernel_rfl) (fun _ _ _ h => h) (Or.inl ⟨by rfl, ?_⟩) (by assumption) ?_
        rotate_left 1
        . intro W hSw
          obtain ⟨s0, s1, s2, s3, s4, s5, s6, s7⟩ := six_cells hSw
          go_simp
          with_reducible rfl
        simp only [Act.put, List.setIfInBounds_toArray, List.set_cons_zero, List.set_cons_succ]
        refine wpAnyH_done (by kernel_rfl) ?_ _
        have HB8 := hide hb8
        have HS8 := hide hS8
        have HO8 := hide hO8
        clear hS5 hS6 hS7 hS8 hO5 hO6 hO8 hb5 hb6 hb8 hba hH hOb hg8 hR6 hbw5 hbw6 hHeld
        go_wp2_with fail
        go_roundw
        case rel => exact ⟨i + 1, by go_num, by omega, HB8.out, HS8.out, _, _, _, rfl, by rw [cjF_yes _ _ _ _ _ _ _ _ HKX.out HK0.out, List.length_append, ← HL2.out]; rfl, by rw [cjF_yes _ _ _ _ _ _ _ _ HKX.out HK0.out, HAK.out]; exact HO8.out⟩
        case measure => simp [Go.RowKit.intOf]; omega
    . obtain rfl : i = 5 := by omega
      have hd : decide ((5 : Int) < 5) = false := by decide
      clear hb hm0 hO hm2 b0 b1 b2 b3 b4
      go_wp2_with fail
      go_ret
      rw [← HL2.out]
      exact ⟨_, _, rfl, HO.out.base (by omega), HBr.out⟩
end Go.Proofs.YtmkalhaegbnknaaDoor.Cir
