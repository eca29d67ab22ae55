import Derived.Test.YthndpbjplcphpaaDoorQd04e2a10
set_option maxRecDepth 100000
set_option maxHeartbeats 8000000
namespace Go.Proofs.YthndpbjplcphpaaDoor.Lay
open Go.RowKit Go.Shelf Go.Proofs.YthndpbjplcphpaaDoor.Oct Go.Proofs.YthndpbjplcphpaaDoor.Tok Go.Proofs.YthndpbjplcphpaaDoor.Gt Go.Proofs.YthndpbjplcphpaaDoor.Cir
theorem own_nsl {w : World} {B c n : Nat} {ao : Option Addr} {l : List Int} (h : w.ownsRow B 3 1 (.slice ao n c) n (l.map (Value.int .i64))) : Ns w ao l := by
  have hl : n = l.length := by have := h.1; simp at this; omega
  subst hl
  have hR : RowO w B (.slice ao l.length c) l := ⟨_, _, rfl, h⟩
  obtain ⟨aq, cq, e, hle, hn⟩ := hR.isI.ns
  simp only [Value.slice.injEq] at e
  obtain ⟨rfl, -, rfl⟩ := e
  exact hn
theorem run_load_op {a : Act} {o : Oper} {w : World} {g off : Nat} {c : COp} {aq : Option Addr} {cq : Nat} {x : Operand} (h : Oc w g off c aq cq) (ho : o.op = .load 57 x := by rfl) (hx : a.eval x = .pointer (some ⟨g, off, none⟩) := by rfl) : (execOp a.eval o).run Tryd.prog w = .ok (.value (opV c aq cq)) w := by
  unfold execOp
  simp only [ho, hx, Instr.loadAt, Instr.sureAddr, Sem.run_bind, Sem.run_pure, Result.andThen_ok, run_loadVar_at w g off 57 _ _ (oc_cells6 h) Tryd.underlying57 rfl (by exact infoO6)]
  rfl
theorem dTouch (c : Circ) (ao : Option Addr) (k : Nat) (i j : Nat) (hi : i < c.ops.length) (hj : j < c.ops.length) (hW : ∀ o ∈ c.ops, Wk o /\ 0 < o.qs.length) (w : World) (hC : Ci w c ao k) : Calls Tryd.prog 31 #[cV c ao k, .int .i64 (i : Int), .int .i64 (j : Int)] w fun e w' => e = .returned (.bool (tc (oa c.ops i) (oa c.ops j))) /\ Below w.heap.size w w' := by
  obtain ⟨g, off, aq1, cq1, rfl, hgl, hoc1⟩ := hC.ops.at (oa_some hi)
  obtain ⟨g2, off2, aq2, cq2, e2, -, hoc2⟩ := hC.ops.at (oa_some hj)
  simp only [Option.some.injEq, Addr.mk.injEq] at e2
  obtain ⟨rfl, rfl, -⟩ := e2
  have hln := hC.len
  obtain ⟨hw1, hp1⟩ := hW _ (List.mem_of_getElem? (oa_some hi))
  obtain ⟨hw2, hp2⟩ := hW _ (List.mem_of_getElem? (oa_some hj))
  have HMT := hide (mt_wd hw1 hw2)
  have hlen1 : (wd (oa c.ops i)).length <= 1000000000000000 := by rw [wd_eq hw1, List.length_map]; have := wr_len hw1; omega
  have hlen2 : (wd (oa c.ops j)).length <= 1000000000000000 := by rw [wd_eq hw2, List.length_map]; have := wr_len hw2; omega
  obtain ⟨q, b, ops⟩ := c
  unfold cV
  simp only at *
  have hb1 := bnew w (.cells #[.int .i64 q, .int .i64 b, .slice (some ⟨g, off, none⟩) ops.length k] 24)
  have hm1 := heap_alloc_new w (.cells #[.int .i64 q, .int .i64 b, .slice (some ⟨g, off, none⟩) ops.length k] 24)
  generalize ops.length = n at *
  have hin : (i : Int) < (n : Int) := by omega
  have hjn : (j : Int) < (n : Int) := by omega
  clear hC hW
  go_enter Tryd.func31, Tryd.ntmps31
  go_upto_region 1 with fail
  refine wp_region_held_drew (S := (fun V : World => Below w.heap.size w V /\ V.heap[w.heap.size]? = some (.cells #[.int .i64 q, .int .i64 b, .slice (some ⟨g, off, none⟩) n k] 24 (0, 0)))) (by kernel_rfl) ⟨hb1.drew, hm1⟩ (fun hHeld => ?_)
  clear hb1 hm1
  refine take_to (i := 0) (d := 7) (v := ?_) rfl rfl (by kernel_rfl) (by kernel_rfl) (by kernel_rfl) (fun _ _ _ h => h) (Or.inl ⟨by rfl, ?_⟩) (by assumption) ?_
  rotate_left 1
  . intro W hSw
    obtain ⟨hc0, hc1⟩ := hSw
    obtain ⟨s0, s1, s2, s3⟩ := def_cells hc1
    go_simp
    with_reducible rfl
  simp only [Act.put, List.setIfInBounds_toArray, List.set_cons_zero, List.set_cons_succ]
  refine take_to (i := 1) (d := 8) (v := ?_) rfl rfl (by kernel_rfl) (by kernel_rfl) (by kernel_rfl) (fun _ _ _ h => h) (Or.inl ⟨by rfl, ?_⟩) (by assumption) ?_
  rotate_left 1
  . intro W hSw
    obtain ⟨hc0, hc1⟩ := hSw
    obtain ⟨s0, s1, s2, s3⟩ := def_cells hc1
    go_simp
    with_reducible rfl
  simp only [Act.put, List.setIfInBounds_toArray, List.set_cons_zero, List.set_cons_succ]
  refine take_to (i := 2) (d := 9) (v := ?_) rfl rfl (by kernel_rfl) (by kernel_rfl) (by kernel_rfl) (fun _ _ _ h => h) (Or.inl ⟨by rfl, ?_⟩) (by assumption) ?_
  rotate_left 1
  . intro W hSw
    obtain ⟨hc0, hc1⟩ := hSw
    obtain ⟨s0, s1, s2, s3⟩ := def_cells hc1
    go_simp
    with_reducible rfl
  simp only [Act.put, List.setIfInBounds_toArray, List.set_cons_zero, List.set_cons_succ]
  refine take_to (i := 3) (d := 10) (v := ?_) rfl rfl (by kernel_rfl) (by kernel_rfl) (by kernel_rfl) (fun _ _ _ h => h) (Or.inl ⟨by rfl, ?_⟩) (by assumption) ?_
  rotate_left 1
  . intro W hSw
    obtain ⟨hc0, hc1⟩ := hSw
    obtain ⟨s0, s1, s2, s3⟩ := def_cells hc1
    go_simp
    with_reducible rfl
  simp only [Act.put, List.setIfInBounds_toArray, List.set_cons_zero, List.set_cons_succ]
  refine take_to (i := 4) (d := 11) (v := opV (oa ops i) aq1 cq1) rfl rfl (by kernel_rfl) (by kernel_rfl) (by kernel_rfl) (fun _ _ _ h => h) (Or.inl ⟨by rfl, ?_⟩) (by assumption) ?_
  . intro W hSw
    exact run_load_op (hoc1.below hSw.1)
  simp only [Act.put, List.setIfInBounds_toArray, List.set_cons_zero, List.set_cons_succ]
  refine take_to (i := 6) (d := 13) (v := ?_) rfl rfl (by kernel_rfl) (by kernel_rfl) (by kernel_rfl) (fun _ _ _ h => h) (Or.inl ⟨by rfl, ?_⟩) (by assumption) ?_
  rotate_left 1
  . intro W hSw
    obtain ⟨hc0, hc1⟩ := hSw
    obtain ⟨s0, s1, s2, s3⟩ := def_cells hc1
    go_simp
    with_reducible rfl
  simp only [Act.put, List.setIfInBounds_toArray, List.set_cons_zero, List.set_cons_succ]
  refine take_to (i := 7) (d := 14) (v := ?_) rfl rfl (by kernel_rfl) (by kernel_rfl) (by kernel_rfl) (fun _ _ _ h => h) (Or.inl ⟨by rfl, ?_⟩) (by assumption) ?_
  rotate_left 1
  . intro W hSw
    obtain ⟨hc0, hc1⟩ := hSw
    obtain ⟨s0, s1, s2, s3⟩ := def_cells hc1
    go_simp
    with_reducible rfl
  simp only [Act.put, List.setIfInBounds_toArray, List.set_cons_zero, List.set_cons_succ]
  refine take_to (i := 8) (d := 15) (v := ?_) rfl rfl (by kernel_rfl) (by kernel_rfl) (by kernel_rfl) (fun _ _ _ h => h) (Or.inl ⟨by rfl, ?_⟩) (by assumption) ?_
  rotate_left 1
  . intro W hSw
    obtain ⟨hc0, hc1⟩ := hSw
    obtain ⟨s0, s1, s2, s3⟩ := def_cells hc1
    go_simp
    with_reducible rfl
  simp only [Act.put, List.setIfInBounds_toArray, List.set_cons_zero, List.set_cons_succ]
  refine take_to (i := 9) (d := 16) (v := ?_) rfl rfl (by kernel_rfl) (by kernel_rfl) (by kernel_rfl) (fun _ _ _ h => h) (Or.inl ⟨by rfl, ?_⟩) (by assumption) ?_
  rotate_left 1
  . intro W hSw
    obtain ⟨hc0, hc1⟩ := hSw
    obtain ⟨s0, s1, s2, s3⟩ := def_cells hc1
    go_simp
    with_reducible rfl
  simp only [Act.put, List.setIfInBounds_toArray, List.set_cons_zero, List.set_cons_succ]
  refine take_to (i := 10) (d := 17) (v := opV (oa ops j) aq2 cq2) rfl rfl (by kernel_rfl) (by kernel_rfl) (by kernel_rfl) (fun _ _ _ h => h) (Or.inl ⟨by rfl, ?_⟩) (by assumption) ?_
  . intro W hSw
    exact run_load_op (hoc2.below hSw.1)
  simp only [Act.put, List.setIfInBounds_toArray, List.set_cons_zero, List.set_cons_succ]
  refine wpAnyH_ready (rs := [5]) (by kernel_rfl) (by simp) ?_
  refine AllReadyH.cons (o := { dst := some 12, op := Op.call { callee := Callee.value (Operand.func 53), args := #[Operand.tmp 11], argTypes := #[57] }, type := 25, pos := "ref.go:42", after := #[{ on := 4, ground := Ground.data }], guard := none }) rfl (fun K hK => ?_) AllReadyH.nil
  go_simp
  go_at_call 53
  refine (dWires (oa ops i) aq1 cq1 hw1 hp1 _ (hoc1.ns.below hHeld.1)).mono ?_
  rintro e w1 ⟨a1, c1, rfl, hO1, hb⟩
  have hOw := hide hO1
  go_wp2_with fail
  refine hK.out _ _ (show (fun V : World => Below w.heap.size w V /\ V.heap[w.heap.size]? = some (.cells #[.int .i64 q, .int .i64 b, .slice (some ⟨g, off, none⟩) n k] 24 (0, 0))) _ from ⟨Below.trans hHeld.1 (hb.mono hHeld.1.size), (hb.block _ (Array.getElem?_eq_some_iff.1 hHeld.2).1).trans hHeld.2⟩) (fun hHeld => ?_)
  clear hK K hb
  try simp only [Act.put, List.setIfInBounds_toArray, List.set_cons_zero, List.set_cons_succ]
  refine wpAnyH_ready (rs := [11]) (by kernel_rfl) (by simp) ?_
  refine AllReadyH.cons (o := { dst := some 18, op := Op.call { callee := Callee.value (Operand.func 53), args := #[Operand.tmp 17], argTypes := #[57] }, type := 25, pos := "ref.go:42", after := #[{ on := 10, ground := Ground.data }, { on := 5, ground := Ground.chain }], guard := none }) rfl (fun K hK => ?_) AllReadyH.nil
  go_simp
  go_at_call 53
  refine (dWires (oa ops j) aq2 cq2 hw2 hp2 _ (hoc2.ns.below hHeld.1)).mono ?_
  rintro e w2 ⟨a2, c2, rfl, hO2, hb⟩
  have HN1 := hide ((own_nsl hOw.out).below hb)
  have HN2 := hide (own_nsl hO2)
  clear hO2
  go_wp2_with fail
  refine hK.out _ _ (show (fun V : World => Below w.heap.size w V /\ V.heap[w.heap.size]? = some (.cells #[.int .i64 q, .int .i64 b, .slice (some ⟨g, off, none⟩) n k] 24 (0, 0))) _ from ⟨Below.trans hHeld.1 (hb.mono hHeld.1.size), (hb.block _ (Array.getElem?_eq_some_iff.1 hHeld.2).1).trans hHeld.2⟩) (fun hHeld => ?_)
  clear hK K hb
  try simp only [Act.put, List.setIfInBounds_toArray, List.set_cons_zero, List.set_cons_succ]
  refine wpAnyH_ready (rs := [12]) (by kernel_rfl) (by simp) ?_
  refine AllReadyH.cons (o := { dst := some 19, op := Op.call { callee := Callee.value (Operand.func 52), args := #[Operand.tmp 12, Operand.tmp 18], argTypes := #[25, 25] }, type := 4, pos := "ref.go:42", after := #[{ on := 5, ground := Ground.data }, { on := 11, ground := Ground.data }, { on := 11, ground := Ground.chain }], guard := none }) rfl (fun K hK => ?_) AllReadyH.nil
  go_simp
  go_at_call 52
  refine (dMeet _ _ a1 a2 c1 c2 hlen1 hlen2 _ HN1.out HN2.out).mono ?_
  rintro e w3 ⟨rfl, hb⟩
  have hB3 := Below.trans hHeld.1 (hb.mono hHeld.1.size)
  go_wp2_with fail
  refine hK.out _ _ (show (fun V : World => Below w.heap.size w V /\ V.heap[w.heap.size]? = some (.cells #[.int .i64 q, .int .i64 b, .slice (some ⟨g, off, none⟩) n k] 24 (0, 0))) _ from ⟨Below.trans hHeld.1 (hb.mono hHeld.1.size), (hb.block _ (Array.getElem?_eq_some_iff.1 hHeld.2).1).trans hHeld.2⟩) (fun hHeld => ?_)
  clear hK K hb
  try simp only [Act.put, List.setIfInBounds_toArray, List.set_cons_zero, List.set_cons_succ]
  refine take_to (i := 13) (d := 6) (v := ?_) rfl rfl (by kernel_rfl) (by kernel_rfl) (by kernel_rfl) (fun _ _ _ h => h) (Or.inl ⟨by rfl, ?_⟩) (by assumption) ?_
  rotate_left 1
  . intro W hSw
    skip
    go_simp
    with_reducible rfl
  simp only [Act.put, List.setIfInBounds_toArray, List.set_cons_zero, List.set_cons_succ]
  refine wpAnyH_done (by kernel_rfl) ?_ _
  go_wp2_with fail
  go_ret
  rw [← HMT.out]
  exact ⟨rfl, hB3⟩
theorem dQubits (l : List Int) (al : Option Addr) (cl : Nat) (q : Int) (hl : l.length <= 1000000000000000) (w : World) (hN : Ns w al l) : Calls Tryd.prog 56 #[.slice al l.length cl, .int .i64 q] w fun e w' => e = .returned (.bool (apaP l q)) /\ Below w.heap.size w w' := by
  have HA := hide hN
  obtain ⟨n, hn⟩ : ∃ n, l.length = n := ⟨_, rfl⟩
  have HN := hide hn
  rw [hn] at hl ⊢
  clear hn hN
  go_enter Tryd.func56, Tryd.ntmps56
  go_wp2_with fail
  go_loopw [4, 5, 6] (fun _ vi _ wr => ∃ i : Nat, i <= n /\ vi = .int .i64 (i : Int) /\ Hid (apaN l q i) /\ Hid (Below w.heap.size w wr)) (fun _ vi _ _ => n - (intOf vi).toNat)
  case atStart => exact ⟨0, Nat.zero_le _, rfl, hide (fun j x hj => by omega), hide (Below.refl _ _)⟩
  case round =>
    obtain ⟨i, hi, rfl, HF, HBW⟩ := hrel
    by_cases h : i < n
    . have hd : decide ((i : Int) < (n : Int)) = true := decide_eq_true (by omega)
      have hkk : (i : Int) < (n : Int) := by omega
      obtain ⟨z, hz⟩ : ∃ z, l[i]? = some z := ⟨_, List.getElem?_eq_getElem (by rw [HN.out]; exact h)⟩
      have HZ := hide hz
      obtain ⟨g1, off1, rfl, hc⟩ := ns_cell (HA.out.below HBW.out) hz
      have hlc := World.block_lt_of_cell? _ _ hc
      clear hz
      by_cases hz0 : z < 0
      . have HE : Hid (apaP l q = false) := hide (apaN_not HZ.out (.inl (by unfold wiP; simp; omega)))
        have hdz : decide (z < 0) = true := decide_eq_true hz0
        clear hz0
        go_wp2_with fail
        go_ret
        rw [HE.out]
        exact ⟨rfl, HBW.out⟩
      . by_cases hz1 : q <= z
        . have HE : Hid (apaP l q = false) := hide (apaN_not HZ.out (.inl (by unfold wiP; simp; omega)))
          have hdz : decide (z < 0) = false := decide_eq_false hz0
          have hdq : decide (z ≥ q) = true := decide_eq_true hz1
          have hdq' : decide (q <= z) = true := decide_eq_true hz1
          clear hz0
          go_wp2_with fail
          go_ret
          rw [HE.out]
          exact ⟨rfl, HBW.out⟩
        . have hdz : decide (z < 0) = false := decide_eq_false hz0
          have hdq : decide (z ≥ q) = false := decide_eq_false hz1
          have hdq' : decide (q <= z) = false := decide_eq_false hz1
          have HWI : Hid (wiP z q = true) := hide (by unfold wiP; simp; omega)
          clear hz0 hz1
          go_wp2_with fail
          go_loopw [4, 6] (fun _ vj wx => ∃ j : Nat, j <= i /\ vj = .int .i64 (j : Int) /\ Hid (z ∉ l.take j) /\ Hid (Below w.heap.size w wx)) (fun _ vj _ => i - (intOf vj).toNat)
          case atStart => exact ⟨0, Nat.zero_le _, rfl, hide (by simp), HBW⟩
          case round =>
            clear HBW hc hlc
            obtain ⟨j, hj, rfl, HNZ, HBW⟩ := hrel
            by_cases h2 : j < i
            . have hd2 : decide ((j : Int) < (i : Int)) = true := decide_eq_true (by omega)
              have hkk2 : (j : Int) < (i : Int) := by omega
              have hkk3 : (j : Int) < (n : Int) := by omega
              obtain ⟨y, hy⟩ : ∃ y, l[j]? = some y := ⟨_, List.getElem?_eq_getElem (by rw [HN.out]; omega)⟩
              have HY := hide hy
              obtain ⟨g2, off2, e1, hc1⟩ := ns_cell (HA.out.below HBW.out) HZ.out
              simp only [Option.some.injEq, Addr.mk.injEq] at e1
              obtain ⟨rfl, rfl, -⟩ := e1
              obtain ⟨g3, off3, e3, hc3⟩ := ns_cell (HA.out.below HBW.out) hy
              simp only [Option.some.injEq, Addr.mk.injEq] at e3
              obtain ⟨rfl, rfl, -⟩ := e3
              have hl1 := World.block_lt_of_cell? _ _ hc1
              clear hy
              by_cases hzy : y = z
              . subst hzy
                have HE : Hid (apaP l q = false) := hide (apaN_not HZ.out (.inr (List.mem_take_iff_getElem.2 ⟨j, by have := HN.out; omega, (List.getElem?_eq_some_iff.1 HY.out).2⟩)))
                go_wp2_with fail
                go_region
                all_goals go_wp2_with fail
                all_goals go_ret
                all_goals (rw [HE.out]; exact ⟨rfl, HBW.out.drew⟩)
              . have hne : (y == z) = false := by simpa using hzy
                have HNZ2 : Hid (z ∉ l.take (j + 1)) := hide (by
                  rw [List.take_add_one, HY.out]
                  simp only [Option.toList_some, List.mem_append, List.mem_singleton, not_or]
                  exact ⟨HNZ.out, fun e => hzy e.symm⟩)
                clear hzy
                go_wp2_with fail
                go_region
                all_goals go_wp2_with fail
                all_goals exact ⟨⟨j + 1, by omega, by go_num, HNZ2, hide HBW.out.drew⟩, by simp [intOf]; omega⟩
            . obtain rfl : i = j := by omega
              have hd2 : decide ((i : Int) < (i : Int)) = false := decide_eq_false (by omega)
              have HF2 : Hid (apaN l q (i + 1)) := hide (apaN_succ HF.out HZ.out HWI.out HNZ.out)
              go_wp2_with fail
              exact ⟨⟨i + 1, by omega, by go_num, HF2, HBW⟩, by simp [intOf]; omega⟩
    . obtain rfl : n = i := by omega
      have hd : decide ((n : Int) < (n : Int)) = false := decide_eq_false (by omega)
      have HT : Hid (apaP l q = true) := hide (by have := HF.out; rw [← HN.out, apaN_all] at this; exact this)
      go_wp2_with fail
      go_ret
      rw [HT.out]
      exact ⟨rfl, HBW.out⟩
theorem infoC3 : (Tryd.prog.info? 24).map (·.size) = some 3 := by kernel_rfl
theorem own6_in {w : World} {B : Nat} {ao : Option Addr} {n c : Nat} {xs : List (COp × Value)} (h1 : n = xs.length) (h3 : w.ownsRow B 57 6 (.slice ao n c) n (xs.flatMap opC)) (h4 : ∀ x ∈ xs, ∃ aq cq, x.2 = .slice aq x.1.qs.length cq /\ x.1.qs.length <= cq /\ Ns w aq x.1.qs) : OpsIn w ao (xs.map (·.1)) /\ xs.length <= c := by
  rcases h3.2 with ⟨hv, h0⟩ | ⟨g, cap, cur, hv, hbg, hg, e1, e2, e3, e4⟩
  . have hx : xs = [] := List.length_eq_zero_iff.1 (by rw [← h1]; exact h0)
    subst hx
    exact ⟨.inl rfl, Nat.zero_le _⟩
  . simp only [Value.slice.injEq] at hv
    obtain ⟨rfl, -, rfl⟩ := hv
    refine ⟨.inr ⟨g, 0, rfl, fun i o hi => ?_⟩, by omega⟩
    rw [List.getElem?_map] at hi
    cases hx : xs[i]? with
    | none => rw [hx] at hi; cases hi
    | some x =>
      rw [hx] at hi
      simp at hi
      subst hi
      obtain ⟨aq, cq, hv, hr, hn⟩ := h4 x (List.mem_of_getElem? hx)
      have key : ∀ j u, (opC x)[j]? = some u -> w.cell? ⟨g, 0 + i * 6 + j, none⟩ = some u := fun j u hu => by
        have h5 := opC_at xs i x hx j u hu
        rw [← e4, List.getElem?_take] at h5
        split at h5
        . rw [Nat.zero_add]
          exact (cell_of_row _ _ _ _ _ _ hg).trans (by simpa using h5)
        . cases h5
      exact ⟨aq, cq, key 0 _ rfl, key 1 _ rfl, (key 2 x.2 rfl).trans (by rw [hv]), key 3 _ rfl, key 4 _ rfl, key 5 _ rfl, hr, hn⟩
theorem lPicked (c : Circ) (ao : Option Addr) (k : Nat) (hS : ∀ o ∈ c.ops, o.qs.length <= 64) (L : List Int) (al : Option Addr) (cl : Nat) (hLr : ∀ z ∈ L, 0 <= z /\ z < (c.ops.length : Int)) (hLl : L.length <= 4096) (w : World) (hC : Ci w c ao k) (hN : Ns w al L) : Calls Tryd.prog 43 #[cV c ao k, .slice al L.length cl] w fun e w' => ∃ bo j, e = .returned (cV ⟨c.q, c.b, L.map fun z => oa c.ops z.toNat⟩ bo j) /\ OpsOwn w' w.heap.size bo L.length j (L.map fun z => oa c.ops z.toNat) /\ Below w.heap.size w w' := by
  have HO := hide hC.ops
  have hln := hC.len
  have HS := hide hS
  have HNL := hide hN
  have HLr := hide hLr
  clear hC hS hN hLr
  obtain ⟨q, b, ops⟩ := c
  have HCC : Hid (∀ (xs : List COp) (a2 : Option Addr) (k2 : Nat) (V : World), xs.length <= 4096 -> (∀ o ∈ xs, o.qs.length <= 64) -> OpsIn V a2 xs -> xs.length <= k2 -> Calls Tryd.prog 60 #[.agg #[.int .i64 q, .int .i64 b, .slice a2 xs.length k2]] V fun e w' => ∃ bo j, e = .returned (cV ⟨q, b, xs⟩ bo j) /\ OpsOwn w' V.heap.size bo xs.length j xs /\ Below V.heap.size V w') := hide (fun xs a2 k2 V h1 h2 h3 h4 => cCopyO ⟨q, b, xs⟩ a2 k2 ⟨by show xs.length <= _; omega, fun o ho => by have := h2 o ho; omega⟩ V ⟨h3, h4, by show xs.length <= _; omega, fun o ho => by have := h2 o ho; omega⟩)
  unfold cV at *
  simp only at *
  obtain ⟨n, hn⟩ : ∃ n, ops.length = n := ⟨_, rfl⟩
  have HNN := hide hn
  rw [hn] at hln HLr ⊢
  obtain ⟨N, hNN⟩ : ∃ N, L.length = N := ⟨_, rfl⟩
  have HLL := hide hNN
  rw [hNN] at hLl ⊢
  clear hn hNN
  go_enter Tryd.func43, Tryd.ntmps43
  go_upto_region 3 with fail
  obtain ⟨b1, hb1⟩ : ∃ b1, b1 = w.heap.size := ⟨_, rfl⟩
  obtain ⟨b2, hb2⟩ : ∃ b2, b2 = w.heap.size + 1 := ⟨_, rfl⟩
  obtain ⟨b3, hb3⟩ : ∃ b3, b3 = w.heap.size + 1 + 1 := ⟨_, rfl⟩
  have hB0 : Below w.heap.size w (((w.alloc (.cells #[.int .i64 q, .int .i64 b, .slice ao n k] 24)).alloc (.cells #[.int .i64 0, .int .i64 0, .slice none 0 0] 24)).alloc (.cells #[.int .i64 q, .int .i64 b, .slice none 0 0] 24)) := ((bnew _ _).trans ((bnew _ _).mono (by simp))).trans ((bnew _ _).mono (by simp; omega))
  have hm0 : (((w.alloc (.cells #[.int .i64 q, .int .i64 b, .slice ao n k] 24)).alloc (.cells #[.int .i64 0, .int .i64 0, .slice none 0 0] 24)).alloc (.cells #[.int .i64 q, .int .i64 b, .slice none 0 0] 24)).heap[b1]? = some (.cells #[.int .i64 q, .int .i64 b, .slice ao n k] 24 (0, 0)) := by rw [hb1]; exact (Below.heap_alloc _ _ _ (by simp; omega)).trans ((Below.heap_alloc _ _ _ (by simp)).trans (heap_alloc_new _ _))
  have hz0 : (((w.alloc (.cells #[.int .i64 q, .int .i64 b, .slice ao n k] 24)).alloc (.cells #[.int .i64 0, .int .i64 0, .slice none 0 0] 24)).alloc (.cells #[.int .i64 q, .int .i64 b, .slice none 0 0] 24)).heap[b2]? = some (.cells #[.int .i64 0, .int .i64 0, .slice none 0 0] 24 (0, 0)) := by
    rw [hb2]
    refine (Below.heap_alloc _ _ _ (by simp)).trans ?_
    have := heap_alloc_new (w.alloc (.cells #[.int .i64 q, .int .i64 b, .slice ao n k] 24)) (.cells #[.int .i64 0, .int .i64 0, .slice none 0 0] 24)
    rw [World.size_alloc] at this
    exact this
  have hd0 : (((w.alloc (.cells #[.int .i64 q, .int .i64 b, .slice ao n k] 24)).alloc (.cells #[.int .i64 0, .int .i64 0, .slice none 0 0] 24)).alloc (.cells #[.int .i64 q, .int .i64 b, .slice none 0 0] 24)).heap[b3]? = some (.cells #[.int .i64 q, .int .i64 b, .slice none 0 0] 24 (0, 0)) := by
    rw [hb3]
    have := heap_alloc_new ((w.alloc (.cells #[.int .i64 q, .int .i64 b, .slice ao n k] 24)).alloc (.cells #[.int .i64 0, .int .i64 0, .slice none 0 0] 24)) (.cells #[.int .i64 q, .int .i64 b, .slice none 0 0] 24)
    rw [World.size_alloc, World.size_alloc] at this
    exact this
  rw [← hb3, ← hb2, ← hb1]
  have hbs : b1 < b2 /\ b2 < b3 /\ w.heap.size <= b1 := ⟨by omega, by omega, by omega⟩
  clear hb1 hb2 hb3
  generalize (((w.alloc (.cells #[.int .i64 q, .int .i64 b, .slice ao n k] 24)).alloc (.cells #[.int .i64 0, .int .i64 0, .slice none 0 0] 24)).alloc (.cells #[.int .i64 q, .int .i64 b, .slice none 0 0] 24)) = W1 at *
  go_loopw [7, 15] (fun _ vi wr => ∃ (i : Nat) (ao' : Option Addr) (c' : Nat), i <= N /\ vi = .int .i64 (i : Int) /\ ∃ xs : List (COp × Value), Hid (xs.map (·.1) = (L.take i).map fun z => oa ops z.toNat) /\ Hid (∀ x ∈ xs, ∃ aq cq, x.2 = .slice aq x.1.qs.length cq /\ x.1.qs.length <= cq /\ Ns w aq x.1.qs) /\ Hid (wr.ownsRow w.heap.size 57 6 (.slice ao' i c') i (xs.flatMap opC)) /\ Hid (wr.heap[b3]? = some (.cells #[.int .i64 q, .int .i64 b, .slice ao' i c'] 24 (0, 0))) /\ Hid (wr.heap[b1]? = some (.cells #[.int .i64 q, .int .i64 b, .slice ao n k] 24 (0, 0))) /\ Hid (wr.heap[b2]? = some (.cells #[.int .i64 0, .int .i64 0, .slice none 0 0] 24 (0, 0))) /\ Hid (Below w.heap.size w wr)) (fun _ vi _ => N - (intOf vi).toNat)
  case atStart => exact ⟨0, none, 0, Nat.zero_le _, rfl, [], hide rfl, hide (fun x hx => by simp at hx), hide (World.ownsRow_nil _ _ _ _), hide hd0, hide hm0, hide hz0, hide hB0⟩
  case round =>
    clear hd0 hm0 hz0 hB0
    obtain ⟨i, ao', c', hi, rfl, xs, HXS, HNS, HOw, HD3, HM1, HZ1, HB1⟩ := hrel
    by_cases h : i < N
    . have hd : decide ((i : Int) < (N : Int)) = true := decide_eq_true (by omega)
      have hkk : (i : Int) < (N : Int) := by omega
      obtain ⟨z, hz⟩ : ∃ z, L[i]? = some z := ⟨_, List.getElem?_eq_getElem (by rw [HLL.out]; exact h)⟩
      have hzr := HLr.out z (List.mem_of_getElem? hz)
      obtain ⟨p, rfl⟩ : ∃ p : Nat, z = (p : Int) := ⟨z.toNat, by omega⟩
      have HZ := hide hz
      obtain ⟨gz, oz, rfl, hcz⟩ := ns_cell (HNL.out.below HB1.out) hz
      have hlz := World.block_lt_of_cell? _ _ hcz
      have hpo : p < ops.length := by rw [HNN.out]; omega
      have hpn : (p : Int) < (n : Int) := by omega
      have HP : Hid ((p : Int).toNat = p) := hide (by omega)
      obtain ⟨g, off, aq, cq, rfl, hgl0, hoc⟩ := HO.out.at (oa_some hpo)
      have hgl : g < wr.heap.size := Nat.lt_of_lt_of_le hgl0 HB1.out.size
      clear hz
      obtain ⟨C5, H5⟩ : ∃ C5 : Code, Hid (C5 = (Code.region 5 #[{ dst := some 19, op := Op.fieldAddr 24 (Operand.tmp 5) 2, type := 0, pos := "layers.go:91", after := #[], guard := none }, { dst := some 20, op := Op.load 22 (Operand.tmp 19), type := 22, pos := "layers.go:91", after := #[{ on := 0, ground := Ground.data }], guard := none }, { dst := some 21, op := Op.fieldAddr 24 (Operand.tmp 2) 2, type := 0, pos := "layers.go:91", after := #[], guard := none }, { dst := some 22, op := Op.load 22 (Operand.tmp 21), type := 22, pos := "layers.go:91", after := #[{ on := 2, ground := Ground.data }], guard := none }, { dst := some 23, op := Op.move (Operand.tmp 7), type := 3, pos := "layers.go:91", after := #[], guard := none }, { dst := some 24, op := Op.indexAddr 22 (Operand.tmp 22) (Operand.tmp 23), type := 0, pos := "layers.go:91", after := #[{ on := 3, ground := Ground.data }, { on := 4, ground := Ground.data }], guard := none }, { dst := some 25, op := Op.load 57 (Operand.tmp 24), type := 57, pos := "layers.go:91", after := #[{ on := 5, ground := Ground.data }], guard := none }, { dst := some 26, op := Op.buildSlice 22 1 #[(0, Operand.tmp 25)], type := 22, pos := "layers.go:91", after := #[{ on := 6, ground := Ground.data }], guard := none }, { dst := some 27, op := Op.call { callee := Callee.builtin Builtin.append, args := #[Operand.tmp 20, Operand.tmp 26], argTypes := #[22, 22] }, type := 22, pos := "layers.go:91", after := #[{ on := 1, ground := Ground.data }, { on := 7, ground := Ground.data }], guard := none }, { dst := some 28, op := Op.fieldAddr 24 (Operand.tmp 5) 2, type := 0, pos := "layers.go:91", after := #[{ on := 0, ground := Ground.phase }, { on := 1, ground := Ground.phase }, { on := 2, ground := Ground.phase }, { on := 3, ground := Ground.phase }, { on := 4, ground := Ground.phase }, { on := 5, ground := Ground.phase }, { on := 6, ground := Ground.phase }, { on := 7, ground := Ground.phase }, { on := 8, ground := Ground.phase }], guard := none }, { dst := none, op := Op.store 22 (Operand.tmp 28) (Operand.tmp 27), type := 0, pos := "layers.go:91", after := #[{ on := 9, ground := Ground.data }, { on := 8, ground := Ground.data }, { on := 8, ground := Ground.chain }, { on := 0, ground := Ground.phase }, { on := 1, ground := Ground.phase }, { on := 2, ground := Ground.phase }, { on := 3, ground := Ground.phase }, { on := 4, ground := Ground.phase }, { on := 5, ground := Ground.phase }, { on := 6, ground := Ground.phase }, { on := 7, ground := Ground.phase }, { on := 8, ground := Ground.phase }], guard := none }] true)) := ⟨_, hide rfl⟩
      rw [← H5.out]
      go_wp2_with fail
      rw [H5.out]
      clear hcz hlz
      refine wp_region_held_drew (S := (fun V : World => V.heap[b1]? = some (.cells #[.int .i64 q, .int .i64 b, .slice (some ⟨g, off, none⟩) n k] 24 (0, 0)) /\ Below w.heap.size w V)) (by kernel_rfl) ⟨HM1.out, HB1.out.drew⟩ (fun hHeld => ?_)
      refine take_to (i := 0) (d := 19) (v := ?_) rfl rfl (by kernel_rfl) (by kernel_rfl) (by kernel_rfl) (fun _ _ _ h => h) (Or.inl ⟨by rfl, ?_⟩) (by assumption) ?_
      rotate_left 1
      . intro W hSw
        obtain ⟨hc1, hc2⟩ := hSw
        obtain ⟨s0, s1, s2, s3⟩ := def_cells hc1
        go_simp
        with_reducible rfl
      simp only [Act.put, List.setIfInBounds_toArray, List.set_cons_zero, List.set_cons_succ]
      refine take_to (i := 2) (d := 21) (v := ?_) rfl rfl (by kernel_rfl) (by kernel_rfl) (by kernel_rfl) (fun _ _ _ h => h) (Or.inl ⟨by rfl, ?_⟩) (by assumption) ?_
      rotate_left 1
      . intro W hSw
        obtain ⟨hc1, hc2⟩ := hSw
        obtain ⟨s0, s1, s2, s3⟩ := def_cells hc1
        go_simp
        with_reducible rfl
      simp only [Act.put, List.setIfInBounds_toArray, List.set_cons_zero, List.set_cons_succ]
      refine take_to (i := 3) (d := 22) (v := ?_) rfl rfl (by kernel_rfl) (by kernel_rfl) (by kernel_rfl) (fun _ _ _ h => h) (Or.inl ⟨by rfl, ?_⟩) (by assumption) ?_
      rotate_left 1
      . intro W hSw
        obtain ⟨hc1, hc2⟩ := hSw
        obtain ⟨s0, s1, s2, s3⟩ := def_cells hc1
        go_simp
        with_reducible rfl
      simp only [Act.put, List.setIfInBounds_toArray, List.set_cons_zero, List.set_cons_succ]
      refine take_to (i := 4) (d := 23) (v := ?_) rfl rfl (by kernel_rfl) (by kernel_rfl) (by kernel_rfl) (fun _ _ _ h => h) (Or.inl ⟨by rfl, ?_⟩) (by assumption) ?_
      rotate_left 1
      . intro W hSw
        obtain ⟨hc1, hc2⟩ := hSw
        obtain ⟨s0, s1, s2, s3⟩ := def_cells hc1
        go_simp
        with_reducible rfl
      simp only [Act.put, List.setIfInBounds_toArray, List.set_cons_zero, List.set_cons_succ]
      refine take_to (i := 5) (d := 24) (v := ?_) rfl rfl (by kernel_rfl) (by kernel_rfl) (by kernel_rfl) (fun _ _ _ h => h) (Or.inl ⟨by rfl, ?_⟩) (by assumption) ?_
      rotate_left 1
      . intro W hSw
        obtain ⟨hc1, hc2⟩ := hSw
        obtain ⟨s0, s1, s2, s3⟩ := def_cells hc1
        go_simp
        with_reducible rfl
      simp only [Act.put, List.setIfInBounds_toArray, List.set_cons_zero, List.set_cons_succ]
      refine take_to (i := 6) (d := 25) (v := opV (oa ops p) aq cq) rfl rfl (by kernel_rfl) (by kernel_rfl) (by kernel_rfl) (fun _ _ _ h => h) (Or.inl ⟨by rfl, ?_⟩) (by assumption) ?_
      . intro W hSw
        exact run_load_op (hoc.below hSw.2)
      simp only [Act.put, List.setIfInBounds_toArray, List.set_cons_zero, List.set_cons_succ]
      refine wpAnyH_ready (rs := [1, 7]) (by kernel_rfl) (by simp) ?_
      refine AllReadyH.cons (o := { dst := some 20, op := Op.load 22 (Operand.tmp 19), type := 22, pos := "layers.go:91", after := #[{ on := 0, ground := Ground.data }], guard := none }) rfl (fun K hK => ?_) (AllReadyH.cons (o := { dst := some 26, op := Op.buildSlice 22 1 #[(0, Operand.tmp 25)], type := 22, pos := "layers.go:91", after := #[{ on := 6, ground := Ground.data }], guard := none }) rfl (fun K hK => ?_) AllReadyH.nil)
      . obtain ⟨y0, y1, y2, y3⟩ := def_cells HD3.out
        go_simp
        refine hK.out _ _ (show (fun V : World => V.heap[b1]? = some (.cells #[.int .i64 q, .int .i64 b, .slice (some ⟨g, off, none⟩) n k] 24 (0, 0)) /\ Below w.heap.size w V) _ from hHeld) (fun hHeld => ?_)
        clear hK K y0 y1 y2 y3
        try simp only [Act.put, List.setIfInBounds_toArray, List.set_cons_zero, List.set_cons_succ]
        refine wpAnyH_ready (rs := [7]) (by kernel_rfl) (by simp) ?_
        refine AllReadyH.cons (o := { dst := some 26, op := Op.buildSlice 22 1 #[(0, Operand.tmp 25)], type := 22, pos := "layers.go:91", after := #[{ on := 6, ground := Ground.data }], guard := none }) rfl (fun K hK => ?_) AllReadyH.nil
        unfold opV
        go_simp
        refine hK.out _ _ (show (fun V : World => V.heap[b1]? = some (.cells #[.int .i64 q, .int .i64 b, .slice (some ⟨g, off, none⟩) n k] 24 (0, 0)) /\ Below w.heap.size w V) _ from ⟨(Below.heap_alloc _ (.cells (opC (oa ops p, .slice aq (oa ops p).qs.length cq)).toArray 57) _ (Array.getElem?_eq_some_iff.1 hHeld.1).1).trans hHeld.1, hHeld.2.alloc hHeld.2.size (.cells (opC (oa ops p, .slice aq (oa ops p).qs.length cq)).toArray 57)⟩) (fun hHeld => ?_)
        clear hK K
        have HD3a : Hid ((wr.alloc (.cells #[.int .i64 (oa ops p).kind, .int .i64 (oa ops p).gate, .slice aq (oa ops p).qs.length cq, .int .i64 (oa ops p).bit, .int .i64 (oa ops p).cond, .int .i64 (oa ops p).whn] 57)).heap[b3]? = some (.cells #[.int .i64 q, .int .i64 b, .slice ao' i c'] 24 (0, 0))) := hide ((Below.heap_alloc wr (.cells #[.int .i64 (oa ops p).kind, .int .i64 (oa ops p).gate, .slice aq (oa ops p).qs.length cq, .int .i64 (oa ops p).bit, .int .i64 (oa ops p).cond, .int .i64 (oa ops p).whn] 57) _ (Array.getElem?_eq_some_iff.1 HD3.out).1).trans HD3.out)
        try simp only [Act.put, List.setIfInBounds_toArray, List.set_cons_zero, List.set_cons_succ]
        refine wpAnyH_ready (rs := [8]) (by kernel_rfl) (by simp) ?_
        refine AllReadyH.cons (o := { dst := some 27, op := Op.call { callee := Callee.builtin Builtin.append, args := #[Operand.tmp 20, Operand.tmp 26], argTypes := #[22, 22] }, type := 22, pos := "layers.go:91", after := #[{ on := 1, ground := Ground.data }, { on := 7, ground := Ground.data }], guard := none }) rfl (fun K hK => ?_) AllReadyH.nil
        refine step_push (w := wr.drew) rfl (.tmp 20) (.tmp 26) 22 rfl 57 Tryd.underlying22 _ 6 64 infoOp rfl (by decide) w.heap.size ao' i c' _ (by rfl) HOw.out (opC (oa ops p, .slice aq (oa ops p).qs.length cq)) _ rfl rfl (by simp [opC, Value.oneCell']) wr.heap.size rfl (by rfl) (by omega) (by omega) HB1.out.size ?_
        intro g6 c6 w6 hown hgr hat
        have hd6 := (hgr.block _ (Array.getElem?_eq_some_iff.1 HD3.out).1 (fun e => own_ne HOw.out HD3.out (by decide) e.symm)).trans HD3.out
        have hm6 := (hgr.block _ (Array.getElem?_eq_some_iff.1 HM1.out).1 (fun e => own_ne HOw.out HM1.out (by decide) e.symm)).trans HM1.out
        have hr6 := (hgr.block _ (Array.getElem?_eq_some_iff.1 HZ1.out).1 (fun e => own_ne HOw.out HZ1.out (by decide) e.symm)).trans HZ1.out
        have hB6 : Below w.heap.size w w6 := HB1.out.grown (⟨hgr.os, hgr.tape, hgr.output, hgr.size, hgr.block⟩ : wr.grownBy w6 (ob ao')) HB1.out.size (fun x hx => (own_lt HOw.out x hx).1)
        have HO6 := hide hown
        refine hK.out _ _ (show (fun V : World => V.heap[b1]? = some (.cells #[.int .i64 q, .int .i64 b, .slice (some ⟨g, off, none⟩) n k] 24 (0, 0)) /\ Below w.heap.size w V) w6 from ⟨hm6, hB6⟩) (fun hHeld => ?_)
        clear hK K hown hgr hat
        try simp only [Act.put, List.setIfInBounds_toArray, List.set_cons_zero, List.set_cons_succ]
        refine take_to (i := 9) (d := 28) (v := ?_) rfl rfl (by kernel_rfl) (by kernel_rfl) (by kernel_rfl) (fun _ _ _ h => h) (Or.inl ⟨by rfl, ?_⟩) (by assumption) ?_
        rotate_left 1
        . intro W hSw
          obtain ⟨hc1, hc2⟩ := hSw
          obtain ⟨s0, s1, s2, s3⟩ := def_cells hc1
          go_simp
          with_reducible rfl
        simp only [Act.put, List.setIfInBounds_toArray, List.set_cons_zero, List.set_cons_succ]
        refine wpAnyH_ready (rs := [10]) (by kernel_rfl) (by simp) ?_
        refine AllReadyH.cons (o := { dst := none, op := Op.store 22 (Operand.tmp 28) (Operand.tmp 27), type := 0, pos := "layers.go:91", after := #[{ on := 9, ground := Ground.data }, { on := 8, ground := Ground.data }, { on := 8, ground := Ground.chain }, { on := 0, ground := Ground.phase }, { on := 1, ground := Ground.phase }, { on := 2, ground := Ground.phase }, { on := 3, ground := Ground.phase }, { on := 4, ground := Ground.phase }, { on := 5, ground := Ground.phase }, { on := 6, ground := Ground.phase }, { on := 7, ground := Ground.phase }, { on := 8, ground := Ground.phase }], guard := none }) rfl (fun K hK => ?_) AllReadyH.nil
        obtain ⟨y0, y1, y2, y3⟩ := def_cells hd6
        have yf : w6.frozen? ⟨b3, 2, none⟩ = false := by simp [World.frozen?, hd6]
        go_simp
        refine hK.out _ _ (show (fun V : World => V.heap[b1]? = some (.cells #[.int .i64 q, .int .i64 b, .slice (some ⟨g, off, none⟩) n k] 24 (0, 0)) /\ Below w.heap.size w V) _ from ⟨(Below.heap_setCell _ _ _ _ (by simp; omega)).trans hm6, hB6.setCell (p := ⟨b3, 2, none⟩) (by simp; omega) _⟩) (fun hHeld => ?_)
        clear hK K
        refine wpAnyH_done (by kernel_rfl) ?_ _
        go_wp2_with fail
        refine ⟨⟨i + 1, some ⟨g6, 0, none⟩, c6, by omega, by go_num, xs ++ [(oa ops p, .slice aq (oa ops p).qs.length cq)], ?_, ?_, ?_, ?_, ?_, ?_, ?_⟩, by simp [intOf]; omega⟩
        . exact hide (by rw [List.map_append, HXS.out, List.take_add_one, HZ.out]; simp [HP.out])
        . exact hide (fun x hx => by
            rcases List.mem_append.1 hx with hx | hx
            . exact HNS.out x hx
            . rw [List.mem_singleton] at hx
              subst hx
              exact ⟨aq, cq, rfl, hoc.room, hoc.ns⟩)
        . refine hide ?_
          rw [List.flatMap_append]
          refine own_of_block (w := w6) ?_ (fun kk hk => Below.heap_setCell _ _ _ _ (fun e => ?_))
          . have := HO6.out
            simpa [List.flatMap] using this
          . obtain ⟨cs, fr, hc⟩ := own_cells' HO6.out hk
            have e2 : kk = b3 := e
            rw [e2, hd6] at hc
            simp at hc
        . refine hide ?_
          rw [setCell_eq_setRow _ _ _ _ _ _ _ hd6, setRow_heap _ _ _ _ _ _ hd6]
          rfl
        . exact hide ((Below.heap_setCell _ _ _ _ (by simp; omega)).trans hm6)
        . exact hide ((Below.heap_setCell _ _ _ _ (by simp; omega)).trans hr6)
        . exact hide (hB6.setCell (p := ⟨b3, 2, none⟩) (by simp; omega) _)
      . unfold opV
        go_simp
        refine hK.out _ _ (show (fun V : World => V.heap[b1]? = some (.cells #[.int .i64 q, .int .i64 b, .slice (some ⟨g, off, none⟩) n k] 24 (0, 0)) /\ Below w.heap.size w V) _ from ⟨(Below.heap_alloc _ (.cells (opC (oa ops p, .slice aq (oa ops p).qs.length cq)).toArray 57) _ (Array.getElem?_eq_some_iff.1 hHeld.1).1).trans hHeld.1, hHeld.2.alloc hHeld.2.size (.cells (opC (oa ops p, .slice aq (oa ops p).qs.length cq)).toArray 57)⟩) (fun hHeld => ?_)
        clear hK K
        have HD3a : Hid ((wr.alloc (.cells #[.int .i64 (oa ops p).kind, .int .i64 (oa ops p).gate, .slice aq (oa ops p).qs.length cq, .int .i64 (oa ops p).bit, .int .i64 (oa ops p).cond, .int .i64 (oa ops p).whn] 57)).heap[b3]? = some (.cells #[.int .i64 q, .int .i64 b, .slice ao' i c'] 24 (0, 0))) := hide ((Below.heap_alloc wr (.cells #[.int .i64 (oa ops p).kind, .int .i64 (oa ops p).gate, .slice aq (oa ops p).qs.length cq, .int .i64 (oa ops p).bit, .int .i64 (oa ops p).cond, .int .i64 (oa ops p).whn] 57) _ (Array.getElem?_eq_some_iff.1 HD3.out).1).trans HD3.out)
        try simp only [Act.put, List.setIfInBounds_toArray, List.set_cons_zero, List.set_cons_succ]
        refine wpAnyH_ready (rs := [1]) (by kernel_rfl) (by simp) ?_
        refine AllReadyH.cons (o := { dst := some 20, op := Op.load 22 (Operand.tmp 19), type := 22, pos := "layers.go:91", after := #[{ on := 0, ground := Ground.data }], guard := none }) rfl (fun K hK => ?_) AllReadyH.nil
        obtain ⟨y0, y1, y2, y3⟩ := def_cells HD3a.out
        go_simp
        refine hK.out _ _ (show (fun V : World => V.heap[b1]? = some (.cells #[.int .i64 q, .int .i64 b, .slice (some ⟨g, off, none⟩) n k] 24 (0, 0)) /\ Below w.heap.size w V) _ from hHeld) (fun hHeld => ?_)
        clear hK K y0 y1 y2 y3
        try simp only [Act.put, List.setIfInBounds_toArray, List.set_cons_zero, List.set_cons_succ]
        refine wpAnyH_ready (rs := [8]) (by kernel_rfl) (by simp) ?_
        refine AllReadyH.cons (o := { dst := some 27, op := Op.call { callee := Callee.builtin Builtin.append, args := #[Operand.tmp 20, Operand.tmp 26], argTypes := #[22, 22] }, type := 22, pos := "layers.go:91", after := #[{ on := 1, ground := Ground.data }, { on := 7, ground := Ground.data }], guard := none }) rfl (fun K hK => ?_) AllReadyH.nil
        refine step_push (w := wr.drew) rfl (.tmp 20) (.tmp 26) 22 rfl 57 Tryd.underlying22 _ 6 64 infoOp rfl (by decide) w.heap.size ao' i c' _ (by rfl) HOw.out (opC (oa ops p, .slice aq (oa ops p).qs.length cq)) _ rfl rfl (by simp [opC, Value.oneCell']) wr.heap.size rfl (by rfl) (by omega) (by omega) HB1.out.size ?_
        intro g6 c6 w6 hown hgr hat
        have hd6 := (hgr.block _ (Array.getElem?_eq_some_iff.1 HD3.out).1 (fun e => own_ne HOw.out HD3.out (by decide) e.symm)).trans HD3.out
        have hm6 := (hgr.block _ (Array.getElem?_eq_some_iff.1 HM1.out).1 (fun e => own_ne HOw.out HM1.out (by decide) e.symm)).trans HM1.out
        have hr6 := (hgr.block _ (Array.getElem?_eq_some_iff.1 HZ1.out).1 (fun e => own_ne HOw.out HZ1.out (by decide) e.symm)).trans HZ1.out
        have hB6 : Below w.heap.size w w6 := HB1.out.grown (⟨hgr.os, hgr.tape, hgr.output, hgr.size, hgr.block⟩ : wr.grownBy w6 (ob ao')) HB1.out.size (fun x hx => (own_lt HOw.out x hx).1)
        have HO6 := hide hown
        refine hK.out _ _ (show (fun V : World => V.heap[b1]? = some (.cells #[.int .i64 q, .int .i64 b, .slice (some ⟨g, off, none⟩) n k] 24 (0, 0)) /\ Below w.heap.size w V) w6 from ⟨hm6, hB6⟩) (fun hHeld => ?_)
        clear hK K hown hgr hat
        try simp only [Act.put, List.setIfInBounds_toArray, List.set_cons_zero, List.set_cons_succ]
        refine take_to (i := 9) (d := 28) (v := ?_) rfl rfl (by kernel_rfl) (by kernel_rfl) (by kernel_rfl) (fun _ _ _ h => h) (Or.inl ⟨by rfl, ?_⟩) (by assumption) ?_
        rotate_left 1
        . intro W hSw
          obtain ⟨hc1, hc2⟩ := hSw
          obtain ⟨s0, s1, s2, s3⟩ := def_cells hc1
          go_simp
          with_reducible rfl
        simp only [Act.put, List.setIfInBounds_toArray, List.set_cons_zero, List.set_cons_succ]
        refine wpAnyH_ready (rs := [10]) (by kernel_rfl) (by simp) ?_
        refine AllReadyH.cons (o := { dst := none, op := Op.store 22 (Operand.tmp 28) (Operand.tmp 27), type := 0, pos := "layers.go:91", after := #[{ on := 9, ground := Ground.data }, { on := 8, ground := Ground.data }, { on := 8, ground := Ground.chain }, { on := 0, ground := Ground.phase }, { on := 1, ground := Ground.phase }, { on := 2, ground := Ground.phase }, { on := 3, ground := Ground.phase }, { on := 4, ground := Ground.phase }, { on := 5, ground := Ground.phase }, { on := 6, ground := Ground.phase }, { on := 7, ground := Ground.phase }, { on := 8, ground := Ground.phase }], guard := none }) rfl (fun K hK => ?_) AllReadyH.nil
        obtain ⟨y0, y1, y2, y3⟩ := def_cells hd6
        have yf : w6.frozen? ⟨b3, 2, none⟩ = false := by simp [World.frozen?, hd6]
        go_simp
        refine hK.out _ _ (show (fun V : World => V.heap[b1]? = some (.cells #[.int .i64 q, .int .i64 b, .slice (some ⟨g, off, none⟩) n k] 24 (0, 0)) /\ Below w.heap.size w V) _ from ⟨(Below.heap_setCell _ _ _ _ (by simp; omega)).trans hm6, hB6.setCell (p := ⟨b3, 2, none⟩) (by simp; omega) _⟩) (fun hHeld => ?_)
        clear hK K
        refine wpAnyH_done (by kernel_rfl) ?_ _
        go_wp2_with fail
        refine ⟨⟨i + 1, some ⟨g6, 0, none⟩, c6, by omega, by go_num, xs ++ [(oa ops p, .slice aq (oa ops p).qs.length cq)], ?_, ?_, ?_, ?_, ?_, ?_, ?_⟩, by simp [intOf]; omega⟩
        . exact hide (by rw [List.map_append, HXS.out, List.take_add_one, HZ.out]; simp [HP.out])
        . exact hide (fun x hx => by
            rcases List.mem_append.1 hx with hx | hx
            . exact HNS.out x hx
            . rw [List.mem_singleton] at hx
              subst hx
              exact ⟨aq, cq, rfl, hoc.room, hoc.ns⟩)
        . refine hide ?_
          rw [List.flatMap_append]
          refine own_of_block (w := w6) ?_ (fun kk hk => Below.heap_setCell _ _ _ _ (fun e => ?_))
          . have := HO6.out
            simpa [List.flatMap] using this
          . obtain ⟨cs, fr, hc⟩ := own_cells' HO6.out hk
            have e2 : kk = b3 := e
            rw [e2, hd6] at hc
            simp at hc
        . refine hide ?_
          rw [setCell_eq_setRow _ _ _ _ _ _ _ hd6, setRow_heap _ _ _ _ _ _ hd6]
          rfl
        . exact hide ((Below.heap_setCell _ _ _ _ (by simp; omega)).trans hm6)
        . exact hide ((Below.heap_setCell _ _ _ _ (by simp; omega)).trans hr6)
        . exact hide (hB6.setCell (p := ⟨b3, 2, none⟩) (by simp; omega) _)
    . obtain rfl : N = i := by omega
      have hd : decide ((N : Int) < (N : Int)) = false := decide_eq_false (by omega)
      have hxl : N = xs.length := by
        have := congrArg List.length HXS.out
        rw [List.length_map, List.length_map, ← HLL.out, List.take_length] at this
        rw [← HLL.out]
        exact this.symm
      have hfull : xs.map (·.1) = L.map fun z => oa ops z.toNat := by
        have := HXS.out
        rw [← HLL.out, List.take_length] at this
        exact this
      obtain ⟨hin, hlc⟩ := own6_in hxl HOw.out (fun x hx => by
        obtain ⟨aq, cq, h1, h2, h3⟩ := HNS.out x hx
        exact ⟨aq, cq, h1, h2, h3.below HB1.out⟩)
      have hl2 : (xs.map (·.1)).length = N := by rw [List.length_map]; exact hxl.symm
      have c7 := HCC.out (xs.map (·.1)) ao' c' wr (by rw [hl2]; exact hLl) (fun o ho => by
        rw [hfull] at ho
        obtain ⟨z, hz, rfl⟩ := List.mem_map.1 ho
        have := HLr.out z hz
        exact HS.out _ (List.mem_of_getElem? (oa_some (show z.toNat < ops.length by rw [HNN.out]; omega)))) hin (by rw [hl2]; omega)
      rw [hl2] at c7
      rw [hfull] at c7
      obtain ⟨y0, y1, y2, y3⟩ := def_cells HD3.out
      have HHF := hide hfull
      have HXL := hide hxl
      clear hin hlc hl2 hfull hxl
      go_wp2_with (first
        | (go_at_call 60; refine Calls.mono c7 ?_; rintro e w8 ⟨bo, j, rfl, hO8, hb8⟩; have HZ8 := hide ((hb8.block _ (Array.getElem?_eq_some_iff.1 HZ1.out).1).trans HZ1.out); have HO8 := hide hO8; have HB8 := hide (HB1.out.trans (hb8.mono HB1.out.size)); clear hO8 hb8 c7)
        | refine wpList_store_row rfl _ _ _ rfl b2 _ (by rfl) (by rfl) _ _ HZ8.out (by exact infoC3) (by rfl) (by simp [Value.oneCell']) ?_)
      refine bodyPost_ret (results_c rfl _ _ b2 _ _ _ _ (by rfl) (setRow_heap _ _ _ _ _ _ HZ8.out) Tryd.underlying24 rfl (by exact infoC3)) rfl ?_
      refine ⟨bo, j, ?_, ?_, Below.row HB8.out _ _ (by omega)⟩
      . simp only [List.length_map, HLL.out]
      . exact (HO8.out.base HB1.out.size).row HZ8.out (by decide) (by decide) _
end Go.Proofs.YthndpbjplcphpaaDoor.Lay
