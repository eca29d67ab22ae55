import Derived.Test.YthndpbjplcphpaaDoorQ9f8c45e5
import Derived.Deep.CutRange
set_option maxRecDepth 100000
set_option maxHeartbeats 4000000
namespace Go.Proofs.YthndpbjplcphpaaDoor.Lay
open Go.RowKit Go.Shelf Go.Proofs.YthndpbjplcphpaaDoor.Oct Go.Proofs.YthndpbjplcphpaaDoor.Tok Go.Proofs.YthndpbjplcphpaaDoor.Gt Go.Proofs.YthndpbjplcphpaaDoor.Cir
theorem made19 (V : World) (n x : Nat) (hx : V.heap.size = x) : Rk (V.alloc (.cells (madeCells #[.int .i64 0] n) 3)) x 3 n (fun _ => .int .i64 0) := by
  subst hx
  obtain ⟨c, h1, h2, h3⟩ := World.rowIs_made V (.int .i64 0) n 3
  exact ⟨c, h1, by omega, h3⟩
theorem arr19 (V : World) (x : Nat) (hx : V.heap.size = x) : Ar (V.alloc (.cells Tryd.zeroCells79 79)) x 79 (fun _ => .int .i64 0) := by
  subst hx
  unfold Ar
  rw [← zeroL]
  exact heap_alloc_new _ _
theorem rk_ar {w : World} {g m n : Nat} {f f' : Nat -> Value} (h : Rk w g 3 n f) (h' : Ar w m 79 f') : g ≠ m := by
  intro e
  subst e
  obtain ⟨c, h1, -⟩ := h
  unfold Ar at h'
  rw [h1] at h'
  simp at h'
theorem make19 (n : Nat) (hn : n <= 4398046511105) (w : World) : (Instr.makeSlice 25 (.int .i64 (n : Int)) (.int .i64 (n : Int))).run Tryd.prog w = .ok (.slice (some ⟨w.heap.size, 0, none⟩) n n) (w.alloc (.cells (madeCells #[.int .i64 0] n) 3)) :=
  run_make_row' 25 3 (.int .i64 0) 8 Tryd.underlying25 Gt.infoI rfl .i64 .i64 n (by omega) (by omega) w
theorem lEarly1 (ops : List COp) (f : Nat -> Int) (hE : EV ops f) (hW : ∀ o ∈ ops, Wk o) (hn : ops.length <= 4096) (ao : Option Addr) (k : Nat) (w : World) (hO : OpsIn w ao ops) : Calls Tryd.prog 30 #[.slice ao ops.length k] w fun e w' => ∃ g, e = .returned (.slice (some ⟨g, 0, none⟩) ops.length ops.length) /\ Rk w' g 3 ops.length (fun j => .int .i64 (f j)) /\ w.heap.size <= g /\ Below w.heap.size w w' := by
  have HE := hide hE
  have HO := hide hO
  have HWk := hide hW
  obtain ⟨n, hnl⟩ : ∃ n, ops.length = n := ⟨_, rfl⟩
  have HL := hide hnl
  rw [hnl] at hn ⊢
  clear hnl hE hW hO
  have mq := fun W => make19 n (by omega) W
  go_enter Tryd.func30, Tryd.ntmps30
  go_upto_region 1 with fail
  go_cut [3, 4] from 14 (fun s3 s4 wc => ∃ gR gA : Nat, s3 = .slice (some ⟨gR, 0, none⟩) n n /\ s4 = .pointer (some ⟨gA, 0, none⟩) /\ Hid (Rk wc gR 3 n (fun _ => .int .i64 0)) /\ Hid (Ar wc gA 79 (fun _ => .int .i64 (-1))) /\ gR ≠ gA /\ w.heap.size <= gR /\ w.heap.size <= gA /\ Below w.heap.size w wc)
  case first =>
    refine wp_region_held_drew (S := (fun V : World => Below w.heap.size w V)) (by kernel_rfl) (Below.refl w.heap.size w).drew (fun hHeld => ?_)
    refine take_to (i := 0) (d := 10) (v := ?_) rfl rfl (by kernel_rfl) (by kernel_rfl) (by kernel_rfl) (fun _ _ _ h => h) (Or.inl ⟨by rfl, ?_⟩) (by assumption) ?_
    rotate_left 1
    . intro W hSw
      skip
      go_simp
      with_reducible rfl
    simp only [Act.put, List.setIfInBounds_toArray, List.set_cons_zero, List.set_cons_succ]
    refine take_to (i := 1) (d := 11) (v := ?_) rfl rfl (by kernel_rfl) (by kernel_rfl) (by kernel_rfl) (fun _ _ _ h => h) (Or.inl ⟨by rfl, ?_⟩) (by assumption) ?_
    rotate_left 1
    . intro W hSw
      skip
      go_simp
      with_reducible rfl
    simp only [Act.put, List.setIfInBounds_toArray, List.set_cons_zero, List.set_cons_succ]
    refine wpAnyH_ready (rs := [2, 3, 4]) (by kernel_rfl) (by simp) ?_
    refine AllReadyH.cons (o := { dst := some 12, op := Op.makeSlice 25 (Operand.tmp 11) (Operand.tmp 11), type := 25, pos := "moments.go:34", after := #[{ on := 1, ground := Ground.data }, { on := 1, ground := Ground.data }], guard := none }) rfl (fun K hK => ?_) (AllReadyH.cons (o := { dst := some 13, op := Op.call { callee := Callee.value (Operand.func 49), args := #[], argTypes := #[] }, type := 79, pos := "moments.go:34", after := #[], guard := none }) rfl (fun K hK => ?_) (AllReadyH.cons (o := { dst := some 4, op := Op.alloc 79, type := 0, pos := "moments.go:34", after := #[], guard := none }) rfl (fun K hK => ?_) AllReadyH.nil))
    . go_simp
      have hRB : w.heap.size <= w.heap.size := Nat.le_trans hHeld.size (Nat.le_of_eq (by first | rfl | simp))
      refine hK.out _ _ (show Below w.heap.size w _ from (hHeld.alloc hHeld.size (.cells (madeCells #[.int .i64 0] n) 3))) (fun hHeld => ?_)
      clear hK K
      have HR : Hid (Rk (w.drew.alloc (.cells (madeCells #[.int .i64 0] n) 3)) (w.heap.size) 3 n (fun _ => .int .i64 0)) := hide (made19 w.drew n (w.heap.size) (by simp))
      try simp only [Act.put, List.setIfInBounds_toArray, List.set_cons_zero, List.set_cons_succ]
      refine wpAnyH_ready (rs := [3, 4]) (by kernel_rfl) (by simp) ?_
      refine AllReadyH.cons (o := { dst := some 13, op := Op.call { callee := Callee.value (Operand.func 49), args := #[], argTypes := #[] }, type := 79, pos := "moments.go:34", after := #[], guard := none }) rfl (fun K hK => ?_) (AllReadyH.cons (o := { dst := some 4, op := Op.alloc 79, type := 0, pos := "moments.go:34", after := #[], guard := none }) rfl (fun K hK => ?_) AllReadyH.nil)
      . go_simp
        go_at_call 49
        refine (lNoneMet _).mono ?_
        rintro e w1 ⟨rfl, hb⟩
        replace HR := hide (HR.out.below hb)
        have hb' := Below.trans hHeld (hb.mono hHeld.size)
        go_wp2_with fail
        refine hK.out _ _ (show Below w.heap.size w w1 from hb') (fun hHeld => ?_)
        clear hK K hb'
        try simp only [Act.put, List.setIfInBounds_toArray, List.set_cons_zero, List.set_cons_succ]
        refine wpAnyH_ready (rs := [4]) (by kernel_rfl) (by simp) ?_
        refine AllReadyH.cons (o := { dst := some 4, op := Op.alloc 79, type := 0, pos := "moments.go:34", after := #[], guard := none }) rfl (fun K hK => ?_) AllReadyH.nil
        go_simp
        have hAB : w.heap.size <= w1.heap.size := Nat.le_trans hHeld.size (Nat.le_of_eq (by first | rfl | simp))
        refine hK.out _ _ (show Below w.heap.size w _ from (hHeld.alloc hHeld.size (.cells Tryd.zeroCells79 79))) (fun hHeld => ?_)
        clear hK K
        replace HR := hide (HR.out.below (bnew w1 (.cells Tryd.zeroCells79 79)))
        have HA : Hid (Ar (w1.alloc (.cells Tryd.zeroCells79 79)) (w1.heap.size) 79 (fun _ => .int .i64 0)) := hide (arr19 w1 (w1.heap.size) (by simp))
        try simp only [Act.put, List.setIfInBounds_toArray, List.set_cons_zero, List.set_cons_succ]
        refine take_to (i := 5) (d := 3) (v := ?_) rfl rfl (by kernel_rfl) (by kernel_rfl) (by kernel_rfl) (fun _ _ _ h => h) (Or.inl ⟨by rfl, ?_⟩) (by assumption) ?_
        rotate_left 1
        . intro W hSw
          skip
          go_simp
          with_reducible rfl
        simp only [Act.put, List.setIfInBounds_toArray, List.set_cons_zero, List.set_cons_succ]
        refine wpAnyH_ready (rs := [6]) (by kernel_rfl) (by simp) ?_
        refine AllReadyH.cons (o := { dst := none, op := Op.store 79 (Operand.tmp 4) (Operand.tmp 13), type := 0, pos := "moments.go:34", after := #[{ on := 4, ground := Ground.data }, { on := 3, ground := Ground.data }, { on := 5, ground := Ground.chain }, { on := 0, ground := Ground.phase }, { on := 1, ground := Ground.phase }, { on := 2, ground := Ground.phase }, { on := 3, ground := Ground.phase }, { on := 4, ground := Ground.phase }, { on := 5, ground := Ground.phase }], guard := none }) rfl (fun K hK => ?_) AllReadyH.nil
        rw [if_pos (by rfl)]
        refine wp_store_row _ _ _ rfl _ _ (by rfl) (by rfl) _ _ HA.out (by rw [av_size]; exact infoL) (by rw [av_size, av_size]) (av_one fun _ => rfl) ?_
        refine hK.out _ _ (show Below w.heap.size w _ from Below.row hHeld _ _ hAB) (fun hHeld => ?_)
        clear hK K
        refine wpAnyH_done (by kernel_rfl) ?_ _
        have hne : w.heap.size ≠ w1.heap.size := rk_ar HR.out HA.out
        go_wp2_with fail
        go_meet
        case rel => exact ⟨w.heap.size, w1.heap.size, rfl, rfl, hide (HR.out.of_block (setRow_other _ _ _ _ hne)), hide (setRow_heap _ _ _ _ _ _ HA.out), hne, hRB, hAB, hHeld⟩
      . go_simp
        have hAB : w.heap.size <= w.heap.size + 1 := Nat.le_trans hHeld.size (Nat.le_of_eq (by first | rfl | simp))
        refine hK.out _ _ (show Below w.heap.size w _ from (hHeld.alloc hHeld.size (.cells Tryd.zeroCells79 79))) (fun hHeld => ?_)
        clear hK K
        replace HR := hide (HR.out.below (bnew (w.drew.alloc (.cells (madeCells #[.int .i64 0] n) 3)) (.cells Tryd.zeroCells79 79)))
        have HA : Hid (Ar ((w.drew.alloc (.cells (madeCells #[.int .i64 0] n) 3)).alloc (.cells Tryd.zeroCells79 79)) (w.heap.size + 1) 79 (fun _ => .int .i64 0)) := hide (arr19 (w.drew.alloc (.cells (madeCells #[.int .i64 0] n) 3)) (w.heap.size + 1) (by simp))
        try simp only [Act.put, List.setIfInBounds_toArray, List.set_cons_zero, List.set_cons_succ]
        refine wpAnyH_ready (rs := [3]) (by kernel_rfl) (by simp) ?_
        refine AllReadyH.cons (o := { dst := some 13, op := Op.call { callee := Callee.value (Operand.func 49), args := #[], argTypes := #[] }, type := 79, pos := "moments.go:34", after := #[], guard := none }) rfl (fun K hK => ?_) AllReadyH.nil
        go_simp
        go_at_call 49
        refine (lNoneMet _).mono ?_
        rintro e w1 ⟨rfl, hb⟩
        replace HR := hide (HR.out.below hb)
        replace HA := hide (HA.out.below hb)
        have hb' := Below.trans hHeld (hb.mono hHeld.size)
        go_wp2_with fail
        refine hK.out _ _ (show Below w.heap.size w w1 from hb') (fun hHeld => ?_)
        clear hK K hb'
        try simp only [Act.put, List.setIfInBounds_toArray, List.set_cons_zero, List.set_cons_succ]
        refine take_to (i := 5) (d := 3) (v := ?_) rfl rfl (by kernel_rfl) (by kernel_rfl) (by kernel_rfl) (fun _ _ _ h => h) (Or.inl ⟨by rfl, ?_⟩) (by assumption) ?_
        rotate_left 1
        . intro W hSw
          skip
          go_simp
          with_reducible rfl
        simp only [Act.put, List.setIfInBounds_toArray, List.set_cons_zero, List.set_cons_succ]
        refine wpAnyH_ready (rs := [6]) (by kernel_rfl) (by simp) ?_
        refine AllReadyH.cons (o := { dst := none, op := Op.store 79 (Operand.tmp 4) (Operand.tmp 13), type := 0, pos := "moments.go:34", after := #[{ on := 4, ground := Ground.data }, { on := 3, ground := Ground.data }, { on := 5, ground := Ground.chain }, { on := 0, ground := Ground.phase }, { on := 1, ground := Ground.phase }, { on := 2, ground := Ground.phase }, { on := 3, ground := Ground.phase }, { on := 4, ground := Ground.phase }, { on := 5, ground := Ground.phase }], guard := none }) rfl (fun K hK => ?_) AllReadyH.nil
        rw [if_pos (by rfl)]
        refine wp_store_row _ _ _ rfl _ _ (by rfl) (by rfl) _ _ HA.out (by rw [av_size]; exact infoL) (by rw [av_size, av_size]) (av_one fun _ => rfl) ?_
        refine hK.out _ _ (show Below w.heap.size w _ from Below.row hHeld _ _ hAB) (fun hHeld => ?_)
        clear hK K
        refine wpAnyH_done (by kernel_rfl) ?_ _
        have hne : w.heap.size ≠ w.heap.size + 1 := rk_ar HR.out HA.out
        go_wp2_with fail
        go_meet
        case rel => exact ⟨w.heap.size, w.heap.size + 1, rfl, rfl, hide (HR.out.of_block (setRow_other _ _ _ _ hne)), hide (setRow_heap _ _ _ _ _ _ HA.out), hne, hRB, hAB, hHeld⟩
    . go_simp
      go_at_call 49
      refine (lNoneMet _).mono ?_
      rintro e w1 ⟨rfl, hb⟩
      have hb' := Below.trans hHeld (hb.mono hHeld.size)
      go_wp2_with fail
      refine hK.out _ _ (show Below w.heap.size w w1 from hb') (fun hHeld => ?_)
      clear hK K hb'
      try simp only [Act.put, List.setIfInBounds_toArray, List.set_cons_zero, List.set_cons_succ]
      refine wpAnyH_ready (rs := [2, 4]) (by kernel_rfl) (by simp) ?_
      refine AllReadyH.cons (o := { dst := some 12, op := Op.makeSlice 25 (Operand.tmp 11) (Operand.tmp 11), type := 25, pos := "moments.go:34", after := #[{ on := 1, ground := Ground.data }, { on := 1, ground := Ground.data }], guard := none }) rfl (fun K hK => ?_) (AllReadyH.cons (o := { dst := some 4, op := Op.alloc 79, type := 0, pos := "moments.go:34", after := #[], guard := none }) rfl (fun K hK => ?_) AllReadyH.nil)
      . go_simp
        have hRB : w.heap.size <= w1.heap.size := Nat.le_trans hHeld.size (Nat.le_of_eq (by first | rfl | simp))
        refine hK.out _ _ (show Below w.heap.size w _ from (hHeld.alloc hHeld.size (.cells (madeCells #[.int .i64 0] n) 3))) (fun hHeld => ?_)
        clear hK K
        have HR : Hid (Rk (w1.alloc (.cells (madeCells #[.int .i64 0] n) 3)) (w1.heap.size) 3 n (fun _ => .int .i64 0)) := hide (made19 w1 n (w1.heap.size) (by simp))
        try simp only [Act.put, List.setIfInBounds_toArray, List.set_cons_zero, List.set_cons_succ]
        refine wpAnyH_ready (rs := [4]) (by kernel_rfl) (by simp) ?_
        refine AllReadyH.cons (o := { dst := some 4, op := Op.alloc 79, type := 0, pos := "moments.go:34", after := #[], guard := none }) rfl (fun K hK => ?_) AllReadyH.nil
        go_simp
        have hAB : w.heap.size <= w1.heap.size + 1 := Nat.le_trans hHeld.size (Nat.le_of_eq (by first | rfl | simp))
        refine hK.out _ _ (show Below w.heap.size w _ from (hHeld.alloc hHeld.size (.cells Tryd.zeroCells79 79))) (fun hHeld => ?_)
        clear hK K
        replace HR := hide (HR.out.below (bnew (w1.alloc (.cells (madeCells #[.int .i64 0] n) 3)) (.cells Tryd.zeroCells79 79)))
        have HA : Hid (Ar ((w1.alloc (.cells (madeCells #[.int .i64 0] n) 3)).alloc (.cells Tryd.zeroCells79 79)) (w1.heap.size + 1) 79 (fun _ => .int .i64 0)) := hide (arr19 (w1.alloc (.cells (madeCells #[.int .i64 0] n) 3)) (w1.heap.size + 1) (by simp))
        try simp only [Act.put, List.setIfInBounds_toArray, List.set_cons_zero, List.set_cons_succ]
        refine take_to (i := 5) (d := 3) (v := ?_) rfl rfl (by kernel_rfl) (by kernel_rfl) (by kernel_rfl) (fun _ _ _ h => h) (Or.inl ⟨by rfl, ?_⟩) (by assumption) ?_
        rotate_left 1
        . intro W hSw
          skip
          go_simp
          with_reducible rfl
        simp only [Act.put, List.setIfInBounds_toArray, List.set_cons_zero, List.set_cons_succ]
        refine wpAnyH_ready (rs := [6]) (by kernel_rfl) (by simp) ?_
        refine AllReadyH.cons (o := { dst := none, op := Op.store 79 (Operand.tmp 4) (Operand.tmp 13), type := 0, pos := "moments.go:34", after := #[{ on := 4, ground := Ground.data }, { on := 3, ground := Ground.data }, { on := 5, ground := Ground.chain }, { on := 0, ground := Ground.phase }, { on := 1, ground := Ground.phase }, { on := 2, ground := Ground.phase }, { on := 3, ground := Ground.phase }, { on := 4, ground := Ground.phase }, { on := 5, ground := Ground.phase }], guard := none }) rfl (fun K hK => ?_) AllReadyH.nil
        rw [if_pos (by rfl)]
        refine wp_store_row _ _ _ rfl _ _ (by rfl) (by rfl) _ _ HA.out (by rw [av_size]; exact infoL) (by rw [av_size, av_size]) (av_one fun _ => rfl) ?_
        refine hK.out _ _ (show Below w.heap.size w _ from Below.row hHeld _ _ hAB) (fun hHeld => ?_)
        clear hK K
        refine wpAnyH_done (by kernel_rfl) ?_ _
        have hne : w1.heap.size ≠ w1.heap.size + 1 := rk_ar HR.out HA.out
        go_wp2_with fail
        go_meet
        case rel => exact ⟨w1.heap.size, w1.heap.size + 1, rfl, rfl, hide (HR.out.of_block (setRow_other _ _ _ _ hne)), hide (setRow_heap _ _ _ _ _ _ HA.out), hne, hRB, hAB, hHeld⟩
      . go_simp
        have hAB : w.heap.size <= w1.heap.size := Nat.le_trans hHeld.size (Nat.le_of_eq (by first | rfl | simp))
        refine hK.out _ _ (show Below w.heap.size w _ from (hHeld.alloc hHeld.size (.cells Tryd.zeroCells79 79))) (fun hHeld => ?_)
        clear hK K
        have HA : Hid (Ar (w1.alloc (.cells Tryd.zeroCells79 79)) (w1.heap.size) 79 (fun _ => .int .i64 0)) := hide (arr19 w1 (w1.heap.size) (by simp))
        try simp only [Act.put, List.setIfInBounds_toArray, List.set_cons_zero, List.set_cons_succ]
        refine wpAnyH_ready (rs := [2]) (by kernel_rfl) (by simp) ?_
        refine AllReadyH.cons (o := { dst := some 12, op := Op.makeSlice 25 (Operand.tmp 11) (Operand.tmp 11), type := 25, pos := "moments.go:34", after := #[{ on := 1, ground := Ground.data }, { on := 1, ground := Ground.data }], guard := none }) rfl (fun K hK => ?_) AllReadyH.nil
        go_simp
        have hRB : w.heap.size <= w1.heap.size + 1 := Nat.le_trans hHeld.size (Nat.le_of_eq (by first | rfl | simp))
        refine hK.out _ _ (show Below w.heap.size w _ from (hHeld.alloc hHeld.size (.cells (madeCells #[.int .i64 0] n) 3))) (fun hHeld => ?_)
        clear hK K
        replace HA := hide (HA.out.below (bnew (w1.alloc (.cells Tryd.zeroCells79 79)) (.cells (madeCells #[.int .i64 0] n) 3)))
        have HR : Hid (Rk ((w1.alloc (.cells Tryd.zeroCells79 79)).alloc (.cells (madeCells #[.int .i64 0] n) 3)) (w1.heap.size + 1) 3 n (fun _ => .int .i64 0)) := hide (made19 (w1.alloc (.cells Tryd.zeroCells79 79)) n (w1.heap.size + 1) (by simp))
        try simp only [Act.put, List.setIfInBounds_toArray, List.set_cons_zero, List.set_cons_succ]
        refine take_to (i := 5) (d := 3) (v := ?_) rfl rfl (by kernel_rfl) (by kernel_rfl) (by kernel_rfl) (fun _ _ _ h => h) (Or.inl ⟨by rfl, ?_⟩) (by assumption) ?_
        rotate_left 1
        . intro W hSw
          skip
          go_simp
          with_reducible rfl
        simp only [Act.put, List.setIfInBounds_toArray, List.set_cons_zero, List.set_cons_succ]
        refine wpAnyH_ready (rs := [6]) (by kernel_rfl) (by simp) ?_
        refine AllReadyH.cons (o := { dst := none, op := Op.store 79 (Operand.tmp 4) (Operand.tmp 13), type := 0, pos := "moments.go:34", after := #[{ on := 4, ground := Ground.data }, { on := 3, ground := Ground.data }, { on := 5, ground := Ground.chain }, { on := 0, ground := Ground.phase }, { on := 1, ground := Ground.phase }, { on := 2, ground := Ground.phase }, { on := 3, ground := Ground.phase }, { on := 4, ground := Ground.phase }, { on := 5, ground := Ground.phase }], guard := none }) rfl (fun K hK => ?_) AllReadyH.nil
        rw [if_pos (by rfl)]
        refine wp_store_row _ _ _ rfl _ _ (by rfl) (by rfl) _ _ HA.out (by rw [av_size]; exact infoL) (by rw [av_size, av_size]) (av_one fun _ => rfl) ?_
        refine hK.out _ _ (show Below w.heap.size w _ from Below.row hHeld _ _ hAB) (fun hHeld => ?_)
        clear hK K
        refine wpAnyH_done (by kernel_rfl) ?_ _
        have hne : w1.heap.size + 1 ≠ w1.heap.size := rk_ar HR.out HA.out
        go_wp2_with fail
        go_meet
        case rel => exact ⟨w1.heap.size + 1, w1.heap.size, rfl, rfl, hide (HR.out.of_block (setRow_other _ _ _ _ hne)), hide (setRow_heap _ _ _ _ _ _ HA.out), hne, hRB, hAB, hHeld⟩
    . go_simp
      have hAB : w.heap.size <= w.heap.size := Nat.le_trans hHeld.size (Nat.le_of_eq (by first | rfl | simp))
      refine hK.out _ _ (show Below w.heap.size w _ from (hHeld.alloc hHeld.size (.cells Tryd.zeroCells79 79))) (fun hHeld => ?_)
      clear hK K
      have HA : Hid (Ar (w.drew.alloc (.cells Tryd.zeroCells79 79)) (w.heap.size) 79 (fun _ => .int .i64 0)) := hide (arr19 w.drew (w.heap.size) (by simp))
      try simp only [Act.put, List.setIfInBounds_toArray, List.set_cons_zero, List.set_cons_succ]
      refine wpAnyH_ready (rs := [2, 3]) (by kernel_rfl) (by simp) ?_
      refine AllReadyH.cons (o := { dst := some 12, op := Op.makeSlice 25 (Operand.tmp 11) (Operand.tmp 11), type := 25, pos := "moments.go:34", after := #[{ on := 1, ground := Ground.data }, { on := 1, ground := Ground.data }], guard := none }) rfl (fun K hK => ?_) (AllReadyH.cons (o := { dst := some 13, op := Op.call { callee := Callee.value (Operand.func 49), args := #[], argTypes := #[] }, type := 79, pos := "moments.go:34", after := #[], guard := none }) rfl (fun K hK => ?_) AllReadyH.nil)
      . go_simp
        have hRB : w.heap.size <= w.heap.size + 1 := Nat.le_trans hHeld.size (Nat.le_of_eq (by first | rfl | simp))
        refine hK.out _ _ (show Below w.heap.size w _ from (hHeld.alloc hHeld.size (.cells (madeCells #[.int .i64 0] n) 3))) (fun hHeld => ?_)
        clear hK K
        replace HA := hide (HA.out.below (bnew (w.drew.alloc (.cells Tryd.zeroCells79 79)) (.cells (madeCells #[.int .i64 0] n) 3)))
        have HR : Hid (Rk ((w.drew.alloc (.cells Tryd.zeroCells79 79)).alloc (.cells (madeCells #[.int .i64 0] n) 3)) (w.heap.size + 1) 3 n (fun _ => .int .i64 0)) := hide (made19 (w.drew.alloc (.cells Tryd.zeroCells79 79)) n (w.heap.size + 1) (by simp))
        try simp only [Act.put, List.setIfInBounds_toArray, List.set_cons_zero, List.set_cons_succ]
        refine wpAnyH_ready (rs := [3]) (by kernel_rfl) (by simp) ?_
        refine AllReadyH.cons (o := { dst := some 13, op := Op.call { callee := Callee.value (Operand.func 49), args := #[], argTypes := #[] }, type := 79, pos := "moments.go:34", after := #[], guard := none }) rfl (fun K hK => ?_) AllReadyH.nil
        go_simp
        go_at_call 49
        refine (lNoneMet _).mono ?_
        rintro e w1 ⟨rfl, hb⟩
        replace HR := hide (HR.out.below hb)
        replace HA := hide (HA.out.below hb)
        have hb' := Below.trans hHeld (hb.mono hHeld.size)
        go_wp2_with fail
        refine hK.out _ _ (show Below w.heap.size w w1 from hb') (fun hHeld => ?_)
        clear hK K hb'
        try simp only [Act.put, List.setIfInBounds_toArray, List.set_cons_zero, List.set_cons_succ]
        refine take_to (i := 5) (d := 3) (v := ?_) rfl rfl (by kernel_rfl) (by kernel_rfl) (by kernel_rfl) (fun _ _ _ h => h) (Or.inl ⟨by rfl, ?_⟩) (by assumption) ?_
        rotate_left 1
        . intro W hSw
          skip
          go_simp
          with_reducible rfl
        simp only [Act.put, List.setIfInBounds_toArray, List.set_cons_zero, List.set_cons_succ]
        refine wpAnyH_ready (rs := [6]) (by kernel_rfl) (by simp) ?_
        refine AllReadyH.cons (o := { dst := none, op := Op.store 79 (Operand.tmp 4) (Operand.tmp 13), type := 0, pos := "moments.go:34", after := #[{ on := 4, ground := Ground.data }, { on := 3, ground := Ground.data }, { on := 5, ground := Ground.chain }, { on := 0, ground := Ground.phase }, { on := 1, ground := Ground.phase }, { on := 2, ground := Ground.phase }, { on := 3, ground := Ground.phase }, { on := 4, ground := Ground.phase }, { on := 5, ground := Ground.phase }], guard := none }) rfl (fun K hK => ?_) AllReadyH.nil
        rw [if_pos (by rfl)]
        refine wp_store_row _ _ _ rfl _ _ (by rfl) (by rfl) _ _ HA.out (by rw [av_size]; exact infoL) (by rw [av_size, av_size]) (av_one fun _ => rfl) ?_
        refine hK.out _ _ (show Below w.heap.size w _ from Below.row hHeld _ _ hAB) (fun hHeld => ?_)
        clear hK K
        refine wpAnyH_done (by kernel_rfl) ?_ _
        have hne : w.heap.size + 1 ≠ w.heap.size := rk_ar HR.out HA.out
        go_wp2_with fail
        go_meet
        case rel => exact ⟨w.heap.size + 1, w.heap.size, rfl, rfl, hide (HR.out.of_block (setRow_other _ _ _ _ hne)), hide (setRow_heap _ _ _ _ _ _ HA.out), hne, hRB, hAB, hHeld⟩
      . go_simp
        go_at_call 49
        refine (lNoneMet _).mono ?_
        rintro e w1 ⟨rfl, hb⟩
        replace HA := hide (HA.out.below hb)
        have hb' := Below.trans hHeld (hb.mono hHeld.size)
        go_wp2_with fail
        refine hK.out _ _ (show Below w.heap.size w w1 from hb') (fun hHeld => ?_)
        clear hK K hb'
        try simp only [Act.put, List.setIfInBounds_toArray, List.set_cons_zero, List.set_cons_succ]
        refine wpAnyH_ready (rs := [2]) (by kernel_rfl) (by simp) ?_
        refine AllReadyH.cons (o := { dst := some 12, op := Op.makeSlice 25 (Operand.tmp 11) (Operand.tmp 11), type := 25, pos := "moments.go:34", after := #[{ on := 1, ground := Ground.data }, { on := 1, ground := Ground.data }], guard := none }) rfl (fun K hK => ?_) AllReadyH.nil
        go_simp
        have hRB : w.heap.size <= w1.heap.size := Nat.le_trans hHeld.size (Nat.le_of_eq (by first | rfl | simp))
        refine hK.out _ _ (show Below w.heap.size w _ from (hHeld.alloc hHeld.size (.cells (madeCells #[.int .i64 0] n) 3))) (fun hHeld => ?_)
        clear hK K
        replace HA := hide (HA.out.below (bnew w1 (.cells (madeCells #[.int .i64 0] n) 3)))
        have HR : Hid (Rk (w1.alloc (.cells (madeCells #[.int .i64 0] n) 3)) (w1.heap.size) 3 n (fun _ => .int .i64 0)) := hide (made19 w1 n (w1.heap.size) (by simp))
        try simp only [Act.put, List.setIfInBounds_toArray, List.set_cons_zero, List.set_cons_succ]
        refine take_to (i := 5) (d := 3) (v := ?_) rfl rfl (by kernel_rfl) (by kernel_rfl) (by kernel_rfl) (fun _ _ _ h => h) (Or.inl ⟨by rfl, ?_⟩) (by assumption) ?_
        rotate_left 1
        . intro W hSw
          skip
          go_simp
          with_reducible rfl
        simp only [Act.put, List.setIfInBounds_toArray, List.set_cons_zero, List.set_cons_succ]
        refine wpAnyH_ready (rs := [6]) (by kernel_rfl) (by simp) ?_
        refine AllReadyH.cons (o := { dst := none, op := Op.store 79 (Operand.tmp 4) (Operand.tmp 13), type := 0, pos := "moments.go:34", after := #[{ on := 4, ground := Ground.data }, { on := 3, ground := Ground.data }, { on := 5, ground := Ground.chain }, { on := 0, ground := Ground.phase }, { on := 1, ground := Ground.phase }, { on := 2, ground := Ground.phase }, { on := 3, ground := Ground.phase }, { on := 4, ground := Ground.phase }, { on := 5, ground := Ground.phase }], guard := none }) rfl (fun K hK => ?_) AllReadyH.nil
        rw [if_pos (by rfl)]
        refine wp_store_row _ _ _ rfl _ _ (by rfl) (by rfl) _ _ HA.out (by rw [av_size]; exact infoL) (by rw [av_size, av_size]) (av_one fun _ => rfl) ?_
        refine hK.out _ _ (show Below w.heap.size w _ from Below.row hHeld _ _ hAB) (fun hHeld => ?_)
        clear hK K
        refine wpAnyH_done (by kernel_rfl) ?_ _
        have hne : w1.heap.size ≠ w.heap.size := rk_ar HR.out HA.out
        go_wp2_with fail
        go_meet
        case rel => exact ⟨w1.heap.size, w.heap.size, rfl, rfl, hide (HR.out.of_block (setRow_other _ _ _ _ hne)), hide (setRow_heap _ _ _ _ _ _ HA.out), hne, hRB, hAB, hHeld⟩
  case rest =>
    obtain ⟨gR, gA, rfl, rfl, HR, HA, hne, hRB, hAB, hbw⟩ := hcut
    have HB := hide hbw
    clear hbw mq
    go_wp2_with fail
    go_loopw [5, 6, 8, 9, 16] (fun _ _ _ _ vi wr => ∃ i : Nat, i <= n /\ vi = .int .i64 (i : Int) /\ Hid (Rk wr gR 3 n (fun j => .int .i64 (if j < i then f j else 0))) /\ Hid (Ar wr gA 79 (fun x => .int .i64 (la ops (x : Int) i))) /\ Hid (Below w.heap.size w wr)) (fun _ _ _ _ vi _ => n - (intOf vi).toNat)
    case atStart => exact ⟨0, Nat.zero_le _, rfl, hide (HR.out.congr fun j hj => by rw [if_neg (by omega)]), HA, HB⟩
    case round =>
      clear HR HA HB
      obtain ⟨i, hi, rfl, HR, HA, HB⟩ := hrel
      by_cases h : i < n
      . have hd : decide ((i : Int) < (n : Int)) = true := decide_eq_true (by omega)
        have hkk : (i : Int) < (n : Int) := by omega
        have hin : i < ops.length := by rw [HL.out]; exact h
        obtain ⟨g, off, aq, cq, rfl, hgl0, hoc0⟩ := HO.out.at (oa_some hin)
        have hgl : g < wr.heap.size := Nat.lt_of_lt_of_le hgl0 HB.out.size
        have hwk := HWk.out _ (List.mem_of_getElem? (oa_some hin))
        have c1 := lWires g (off + i * 6) (oa ops i) aq cq hwk wr (hoc0.below HB.out)
        have HC2 : Hid (∀ V, Below w.heap.size w V -> Calls Tryd.prog 51 #[.pointer (some ⟨g, off + i * 6, none⟩)] V fun e w' => e = .returned (.int .i64 (ln (oa ops i))) /\ w' = V) := hide fun V hb => lLength g (off + i * 6) (oa ops i) aq cq V (hoc0.below hb)
        have HAQ : Hid (∀ g off, aq = some ⟨g, off, none⟩ -> (oa ops i).qs ≠ [] -> g ≠ gA) := hide (fun g1 off1 e hq => by
          rcases hoc0.ns with h0 | ⟨g2, off2, e2, h2⟩
          . exact absurd h0 hq
          . rw [e] at e2
            simp only [Option.some.injEq, Addr.mk.injEq] at e2
            obtain ⟨rfl, rfl, -⟩ := e2
            obtain ⟨z, hz⟩ : ∃ z, (oa ops i).qs[0]? = some z := ⟨_, List.getElem?_eq_getElem (List.length_pos_iff.2 hq)⟩
            have h3 : g1 < w.heap.size := World.block_lt_of_cell? _ _ (h2 0 z hz)
            omega)
        have hlr := ln_rng (oa ops i)
        have HMX : Hid (mw ops f i (Lay.wr (oa ops i)) = mx ops f (oa ops i) i) := hide (mw_eq HE.out hin)
        have HFI : Hid (f i = mx ops f (oa ops i) i + ln (oa ops i)) := hide (HE.out i _ (oa_some hin))
        have HWR := hide (wr_rng hwk)
        have HND := hide (wr_nd hwk)
        have hwl := wr_len hwk
        clear hoc0 hwk
        unfold WPost at c1
        have HWD : Hid (Lay.wr (oa ops i) = Lay.wr (oa ops i)) := hide rfl
        generalize hlv : ln (oa ops i) = lv at *
        have HLV := hide hlv
        clear hlv
        obtain ⟨Wl, hWl⟩ : ∃ Wl, Wl = Lay.wr (oa ops i) := ⟨_, rfl⟩
        have HWl := hide hWl
        rw [← hWl] at c1 HMX HWR HND hwl
        clear hWl HWD
        obtain ⟨L, hL⟩ : ∃ L, Wl.length = L := ⟨_, rfl⟩
        have HLL := hide hL
        rw [hL] at c1 hwl
        clear hL
        go_wp2_with (first
          | (go_at_call 50; refine c1.mono ?_; rintro e w1 ⟨aw, cw, rfl, hcw, hNF, hb1⟩; have HNF := hide (hNF gA HA.out.lt HAQ.out); have HR1 := hide (HR.out.below hb1); have HA1 := hide (HA.out.below hb1); have HB1 : Hid (Below w.heap.size w w1) := hide (HB.out.trans (hb1.mono HB.out.size)); clear hNF hb1 c1 HR HA HB))
        go_loopw [6, 8, 9, 24] (fun ve _ _ vj wx => ∃ (j : Nat) (E : Int), j <= L /\ vj = .int .i64 (j : Int) /\ ve = .int .i64 E /\ Hid (E = mw ops f i (Wl.take j)) /\ Hid (Ar wx gA 79 (fun x => .int .i64 (if (x : Int) ∈ Wl.take j then (i : Int) else la ops (x : Int) i))) /\ Hid (Rk wx gR 3 n (fun j => .int .i64 (if j < i then f j else 0))) /\ Hid (NsF wx aw Wl gA) /\ Hid (Below w.heap.size w wx)) (fun _ _ _ vj _ => L - (intOf vj).toNat)
        case atStart => exact ⟨0, 0, Nat.zero_le _, rfl, rfl, hide rfl, hide (HA1.out.congr fun j hj => by simp), HR1, HNF, HB1⟩
        case round =>
          clear HR1 HA1 HB1 HNF
          obtain ⟨j, E, hj, rfl, rfl, HE1, HA1, HR1, HNF, HB1⟩ := hrel
          by_cases h2 : j < L
          . have hd2 : decide ((j : Int) < (L : Int)) = true := decide_eq_true (by omega)
            have hkk2 : (j : Int) < (L : Int) := by omega
            obtain ⟨z, hz⟩ : ∃ z, Wl[j]? = some z := ⟨_, List.getElem?_eq_getElem (by rw [HLL.out]; exact h2)⟩
            have hz128 := HWR.out z (List.mem_of_getElem? hz)
            obtain ⟨x, rfl⟩ : ∃ x : Nat, z = (x : Int) := ⟨z.toNat, by omega⟩
            obtain ⟨g', off', rfl, hc⟩ := ns_cell HNF.out.ns hz
            have hlt' := World.block_lt_of_cell? _ _ hc
            have hnt : (x : Int) ∉ Wl.take j := fun hm => by
              obtain ⟨q, hq, e⟩ := List.mem_take_iff_getElem.1 hm
              obtain ⟨hlt, e2⟩ := List.getElem?_eq_some_iff.1 hz
              exact absurd ((List.getElem_inj HND.out).1 (e.trans e2.symm)) (by omega)
            have hm0 := HA1.out.rk.cell x (by omega)
            have hmf := HA1.out.rk.frozen x
            have hml := HA1.out.lt
            rw [if_neg hnt] at hm0
            have hx1 : (x : Int) < 128 := by omega
            have HA2 : Hid (Ar (wr.setCell ⟨gA, x, none⟩ (.int .i64 (i : Int))) gA 79 (fun y => .int .i64 (if (y : Int) ∈ Wl.take (j + 1) then (i : Int) else la ops (y : Int) i))) := hide ((HA1.out.set x _).congr fun y hy => by
              have ht : (y : Int) ∈ Wl.take (j + 1) ↔ (y : Int) ∈ Wl.take j ∨ y = x := by
                rw [List.take_add_one, hz]
                simp only [Option.toList_some, List.mem_append, List.mem_singleton]
                constructor
                . rintro (h | h)
                  . exact .inl h
                  . exact .inr (by omega)
                . rintro (h | h)
                  . exact .inl h
                  . exact .inr (by omega)
              by_cases e : y = x
              . rw [if_pos e, if_pos (ht.2 (.inr e))]
              . rw [if_neg e]
                congr 1
                by_cases e2 : (y : Int) ∈ Wl.take j
                . rw [if_pos e2, if_pos (ht.2 (.inl e2))]
                . rw [if_neg e2, if_neg (fun h => by rcases ht.1 h with h | h; exact e2 h; exact e h)])
            have HR2 : Hid (Rk (wr.setCell ⟨gA, x, none⟩ (.int .i64 (i : Int))) gR 3 n (fun j => .int .i64 (if j < i then f j else 0))) := hide (HR1.out.of_block (Below.heap_setCell _ _ _ _ hne))
            have HN2 := hide (HNF.out.set x (.int .i64 (i : Int)))
            have HB2 : Hid (Below w.heap.size w (wr.setCell ⟨gA, x, none⟩ (.int .i64 (i : Int)))) := hide (HB1.out.setCell (p := ⟨gA, x, none⟩) hAB _)
            have HMT := hide (mw_take (ops := ops) (f := f) (i := i) hz)
            clear hnt hz
            rcases la_spec ops (x : Int) i with ⟨e1, -⟩ | ⟨kk, hk1, e1, -, -⟩
            . rw [e1] at hm0
              have HE2 : Hid (E = mw ops f i (Wl.take (j + 1))) := hide (by rw [HMT.out, if_pos e1]; exact HE1.out)
              clear e1
              go_wp2_with fail
              exact ⟨⟨j + 1, E, by omega, by go_num, rfl, HE2, HA2, HR2, HN2, HB2⟩, by simp [intOf]; omega⟩
            . rw [e1] at hm0
              have hr0 := HR1.out.cell kk (by omega)
              have hrl := HR1.out.lt
              rw [if_pos hk1] at hr0
              have HE2 : Hid (max E (f kk) = mw ops f i (Wl.take (j + 1))) := hide (by rw [HMT.out, if_neg (by omega), HE1.out, e1, Int.toNat_natCast])
              clear e1
              have hkz : ((kk : Int) == -1) = false := by simp
              have hkn : (kk : Int) < (n : Int) := by omega
              generalize f kk = fk at *
              go_wp2_with fail
              exact ⟨⟨j + 1, _, by omega, by go_num, by split <;> (congr 1; omega), HE2, HA2, HR2, HN2, HB2⟩, by simp [intOf]; omega⟩
          . obtain rfl : L = j := by omega
            have hd2 : decide ((L : Int) < (L : Int)) = false := decide_eq_false (by omega)
            have HE3 : Hid (E = mx ops f (oa ops i) i) := hide (by rw [HE1.out, ← HLL.out, List.take_length]; exact HMX.out)
            have hEr : 0 <= E /\ E <= (i : Int) := by rw [HE3.out]; exact mx_rng HE.out i (by omega)
            have hwa : IntKind.i64.wrap (E + lv) = E + lv := wrapI _ (by omega) (by omega)
            have hr0 := HR1.out.cell i h
            have hrf := HR1.out.frozen i
            have hrl := HR1.out.lt
            have hgl1 : g < wr.heap.size := Nat.lt_of_lt_of_le hgl0 HB1.out.size
            have c2 := HC2.out wr HB1.out
            have HFV : Hid (f i = E + lv) := hide (by rw [HFI.out, HE3.out])
            have HA3 : Hid (Ar (wr.setCell ⟨gR, i, none⟩ (.int .i64 (E + lv))) gA 79 (fun y => .int .i64 (la ops (y : Int) (i + 1)))) := hide ((HA1.out.far (a := ⟨gR, i, none⟩) (fun e => hne e.symm) _).congr fun y hy => by
              rw [← HLL.out, List.take_length, la, HWl.out])
            have HR3 : Hid (Rk (wr.setCell ⟨gR, i, none⟩ (.int .i64 (E + lv))) gR 3 n (fun j => .int .i64 (if j < i + 1 then f j else 0))) := hide ((HR1.out.set i _).congr fun y hy => by
              by_cases e : y = i
              . rw [if_pos e, if_pos (by omega), e, HFV.out]
              . rw [if_neg e]
                congr 1
                split <;> split <;> first | rfl | omega)
            have HB3 : Hid (Below w.heap.size w (wr.setCell ⟨gR, i, none⟩ (.int .i64 (E + lv)))) := hide (HB1.out.setCell (p := ⟨gR, i, none⟩) hRB _)
            go_wp2_with (first
              | (go_at_call 51; refine c2.mono ?_; rintro e w2 ⟨rfl, rfl⟩))
            exact ⟨⟨i + 1, by omega, by go_num, HR3, HA3, HB3⟩, by simp [intOf]; omega⟩
      . obtain rfl : n = i := by omega
        have hd : decide ((n : Int) < (n : Int)) = false := decide_eq_false (by omega)
        have HRF : Hid (Rk wr gR 3 n (fun j => .int .i64 (f j))) := hide (HR.out.congr fun j hj => by rw [if_pos hj])
        go_wp2_with fail
        go_ret
        exact ⟨gR, rfl, HRF.out, hRB, HB.out⟩
attribute [local go_sem] Oper.semAt_some
section
variable {P : Program} {n l : Nat}
theorem op_inR {o : Oper} {a : Act} {w : World} {K : Act -> World -> Prop} {Q : Exit -> Act -> World -> Prop} (hnd : ∀ c, o.op ≠ .defer c) (h : o.wp P a w K Q) : o.wpIn (Fence.wide.inRound l) n P a w K Q := by
  refine ⟨fun _ _ => trivial, ?_⟩
  rw [show (Fence.wide.inRound l).round = some l from rfl, Oper.semAt_some l _ o hnd]
  unfold Oper.wp at h
  generalize (execOp a.eval o).run P w = r at *
  cases r with
  | ok x w' =>
    cases x with
    | value v => exact h
    | skip => exact h
    | defer d => exact h
    | enter f args => exact ⟨fun hd => by simp [Fence.wide] at hd, CallsIn.inRound l (callsIn_wide.2 h)⟩
    | row row args => exact ⟨fun hd => by simp [Fence.wide] at hd, fun c cs _ => by
        obtain ⟨v, w'', hr, hs⟩ := h c cs
        exact ⟨v, w'', hr, by rw [fenced_inRound]; exact stepsIn_wide.2 hs⟩⟩
    | _ => exact absurd h (by simp [Oper.upon])
  | halt x w' => cases x <;> exact h
theorem list_inR {ops : Array Oper} {rest : List Oper} {o : Oper} {a : Act} {w : World} {Q : Exit -> Act -> World -> Prop} (hg : o.guard = none) (hnd : ∀ c, o.op ≠ .defer c) (h : ∀ K : Act -> World -> Prop, (∀ a w, wpListIn (Fence.wide.inRound l) n P ops Q rest a w -> K a w) -> o.wp P a w K Q) : wpListIn (Fence.wide.inRound l) n P ops Q (o :: rest) a w :=
  wpListIn_plain hg fun K hK => op_inR hnd (h K hK)
theorem any_inR {ops : Array Oper} {md : Region.Mode} {Q : Exit -> Act -> World -> Prop} (hnd : ∀ o ∈ ops, ∀ c, o.op ≠ .defer c) : ∀ (fuel : Nat) (listed : Array Bool) (a : Act) (w : World), wpAny P md ops (fun e a w => e ≠ .outgrown /\ Q e a w) fuel listed a w -> wpAnyIn (Fence.wide.inRound l) n P md ops Q fuel listed a w
  | 0, _, _, _, h => ⟨h.1, h.2.2⟩
  | fuel + 1, listed, a, w, h => by
    refine ⟨fun e => (h.1 e).2, fun i hi => ?_⟩
    have h2 := h.2 i hi
    unfold wpOp at h2
    unfold wpOpIn
    cases ho : ops[i]? with
    | none =>
      simp only [ho] at h2 ⊢
      exact any_inR hnd fuel _ a w h2
    | some o =>
      simp only [ho] at h2 ⊢
      split
      . rename_i hw
        simp only [hw, if_true] at h2
        rcases h2 with h2 | ⟨-, a', w', h2, -⟩
        . have h3 : o.wp P a w (wpAnyIn (Fence.wide.inRound l) n P md ops Q fuel (listed.setIfInBounds i true)) Q := by
            have h4 := Oper.wp_mono (fun a w h => any_inR hnd fuel _ a w h) h2
            unfold Oper.wp at h4 ⊢
            generalize (execOp a.eval o).run P w = r at *
            cases r with
            | ok x w' =>
              cases x with
              | enter f args => exact Calls.mono h4 (fun e w'' he => by
                  cases e with
                  | returned v => exact he
                  | panicked c => exact he.2
                  | outgrown => obtain ⟨_, _, hq, _⟩ := he; exact absurd rfl hq)
              | _ => exact h4
            | halt x w' => cases x <;> first | exact h4.2 | exact h4
          exact op_inR (hnd o (Array.mem_of_getElem? ho)) h3
        . exact absurd rfl h2
      . rename_i hw
        simp only [hw] at h2
        exact ⟨fun _ _ => trivial, any_inR hnd fuel _ _ _ h2⟩
theorem region_inR {ops : Array Oper} {Q : Exit -> Act -> World -> Prop} {id : Nat} {a : Act} {w : World} {S : World -> Prop} (hnd : ∀ o ∈ ops, ∀ c, o.op ≠ .defer c) (hm : P.follows .mixedOrders = true) (hS : S w.drew) (h : S w.drew -> wpAnyH P .any ops (fun e a w => e ≠ .outgrown /\ Q e a w) S ops.size (Array.replicate ops.size false) a w.drew) : (Code.region id ops true).wpIn (Fence.wide.inRound l) n P Q a w :=
  wpIn_region_any hm (any_inR hnd _ _ _ _ (wpAny_of_held _ _ _ _ (h hS)))
end
structure It (ops : List COp) (w0 : World) where
  i : Nat
  hi : i < ops.length
  aq : Option Addr
  cq : Nat
  ns : Ns w0 aq (oa ops i).qs
  room : (oa ops i).qs.length <= cq
def It.enc {ops : List COp} {w0 : World} (x : It ops w0) : Array Value := #[.int .i64 (x.i : Int), opV (oa ops x.i) x.aq x.cq]
theorem load_in {F : Fence} {n : Nat} {P : Program} {ops : Array Oper} {rest : List Oper} {o : Oper} {a : Act} {w : World} {Q : Exit -> Act -> World -> Prop} (hro : F.round = none) (hgd : o.guard = none) (ty : TypeId) (x : Operand) (ho : o.op = .load ty x)
    (g off : Nat) (hx : a.eval x = .pointer (some ⟨g, off, none⟩)) (cs : List Value) (d : TypeDesc) (hg : ∀ j v, cs[j]? = some v -> w.cell? ⟨g, off + j, none⟩ = some v)
    (hu : P.underlying ty = some d) (hd : (match d with | .struct _ | .array _ _ => true | _ => false) = true) (hi : (P.info? ty).map (·.size) = some cs.length)
    (h : wpListIn F n P ops Q rest (a.put o.dst (.agg cs.toArray)) w) : wpListIn F n P ops Q (o :: rest) a w :=
  wpListIn_plain hgd fun K hK => by
    refine ⟨fun f hf => by simp [Oper.about, ho] at hf, ?_⟩
    rw [hro, Oper.semAt_none]
    unfold execOp
    simp only [ho, hx, Instr.loadAt, Instr.sureAddr, Sem.run_bind, Sem.run_pure, Result.andThen_ok, run_loadVar_at w g off ty cs d hg hu hd hi]
    exact hK _ _ h
theorem oc_cells6 {w : World} {g off : Nat} {o : COp} {aq : Option Addr} {cq : Nat} (h : Oc w g off o aq cq) : ∀ j v, (opC (o, .slice aq o.qs.length cq))[j]? = some v -> w.cell? ⟨g, off + j, none⟩ = some v := by
  intro j v hv
  match j with
  | 0 => simp [opC] at hv; subst hv; exact h.kind
  | 1 => simp [opC] at hv; subst hv; exact h.gate
  | 2 => simp [opC] at hv; subst hv; exact h.qs
  | 3 => simp [opC] at hv; subst hv; exact h.bit
  | 4 => simp [opC] at hv; subst hv; exact h.cond
  | 5 => simp [opC] at hv; subst hv; exact h.whn
  | j + 6 => simp [opC] at hv
def KB (n0 Bs : Nat) (W W' : World) : Prop := Below n0 W W' /\ W'.heap[Bs]? = W.heap[Bs]?
theorem KB.refl (n0 Bs : Nat) (W : World) : KB n0 Bs W W := ⟨Below.refl _ _, rfl⟩
theorem KB.trans {n0 Bs : Nat} {A B C : World} (h : KB n0 Bs A B) (k : KB n0 Bs B C) : KB n0 Bs A C := ⟨h.1.trans k.1, k.2.trans h.2⟩
theorem KB.put {n0 Bs : Nat} {w : World} (hn : n0 <= w.heap.size) (hB : Bs < w.heap.size) (W : World) (l : Nat) (o o' : Obj) (hl : w.heap.size <= l) (h : W.heap[l]? = some o) (h1 : o.isCells = false) (h2 : o.isWalk = false) : KB n0 Bs W (W.putObj l o') :=
  ⟨belowK_b hn W l o o' hl h h1 h2, (grownBy_putObj' W l o').block Bs (by have := (Array.getElem?_eq_some_iff.1 h).1; omega) (fun e => by cases e; omega)⟩
theorem infoO6 : (Tryd.prog.info? 57).map (·.size) = some 6 := by kernel_rfl
theorem back1_in (F : Fence) (n : Nat) (h1 : F.fn 55) (hro : F.round = none) (hn : 1 <= n) (ops : List COp) (w0 : World) (l Bs : Nat) (ao : Option Addr) (cap : Nat) (hlen : ops.length <= 4096) (hO : OpsIn w0 ao ops) (J Jx : List (It ops w0) -> World -> Prop)
    (hY : ∀ pre x W, J pre W -> pre.length < ops.length -> YieldAt F (n - 1) Tryd.prog l (It.enc x) W fun e W' =>
      (e = .returned (.bool true) /\ J (pre ++ [x]) W' /\ KB w0.heap.size Bs W W') ∨ (e = .returned (.bool false) /\ Jx (pre ++ [x]) W'))
    (W : World) (hW : Below w0.heap.size w0 W) (hBs : W.cell? ⟨Bs, 0, none⟩ = some (.slice ao ops.length cap)) (h0 : J [] W) :
    CallsIn F n Tryd.prog 55 #[.func (.yield l) #[] #[], .pointer (some ⟨Bs, 0, none⟩)] W fun e W' => (∃ v, e = .returned v) /\
      ((∃ ys : List (It ops w0), ys.map It.i = (List.range ops.length).reverse /\ J ys W') ∨ (∃ pre, True /\ Jx pre W')) := by
  obtain ⟨N, hN⟩ : ∃ N, ops.length = N := ⟨_, rfl⟩
  have HN := hide hN
  have HO := hide hO
  have HY := hide hY
  have HBs := hide hBs
  rw [hN] at hlen
  have hb0 := hBs
  rw [hN] at hb0
  clear hN hO hY hBs
  have hwn : IntKind.i64.wrap ((N : Int) - 1) = (N : Int) - 1 := wrapI _ (by omega) (by omega)
  refine callsIn_of_wp Tryd.func55 rfl h1 ?_ hro
  simp only [Tryd.ntmps55, List.size_toArray, List.length_cons, List.length_nil, Nat.reduceAdd, Nat.reduceSub, Array.replicate_succ, Array.replicate_zero, List.push_toArray, List.append_toArray, List.nil_append, List.cons_append]
  gi_wp2
  gi_loopw [3] (fun vi wr => ∃ (k : Nat) (ys : List (It ops w0)), k <= N /\ vi = .int .i64 ((N : Int) - 1 - (k : Int)) /\ Hid (ys.map It.i = ((List.range N).reverse).take k) /\ J ys wr /\ Hid (KB w0.heap.size Bs W wr)) (fun vi _ => ((intOf vi) + 1).toNat)
  case atStart => exact ⟨0, [], Nat.zero_le _, by simp, hide rfl, h0, hide (KB.refl _ _ _)⟩
  case round =>
    obtain ⟨k, ys, hk, rfl, HYs, hJs, HB⟩ := hrel
    have hb1 := (World.cell?_of_block (a := ⟨Bs, 0, none⟩) (w := W) HB.out.2).trans hb0
    have HBW : Hid (Below w0.heap.size w0 wr) := hide (hW.trans HB.out.1)
    by_cases hlt : k < N
    . obtain ⟨i, hi⟩ : ∃ i, i + k + 1 = N := ⟨N - 1 - k, by omega⟩
      have hin : i < ops.length := by rw [HN.out]; omega
      obtain ⟨g, off, aq, cq, rfl, hgl0, hoc0⟩ := HO.out.at (oa_some hin)
      have hgl : g < wr.heap.size := Nat.lt_of_lt_of_le hgl0 HBW.out.size
      have hyl : ys.length = k := by have := congrArg List.length HYs.out; simp at this; omega
      obtain ⟨fn, tmps, assign, body, hy, hR⟩ := HY.out ys ⟨i, hin, aq, cq, hoc0.ns, hoc0.room⟩ wr hJs (by rw [HN.out, hyl]; exact hlt)
      have HC := hide (oc_cells6 (hoc0.below HBW.out))
      have HYs' : Hid ((ys ++ [(⟨i, hin, aq, cq, hoc0.ns, hoc0.room⟩ : It ops w0)]).map It.i = ((List.range N).reverse).take (k + 1)) := hide (by
        have e1 : ((List.range N).reverse)[k]? = some i := by
          rw [List.getElem?_reverse (by simp; omega), List.length_range, List.getElem?_range (by omega)]
          congr 1
          omega
        rw [List.map_append, HYs.out, List.take_add_one, e1]
        rfl)
      have hy2 : (Instr.yield l #[.int .i64 (i : Int), .agg (opC (oa ops i, .slice aq (oa ops i).qs.length cq)).toArray]).run Tryd.prog wr = .ok (.round l fn tmps assign body) wr := hy
      clear hy
      have hkz : (N : Int) - 1 - (k : Int) = (i : Int) := by omega
      rw [hkz]
      have hin2 : (i : Int) < (N : Int) := by omega
      have hw1 : IntKind.i64.wrap ((i : Int) - 1) = (i : Int) - 1 := wrapI _ (by omega) (by omega)
      have HHI := hide hi
      clear hi hyl hkz
      gi_wp2_with (refine load_in hro rfl _ _ rfl g (off + i * 6) (by rfl) _ _ HC.out Tryd.underlying57 rfl (by exact infoO6) ?_)
      refine hR.mono ?_
      rintro e W3 (⟨rfl, hJ3, hk3⟩ | ⟨rfl, hJx3⟩)
      . gi_wp2
        go_roundw
        case rel => exact ⟨k + 1, _, by have := HHI.out; omega, by have := HHI.out; congr 1; omega, HYs', hJ3, hide (HB.out.trans hk3)⟩
        case measure => simp [intOf]
      . gi_wp2
        refine bodyPost_ret (results_none rfl _ _ _) rfl ?_
        exact ⟨⟨_, rfl⟩, .inr ⟨_, trivial, hJx3⟩⟩
    . obtain rfl : k = N := by omega
      have hd : decide ((k : Int) - 1 - (k : Int) ≥ 0) = false := decide_eq_false (by omega)
      gi_wp2
      go_end0
      exact ⟨⟨_, rfl⟩, .inl ⟨ys, by rw [HYs.out, HN.out, List.take_of_length_le (by simp)], hJs⟩⟩
theorem alloc_setRow (w : World) (z cs : Array Value) (t : TypeId) : (w.alloc (.cells z t)).setRow w.heap.size cs = w.alloc (.cells cs t) := by
  unfold World.setRow World.alloc
  congr 1
  apply Array.ext_getElem?
  intro k
  rw [Array.getElem?_modify, Array.getElem?_push, Array.getElem?_push]
  by_cases e : k = w.heap.size
  . subst e
    simp
  . rw [if_neg e, if_neg (fun h => e h.symm)]
    simp [e]
theorem back_stops (F : Fence) (n : Nat) (h1 : F.fn 55) (hro : F.round = none) (hn : 1 <= n) (ops : List COp) (w0 : World) (Bs : Nat) (ao : Option Addr) (cap : Nat) (hlen : ops.length <= 4096) (hO : OpsIn w0 ao ops) (w : World) (hw : Below w0.heap.size w0 w) (hB : Bs < w.heap.size) (hBs : w.cell? ⟨Bs, 0, none⟩ = some (.slice ao ops.length cap)) :
    SeqStopsK F n Tryd.prog 55 #[.pointer (some ⟨Bs, 0, none⟩)] (It.enc (ops := ops) (w0 := w0)) (KB w0.heap.size Bs) (fun ys => ys.map It.i = (List.range ops.length).reverse) (fun _ => True) ops.length w :=
  fun l J Jx W hW _ _ hY h0 => back1_in F n h1 hro hn ops w0 l Bs ao cap hlen hO J Jx hY W (hw.trans (hW.mono hw.size)) ((hW.cell (p := ⟨Bs, 0, none⟩) hB).trans hBs) h0
attribute [local go_sem] Oper.semAt_some
structure RI (w : World) (gM gL : Nat) (s : (Int -> Bool) × List Int) (W : World) : Prop where
  mat : Ar W gM 63 (fun x => .bool (s.1 (x : Int)))
  box : ∃ ao c, W.heap[gL]? = some (.cells #[.slice ao s.2.length c] 25 (0, 0)) /\ W.ownsRow w.heap.size 3 1 (.slice ao s.2.length c) s.2.length (s.2.map (Value.int .i64))
  bel : Below w.heap.size w W
theorem RI.kept {w : World} {gM gL : Nat} {s : (Int -> Bool) × List Int} {W W' : World} (h : RI w gM gL s W) (hk : ∀ (g : Nat) (cs : Array Value) (t : TypeId) (fr : Nat × Nat), W.heap[g]? = some (Obj.cells cs t fr) -> W'.heap[g]? = W.heap[g]?) (hb : Below w.heap.size w W') : RI w gM gL s W' := by
  obtain ⟨ao, c, h1, h2⟩ := h.box
  refine ⟨h.mat.of_block (hk _ _ _ _ h.mat), ⟨ao, c, (hk _ _ _ _ h1).trans h1, own_of_block h2 fun k hk' => ?_⟩, hb⟩
  obtain ⟨cs, fr, hg⟩ := own_cells' h2 hk'
  exact hk _ _ _ _ hg
theorem ri_own {β : Type} (w : World) (gM gL : Nat) (f : β -> (Int -> Bool) × List Int) (B : Nat) (hB : w.heap.size <= B) : OwnFrom B (fun (s : β) W => RI w gM gL (f s) W) := fun s W W' row hs hg hr =>
  hs.kept (fun g cs t fr hgc => hg.block g (Array.getElem?_eq_some_iff.1 hgc).1 (fun e => by
    obtain ⟨-, o, ho, hc⟩ := hr g e.symm
    rw [hgc] at ho
    cases ho
    cases hc)) (hs.bel.grown hg hs.bel.size (fun k e => Nat.le_trans hB (hr k e).1))
theorem wp_app1 {o : Oper} {a : Act} {K : Act -> World -> Prop} {Q : Exit -> Act -> World -> Prop} {w : World} (s x : Operand)
    (ho : o.op = .call { callee := .builtin .append, args := #[s, x], argTypes := #[25, 25] }) {B n c : Nat} {ao : Option Addr} {l : List Int} (hR : w.ownsRow B 3 1 (.slice ao n c) n (l.map (Value.int .i64))) (hB : B <= w.heap.size) (H : Nat) (z : Int) (hz : w.cell? ⟨H, 0, none⟩ = some (.int .i64 z)) (hn : n <= 1000000000) (hs : a.eval s = .slice ao n c) (hx : a.eval x = .slice (some ⟨H, 0, none⟩) 1 1)
    (h : ∀ g cap w', w'.ownsRow B 3 1 (.slice (some ⟨g, 0, none⟩) (n + 1) cap) (n + 1) ((l ++ [z]).map (Value.int .i64)) -> w.grownBy w' (ob ao) -> (ob ao = some g ∨ w.heap.size <= g) -> K (a.put o.dst (.slice (some ⟨g, 0, none⟩) (n + 1) cap)) w') : o.wp Tryd.prog a w K Q := by
  obtain ⟨i0, hi, hz0, hz1, hz2⟩ := info_parts Gt.infoI
  refine wp_append_lies w s x 25 ho B 3 i0 _ 1 8 Tryd.underlying25 hi hz0 hz1 hz2 rfl (by decide) _ n _ hs hR ⟨H, 0, none⟩ 1 1 [.int .i64 z] hx rfl (fun j u hu => by
    cases j with
    | zero => simp at hu; subst hu; rw [Addr.add_lit]; exact hz
    | succ j => simp at hu) (by simp [Value.oneCell']) (by decide) (by unfold maxLen; omega) (by omega) hB _ rfl ?_
  intro g cap w' ho' hg hat _
  rw [ob_eq] at hg hat
  refine h g cap w' (by rw [List.map_append]; exact ho') hg ?_
  rcases hat with e | e
  . exact .inl e
  . right; omega
theorem own_cells_k {w w' : World} {B : Nat} {ao : Option Addr} {n c : Nat} {xs : List Value} (h : w.ownsRow B 3 1 (.slice ao n c) n xs) (hg : w.grownBy w' (ob ao)) : KeepsOthers w w' :=
  KeepsOthers.of_grownBy hg (fun j _ e ho => by
    obtain ⟨cs, fr, hc⟩ := own_cells' h e
    rw [hc] at ho
    cases ho
    rfl)
theorem nsf_grown {w w' : World} {ao : Option Addr} {l : List Int} {m : Nat} {r : Option Nat} (hg : w.grownBy w' r) (h : NsF w ao l m) (h2 : ∀ m', r = some m' -> NsF w ao l m') : NsF w' ao l m := by
  by_cases hl : l = []
  . exact .inl hl
  . rcases h with h | ⟨g, off, e, hgm, h⟩
    . exact absurd h hl
    . refine .inr ⟨g, off, e, hgm, fun j z hz => ?_⟩
      have hc := h j z hz
      refine (World.cell?_of_block (w := w) (hg.block g (World.block_lt_of_cell? _ _ hc) (fun e1 => ?_))).trans hc
      . rcases h2 g e1.symm with h3 | ⟨g2, off2, e2, hg2, -⟩
        . exact absurd h3 hl
        . rw [e] at e2
          simp only [Option.some.injEq, Addr.mk.injEq] at e2
          exact hg2 e2.1.symm
theorem nsf_other {w : World} {ao : Option Addr} {l : List Int} {m b : Nat} (h : NsF w ao l m) (h2 : NsF w ao l b) (i : Nat) (v : Value) : NsF (w.setCell ⟨b, i, none⟩ v) ao l m := by
  by_cases hl : l = []
  . exact .inl hl
  . rcases h with h | ⟨g, off, e, hgm, h⟩
    . exact absurd h hl
    . rcases h2 with h3 | ⟨g2, off2, e2, hg2, -⟩
      . exact absurd h3 hl
      . rw [e] at e2
        simp only [Option.some.injEq, Addr.mk.injEq] at e2
        obtain ⟨rfl, rfl, -⟩ := e2
        exact .inr ⟨g, off, e, hgm, fun j z hz => (World.cell?_of_block (w := w) (Below.heap_setCell _ _ _ _ hg2)).trans (h j z hz)⟩
theorem keeps_below {w w' : World} (h : Below w.heap.size w w') : KeepsOthers w w' := ⟨h.size, fun k _ hk _ => (h.block k (Array.getElem?_eq_some_iff.1 hk).1).trans hk⟩
def pl {ops : List COp} {w0 : World} (l : List (It ops w0)) : List (Nat × COp) := l.map fun x => (x.i, oa ops x.i)
theorem reach_mid {w W w1 : World} {M1 : Int -> Bool} {L1 : List Int} {o : COp} {aq aw : Option Addr} (hRI : RI w w.heap.size (w.heap.size + 1) (M1, L1) W) (hb1 : Below W.heap.size W w1)
    (hNA : ∀ m, m < W.heap.size -> (∀ g off, aq = some ⟨g, off, none⟩ -> o.qs ≠ [] -> g ≠ m) -> NsF w1 aw (wr o) m) (hAQ : ∀ m, w.heap.size <= m -> ∀ g off, aq = some ⟨g, off, none⟩ -> o.qs ≠ [] -> g ≠ m) (hLN : L1.length <= 1000000) :
    ∃ nL, (L1.length = nL /\ nL <= 1000000) /\ ∃ ao c, w1.heap[w.heap.size + 1]? = some (.cells #[.slice ao nL c] 25 (0, 0)) /\ w1.ownsRow w.heap.size 3 1 (.slice ao nL c) nL (L1.map (Value.int .i64)) /\ Hid (NsF w1 aw (wr o) w.heap.size /\ NsF w1 aw (wr o) (w.heap.size + 1)) /\ Hid (∀ m', ob ao = some m' -> NsF w1 aw (wr o) m') /\ w1.cell? ⟨w.heap.size + 1, 0, none⟩ = some (.slice ao nL c) /\ w1.frozen? ⟨w.heap.size + 1, 0, none⟩ = false := by
  have hR1 : RI w w.heap.size (w.heap.size + 1) (M1, L1) w1 := hRI.kept (fun g cs t fr hg => hb1.block g (Array.getElem?_eq_some_iff.1 hg).1) (hRI.bel.trans (hb1.mono hRI.bel.size))
  obtain ⟨ao0, c0, hb0, hO0⟩ := hRI.box
  obtain ⟨ao, c, hb, hO⟩ := hR1.box
  have hk := (hb1.block _ (Array.getElem?_eq_some_iff.1 hb0).1).trans hb0
  rw [hb] at hk
  simp only [Option.some.injEq, Obj.cells.injEq, Array.mk.injEq, List.cons.injEq, Value.slice.injEq, and_true, true_and] at hk
  obtain ⟨rfl, rfl⟩ := hk
  refine ⟨L1.length, ⟨rfl, hLN⟩, ao, c, hb, hO, hide ⟨hNA _ hRI.mat.lt (hAQ _ (Nat.le_refl _)), hNA _ (Array.getElem?_eq_some_iff.1 hb0).1 (hAQ _ (by omega))⟩, hide (fun m' e => ?_), ?_, ?_⟩
  . have hl := own_lt hO0 m' e
    exact hNA m' hl.2 (hAQ m' hl.1)
  . exact cell_of_row _ _ 0 _ _ _ hb
  . simp [World.frozen?, hb]
theorem reach_app {w W w1 w6 : World} {M1 : Int -> Bool} {L1 : List Int} {o : COp} {aw ao : Option Addr} {nL c g6 c6 : Nat} {z : Int} (hRI : RI w w.heap.size (w.heap.size + 1) (M1, L1) W) (hb1 : Below W.heap.size W w1)
    (hB : w1.heap[w.heap.size + 1]? = some (.cells #[.slice ao nL c] 25 (0, 0))) (hO : w1.ownsRow w.heap.size 3 1 (.slice ao nL c) nL (L1.map (Value.int .i64))) (hN : NsF w1 aw (wr o) w.heap.size /\ NsF w1 aw (wr o) (w.heap.size + 1)) (hNO : ∀ m', ob ao = some m' -> NsF w1 aw (wr o) m')
    (hown : w6.ownsRow w.heap.size 3 1 (.slice (some ⟨g6, 0, none⟩) (nL + 1) c6) (nL + 1) ((L1 ++ [z]).map (Value.int .i64))) (hgr : (w1.alloc (.cells #[.int .i64 z] 3)).grownBy w6 (ob ao)) :
    w6.cell? ⟨w.heap.size + 1, 0, none⟩ = some (.slice ao nL c) /\ w6.frozen? ⟨w.heap.size + 1, 0, none⟩ = false /\ ∃ w7, w7 = w6.setCell ⟨w.heap.size + 1, 0, none⟩ (.slice (some ⟨g6, 0, none⟩) (nL + 1) c6) /\ Hid (Ar w7 w.heap.size 63 (fun y => .bool (M1 (y : Int)))) /\ Hid (w7.heap[w.heap.size + 1]? = some (.cells #[.slice (some ⟨g6, 0, none⟩) (nL + 1) c6] 25 (0, 0))) /\ Hid (w7.ownsRow w.heap.size 3 1 (.slice (some ⟨g6, 0, none⟩) (nL + 1) c6) (nL + 1) ((L1 ++ [z]).map (Value.int .i64))) /\ Hid (NsF w7 aw (wr o) w.heap.size) /\ Hid (KeepsOthers W w7) /\ Hid (Below w.heap.size W w7) := by
  have hnew := bnew w1 (.cells #[.int .i64 z] 3)
  have hO3 := hO.alloc (.cells #[.int .i64 z] 3)
  have hm1 := hRI.mat.below hb1
  have hm3 := hm1.below hnew
  have hB3 := (hnew.block _ (Array.getElem?_eq_some_iff.1 hB).1).trans hB
  have hm6 : Ar w6 w.heap.size 63 (fun y => .bool (M1 (y : Int))) := hm3.of_block (hgr.block _ hm3.lt (fun e => own_ne hO3 hm3 (by decide) e.symm))
  have hB6 : w6.heap[w.heap.size + 1]? = some (.cells #[.slice ao nL c] 25 (0, 0)) := (hgr.block _ (Array.getElem?_eq_some_iff.1 hB3).1 (fun e => own_ne hO3 hB3 (by decide) e.symm)).trans hB3
  have hN6 : NsF w6 aw (wr o) w.heap.size /\ NsF w6 aw (wr o) (w.heap.size + 1) := ⟨nsf_grown hgr (hN.1.below hnew) (fun m' e => (hNO m' e).below hnew), nsf_grown hgr (hN.2.below hnew) (fun m' e => (hNO m' e).below hnew)⟩
  have hbW : Below w.heap.size W w6 := ((hb1.mono hRI.bel.size).trans (hnew.mono (Nat.le_trans hRI.bel.size hb1.size))).grown hgr (by rw [World.size_alloc]; have := hRI.bel.size; have := hb1.size; omega) (fun k e => (own_lt hO3 k e).1)
  refine ⟨cell_of_row _ _ 0 _ _ _ hB6, by simp [World.frozen?, hB6], _, rfl, hide (hm6.far (a := ⟨w.heap.size + 1, 0, none⟩) (by simp) _), hide ?_, hide (own_of_block hown fun k hk => Below.heap_setCell _ _ _ _ (fun e => ?_)), hide (nsf_other hN6.1 hN6.2 _ _), hide (((keeps_below hb1).trans (KeepsOthers.alloc _ _)).trans ((own_cells_k hO3 hgr).trans (KeepsOthers.setCell _ _ _))), hide (hbW.setCell (p := ⟨w.heap.size + 1, 0, none⟩) (by simp) _)⟩
  . rw [setCell_eq_setRow _ _ _ _ _ _ _ hB6, setRow_heap _ _ _ _ _ _ hB6]
    rfl
  . obtain ⟨cs, fr, hc⟩ := own_cells' hown hk
    have e2 : k = w.heap.size + 1 := e
    rw [e2, hB6] at hc
    simp at hc
theorem lReached (ops : List COp) (hWk : ∀ o ∈ ops, Wk o) (w0 : World) (gf Bs : Nat) (M : Int -> Bool) (S : List (It ops w0) -> Prop) (w : World) (hB : Bs < w.heap.size) (hw : Below w0.heap.size w0 w) (hlen : ops.length <= 4096) (hen : ∀ args w, (callFunc gf args).run Tryd.prog w = .ok (.enter gf args) w)
    (hseq : ∀ V, Below w.heap.size w V -> SeqStopsK Fence.wide 2 Tryd.prog gf #[.pointer (some ⟨Bs, 0, none⟩)] (It.enc (ops := ops) (w0 := w0)) (KB w0.heap.size Bs) S (fun _ => True) ops.length V) :
    Calls Tryd.prog 35 #[.func (.func gf) #[] #[.pointer (some ⟨Bs, 0, none⟩)], .agg (av fun x => .bool (M (x : Int)))] w fun e w' => ∃ ys ao c, S ys /\ e = .returned (.slice ao (cn M (pl ys)).2.length c) /\ w'.ownsRow w.heap.size 3 1 (.slice ao (cn M (pl ys)).2.length c) (cn M (pl ys)).2.length ((cn M (pl ys)).2.map (Value.int .i64)) /\ Below w.heap.size w w' := by
  refine (callsIn_wide (n := 3)).1 ?_
  refine callsIn_of_wp_marks Tryd.func35 rfl trivial ?_ rfl
  simp only [Tryd.ntmps35, List.size_toArray, List.length_cons, List.length_nil, Nat.reduceAdd, Nat.reduceSub, Array.replicate_succ, Array.replicate_zero, List.push_toArray, List.append_toArray, List.nil_append, List.cons_append]
  gi_wp2
  have HWk := hide hWk
  clear hWk
  have hB0 : Below w.heap.size w ((w.alloc (.cells (av fun x => .bool (M (x : Int))) 63)).alloc (.cells #[.slice none 0 0] 25)) := (bnew _ _).trans ((bnew _ _).mono (by simp))
  have hM0 : Ar ((w.alloc (.cells (av fun x => .bool (M (x : Int))) 63)).alloc (.cells #[.slice none 0 0] 25)) w.heap.size 63 (fun x => .bool (M (x : Int))) := Ar.below (w := w.alloc (.cells (av fun x => .bool (M (x : Int))) 63)) (heap_alloc_new _ _) (bnew _ _)
  have hL0 : ((w.alloc (.cells (av fun x => .bool (M (x : Int))) 63)).alloc (.cells #[.slice none 0 0] 25)).heap[w.heap.size + 1]? = some (.cells #[.slice none 0 0] 25 (0, 0)) := by
    have := heap_alloc_new (w.alloc (.cells (av fun x => .bool (M (x : Int))) 63)) (.cells #[.slice none 0 0] 25)
    rw [World.size_alloc] at this
    exact this
  have hsz : ((w.alloc (.cells (av fun x => .bool (M (x : Int))) 63)).alloc (.cells #[.slice none 0 0] 25)).heap.size = w.heap.size + 2 := by simp
  generalize ((w.alloc (.cells (av fun x => .bool (M (x : Int))) 63)).alloc (.cells #[.slice none 0 0] 25)) = W0 at *
  refine wpIn_rangeFunc_ownH rfl (by omega) (gf := gf) (lb := #[.pointer (some ⟨Bs, 0, none⟩)]) rfl trivial hen (hseq W0 hB0) KB.trans (KB.put (by have := hw.size; omega) (by omega)) (Below.refl _ _) (fun _ => rfl)
    (fun pre W => RI w w.heap.size (w.heap.size + 1) (cn M (pl pre)) W)
    (fun _ _ _ => False)
    (ri_own w _ _ _ _ (by omega))
    (fun _ _ _ _ _ hs _ _ => hs)
    ⟨hM0, ⟨none, 0, hL0, World.ownsRow_nil _ _ _ _⟩, hB0⟩
    (fun x a' W => ∃ Bx, w.heap.size <= Bx /\ W.heap[Bx]? = some (.cells (opC (oa ops x.i, .slice x.aq (oa ops x.i).qs.length x.cq)).toArray 57 (0, 0)) /\ a' = { tmps := #[.func (.func gf) #[] #[.pointer (some ⟨Bs, 0, none⟩)], .agg (av fun x => .bool (M (x : Int))), undef, .pointer (some ⟨w.heap.size, 0, none⟩), .slice none 0 0, .pointer (some ⟨w.heap.size + 1, 0, none⟩), .int .i64 (x.i : Int), .pointer (some ⟨Bx, 0, none⟩), undef, undef, undef, .func (.func gf) #[] #[.pointer (some ⟨Bs, 0, none⟩)], .int .i64 (x.i : Int), opV (oa ops x.i) x.aq x.cq, undef, undef, undef, undef, undef, undef, undef, undef, undef, undef, undef, undef, undef, undef, undef, undef, undef, undef, undef, undef, undef, undef, undef], defers := [] })
    (fun x a' _ X Y row hs hg hr => by
      obtain ⟨Bx, h1, h2, h3⟩ := hs
      exact ⟨Bx, h1, (hg.block Bx (Array.getElem?_eq_some_iff.1 h2).1 (fun e => by
        obtain ⟨-, o, ho, hc⟩ := hr Bx e.symm
        rw [h2] at ho
        cases ho
        cases hc)).trans h2, h3⟩)
    ?assign ?body ?done ?stop
  case assign =>
    rintro l pre x W K hRI hK
    have hk := hK { tmps := #[.func (.func gf) #[] #[.pointer (some ⟨Bs, 0, none⟩)], .agg (av fun x => .bool (M (x : Int))), undef, .pointer (some ⟨w.heap.size, 0, none⟩), .slice none 0 0, .pointer (some ⟨w.heap.size + 1, 0, none⟩), .int .i64 (x.i : Int), .pointer (some ⟨W.heap.size, 0, none⟩), undef, undef, undef, .func (.func gf) #[] #[.pointer (some ⟨Bs, 0, none⟩)], .int .i64 (x.i : Int), opV (oa ops x.i) x.aq x.cq, undef, undef, undef, undef, undef, undef, undef, undef, undef, undef, undef, undef, undef, undef, undef, undef, undef, undef, undef, undef, undef, undef, undef], defers := [] } (W.alloc (.cells (opC (oa ops x.i, .slice x.aq (oa ops x.i).qs.length x.cq)).toArray 57)) ((KeepsOthers.alloc _ _).from _) ⟨(Below.refl _ W).alloc (Nat.le_trans hw.size hRI.bel.size) _, Below.heap_alloc W _ Bs (Nat.lt_of_lt_of_le hB hRI.bel.size)⟩ (hRI.kept (fun g cs t fr h => Below.heap_alloc W _ g (Array.getElem?_eq_some_iff.1 h).1) (hRI.bel.alloc hRI.bel.size _)) ⟨W.heap.size, hRI.bel.size, heap_alloc_new W _, rfl⟩
    clear hK
    unfold It.enc
    gi_wp2_with (refine list_inR rfl (by simp) (fun K hK => wp_store_row _ _ _ rfl W.heap.size (opC (oa ops x.i, .slice x.aq (oa ops x.i).qs.length x.cq)).toArray (by rfl) (by rfl) _ _ (heap_alloc_new W _) (by exact infoO6) (by rfl) (by simp [opC, Value.oneCell']) (hK _ _ ?_)); rw [alloc_setRow])
    exact hk
  case body =>
    rintro l pre x a' W hl ⟨r, hr⟩ hRI ⟨Bx, hBx, hbx, rfl⟩ hlt
    have hwk := HWk.out _ (List.mem_of_getElem? (oa_some x.hi))
    have hBW : Below w0.heap.size w0 W := hw.trans (hRI.bel.mono hw.size)
    have hoc : Oc W Bx 0 (oa ops x.i) x.aq x.cq := by
      have hc := fun j => cell_of_row W Bx j _ _ _ hbx
      exact ⟨hc 0, hc 1, hc 2, hc 3, hc 4, hc 5, x.room, x.ns.below hBW⟩
    have c1 := lWires Bx 0 _ _ _ hwk W hoc
    unfold WPost at c1
    have HAQ : Hid (∀ m, w.heap.size <= m -> ∀ g off, x.aq = some ⟨g, off, none⟩ -> (oa ops x.i).qs ≠ [] -> g ≠ m) := hide (fun m hm g1 off1 e hq => by
      rcases x.ns with h0 | ⟨g2, off2, e2, h2⟩
      . exact absurd h0 hq
      . rw [e] at e2
        simp only [Option.some.injEq, Addr.mk.injEq] at e2
        obtain ⟨rfl, rfl, -⟩ := e2
        obtain ⟨z, hz⟩ : ∃ z, (oa ops x.i).qs[0]? = some z := ⟨_, List.getElem?_eq_getElem (List.length_pos_iff.2 hq)⟩
        have h3 : g1 < w0.heap.size := World.block_lt_of_cell? _ _ (h2 0 z hz)
        have := hw.size
        omega)
    have HSn : Hid (cn M (pl (pre ++ [x])) = if hit (cn M (pl pre)).1 (oa ops x.i) then (fun y => (cn M (pl pre)).1 y || decide (y ∈ wr (oa ops x.i)), (cn M (pl pre)).2 ++ [(x.i : Int)]) else cn M (pl pre)) := hide (by unfold pl; rw [List.map_append]; exact cn_snoc _ _ _)
    have HLN : Hid ((cn M (pl pre)).2.length <= 1000000) := hide (by
      have := cn_len M (pl pre)
      have h2 : (pl pre).length = pre.length := by unfold pl; simp
      omega)
    have HKd := hide hoc.kind
    have hxi := x.hi
    have HLX : Hid (x.i < 4096) := hide (by omega)
    have HWR := hide (wr_rng hwk)
    have hwl := wr_len hwk
    obtain ⟨o, ho⟩ : ∃ o, o = oa ops x.i := ⟨_, rfl⟩
    rw [← ho] at c1 HAQ HSn HKd HWR hwl hbx
    clear hoc hwk ho hxi
    obtain ⟨st, hst⟩ : ∃ st, st = cn M (pl pre) := ⟨_, rfl⟩
    rw [← hst] at hRI HSn HLN
    clear hst
    obtain ⟨M1, L1⟩ := st
    simp only at HSn HLN
    have HRI := hide hRI
    have hszW := hRI.bel.size
    obtain ⟨L, hL⟩ : ∃ L, (Lay.wr o).length = L := ⟨_, rfl⟩
    have HLL := hide hL
    rw [hL] at c1 hwl
    clear hL hRI hBW hM0 hL0
    by_cases e4 : o.kind = 4
    . have HS2 : Hid (cn M (pl (pre ++ [x])) = (M1, L1)) := hide (by rw [HSn.out, if_neg]; unfold hit; simp [e4])
      gi_wp2_with (first
        | (refine ⟨trivial, ?_⟩; gi_at_call 50; refine (CallsIn.inRound l (callsIn_wide.2 c1)).mono ?_; rintro e w1 ⟨aw, cw, rfl, hcw, hNF, hb1⟩; have hkd := (hb1.cell (p := ⟨Bx, 0, none⟩) (World.block_lt_of_cell? _ _ HKd.out)).trans HKd.out; rw [e4] at hkd; have HB1 := hide hb1; clear hb1 hNF c1))
      refine ⟨trivial, ?_⟩
      gi_wp2
      have hb1 := HB1.out
      exact ⟨(keeps_below hb1).from _, ⟨hb1.mono (Nat.le_trans hw.size hszW), hb1.block Bs (Nat.lt_of_lt_of_le hB hszW)⟩, by show RI w w.heap.size (w.heap.size + 1) (cn M (pl (pre ++ [x]))) _; rw [HS2.out]; exact HRI.out.kept (fun g cs t fr hg => hb1.block g (Array.getElem?_eq_some_iff.1 hg).1) (HRI.out.bel.trans (hb1.mono hszW))⟩
    . have e5 : (o.kind == 4) = false := by simpa using e4
      cases ha : (Lay.wr o).any M1 with
      | false =>
        have HS2 : Hid (cn M (pl (pre ++ [x])) = (M1, L1)) := hide (by rw [HSn.out, if_neg]; unfold hit; simp [e4, ha])
        gi_wp2_with (first
          | (refine ⟨trivial, ?_⟩; gi_at_call 50; refine (CallsIn.inRound l (callsIn_wide.2 c1)).mono ?_; rintro e w1 ⟨aw, cw, rfl, hcw, hNF, hb1⟩; have hkd := (hb1.cell (p := ⟨Bx, 0, none⟩) (World.block_lt_of_cell? _ _ HKd.out)).trans HKd.out; have c2 := lSome M1 w.heap.size (Lay.wr o) aw cw HWR.out (by rw [HLL.out]; omega) w1 (HRI.out.mat.below hb1).rk (hNF w.heap.size (by have := HRI.out.mat.lt; exact this) (HAQ.out _ (Nat.le_refl _))).ns; rw [HLL.out, ha] at c2; have HB1 := hide hb1; clear hb1 hNF c1)
          | (refine ⟨trivial, ?_⟩; gi_at_call 54; refine (CallsIn.inRound l (callsIn_wide.2 c2)).mono ?_; rintro e w2 ⟨rfl, rfl⟩))
        have hb1 := HB1.out
        exact ⟨(keeps_below hb1).from _, ⟨hb1.mono (Nat.le_trans hw.size hszW), hb1.block Bs (Nat.lt_of_lt_of_le hB hszW)⟩, by show RI w w.heap.size (w.heap.size + 1) (cn M (pl (pre ++ [x]))) _; rw [HS2.out]; exact HRI.out.kept (fun g cs t fr hg => hb1.block g (Array.getElem?_eq_some_iff.1 hg).1) (HRI.out.bel.trans (hb1.mono hszW))⟩
      | true =>
        have HS2 : Hid (cn M (pl (pre ++ [x])) = (fun y => M1 y || decide (y ∈ Lay.wr o), L1 ++ [(x.i : Int)])) := hide (by rw [HSn.out, if_pos]; unfold hit; simp [e4, ha])
        gi_wp2_with (first
          | (refine ⟨trivial, ?_⟩; gi_at_call 50; refine (CallsIn.inRound l (callsIn_wide.2 c1)).mono ?_; rintro e w1 ⟨aw, cw, rfl, hcw, hNF, hb1⟩; have hkd := (hb1.cell (p := ⟨Bx, 0, none⟩) (World.block_lt_of_cell? _ _ HKd.out)).trans HKd.out; have c2 := lSome M1 w.heap.size (Lay.wr o) aw cw HWR.out (by rw [HLL.out]; omega) w1 (HRI.out.mat.below hb1).rk (hNF w.heap.size (by have := HRI.out.mat.lt; exact this) (HAQ.out _ (Nat.le_refl _))).ns; rw [HLL.out, ha] at c2; have HNA := hide hNF; have HB1 := hide hb1; clear hb1 hNF c1)
          | (refine ⟨trivial, ?_⟩; gi_at_call 54; refine (CallsIn.inRound l (callsIn_wide.2 c2)).mono ?_; rintro e w2 ⟨rfl, rfl⟩; clear c2; obtain ⟨nL, hnL, ao, c, hb, hO, HNF, HNO, hbc, hbf⟩ := reach_mid HRI.out HB1.out HNA.out HAQ.out HLN.out; have HO := hide hO; have HBX := hide hb; have HNL := hide hnL.1; have hnLm := hnL.2; clear hO hb hnL)
          | (refine list_inR rfl (by simp) (fun K hK => wp_app1 (.tmp 23) (.tmp 25) rfl (HO.out.alloc _) (by rw [World.size_alloc]; have := HB1.out.size; omega) w2.heap.size (x.i : Int) (cell_of_row _ _ _ _ _ _ (heap_alloc_new w2 _)) (by omega) (by rfl) (by rfl) ?_); intro g6 c6 w6 hown hgr hat; refine hK _ _ ?_; clear hK K; obtain ⟨hb6, hf6, w7, e7, HM7, HB7, HO7, HN7, HK7, HW7⟩ := reach_app HRI.out HB1.out HBX.out HO.out HNF.out HNO.out hown hgr; clear hown hgr hat HBX HO HNF HNO HNA HB1 hbc hbf hkd))
        rw [← e7]
        have HL2 := hide HLL.out
        clear e7 hb6 hf6
        generalize hWl : Lay.wr o = Wl at *
        gi_loopw [10, 29] (fun _ vj wx => ∃ j : Nat, j <= L /\ vj = .int .i64 (j : Int) /\ Hid (Ar wx w.heap.size 63 (fun y => .bool (M1 (y : Int) || decide ((y : Int) ∈ Wl.take j)))) /\ Hid (wx.heap[w.heap.size + 1]? = some (.cells #[.slice (some ⟨g6, 0, none⟩) (nL + 1) c6] 25 (0, 0))) /\ Hid (wx.ownsRow w.heap.size 3 1 (.slice (some ⟨g6, 0, none⟩) (nL + 1) c6) (nL + 1) ((L1 ++ [(x.i : Int)]).map (Value.int .i64))) /\ Hid (NsF wx aw Wl w.heap.size) /\ Hid (KeepsOthers W wx) /\ Hid (Below w.heap.size W wx)) (fun _ vj _ => L - (intOf vj).toNat)
        case atStart => exact ⟨0, Nat.zero_le _, rfl, hide (HM7.out.congr fun y hy => by simp), HB7, HO7, HN7, HK7, HW7⟩
        case round =>
          clear HM7 HB7 HO7 HN7 HK7 HW7
          obtain ⟨j, hj, rfl, HM7, HB7, HO7, HN7, HK7, HW7⟩ := hrel
          by_cases h2 : j < L
          . obtain ⟨z, hz⟩ : ∃ z, Wl[j]? = some z := ⟨_, List.getElem?_eq_getElem (by rw [HL2.out]; exact h2)⟩
            have hz128 := HWR.out z (List.mem_of_getElem? hz)
            obtain ⟨y, rfl⟩ : ∃ y : Nat, z = (y : Int) := ⟨z.toNat, by omega⟩
            obtain ⟨g', off', rfl, hc⟩ := ns_cell HN7.out.ns hz
            have hlt' := World.block_lt_of_cell? _ _ hc
            have hm0 := HM7.out.rk.cell y (by omega)
            have hmf := HM7.out.rk.frozen y
            have hml := HM7.out.lt
            have hx1 : (y : Int) < 128 := by omega
            have hkk2 : (j : Int) < (L : Int) := by omega
            have HM8 : Hid (Ar (wr.setCell ⟨w.heap.size, y, none⟩ (.bool true)) w.heap.size 63 (fun y' => .bool (M1 (y' : Int) || decide ((y' : Int) ∈ Wl.take (j + 1))))) := hide ((HM7.out.set y _).congr fun y' hy => by
              have ht : (y' : Int) ∈ Wl.take (j + 1) ↔ (y' : Int) ∈ Wl.take j ∨ y' = y := by
                rw [List.take_add_one, hz]
                simp only [Option.toList_some, List.mem_append, List.mem_singleton]
                constructor
                . rintro (h | h)
                  . exact .inl h
                  . exact .inr (by omega)
                . rintro (h | h)
                  . exact .inl h
                  . exact .inr (by omega)
              by_cases e : y' = y
              . rw [if_pos e, decide_eq_true (ht.2 (.inr e)), Bool.or_true]
              . rw [if_neg e]
                congr 2
                rw [decide_eq_decide, ht]
                simp [e])
            have HB8 : Hid ((wr.setCell ⟨w.heap.size, y, none⟩ (.bool true)).heap[w.heap.size + 1]? = some (.cells #[.slice (some ⟨g6, 0, none⟩) (nL + 1) c6] 25 (0, 0))) := hide ((Below.heap_setCell _ _ _ _ (by simp)).trans HB7.out)
            have HO8 : Hid ((wr.setCell ⟨w.heap.size, y, none⟩ (.bool true)).ownsRow w.heap.size 3 1 (.slice (some ⟨g6, 0, none⟩) (nL + 1) c6) (nL + 1) ((L1 ++ [(x.i : Int)]).map (Value.int .i64))) := hide (own_of_block HO7.out fun k hk => Below.heap_setCell _ _ _ _ (fun e => by
              obtain ⟨cs, fr, hc⟩ := own_cells' HO7.out hk
              have e2 : k = w.heap.size := e
              have hm := HM7.out
              unfold Ar at hm
              rw [e2, hm] at hc
              simp at hc))
            have HN8 := hide (HN7.out.set y (.bool true))
            have HK8 := hide (HK7.out.trans (KeepsOthers.setCell wr ⟨w.heap.size, y, none⟩ (.bool true)))
            have HW8 := hide (HW7.out.setCell (p := ⟨w.heap.size, y, none⟩) (Nat.le_refl _) (.bool true))
            clear hz
            gi_wp2
            go_roundw
            case rel => exact ⟨j + 1, by omega, by simp, HM8, HB8, HO8, HN8, HK8, HW8⟩
            case measure => simp [intOf]; omega
          . obtain rfl : j = L := by omega
            gi_wp2
            refine ⟨HK7.out.from _, ⟨HW7.out.mono hw.size, HW7.out.block Bs hB⟩, ?_⟩
            show RI w w.heap.size (w.heap.size + 1) (cn M (pl (pre ++ [x]))) _
            rw [HS2.out]
            refine ⟨HM7.out.congr fun y hy => by rw [← HL2.out, List.take_length], ⟨some ⟨g6, 0, none⟩, c6, ?_, ?_⟩, HRI.out.bel.trans HW7.out⟩
            . simp only [List.length_append, List.length_cons, List.length_nil, Nat.zero_add]
              rw [HNL.out]
              exact HB7.out
            . simp only [List.length_append, List.length_cons, List.length_nil, Nat.zero_add]
              rw [HNL.out]
              exact HO7.out
  case done =>
    rintro D ys W hD hS hRI hK
    obtain ⟨ao, c, hb, ho⟩ := hRI.box
    have hc := cell_of_row _ _ 0 _ _ _ hb
    simp only [List.getElem?_toArray, List.getElem?_cons_zero] at hc
    have HO := hide ho
    clear ho hb
    gi_wp2
    refine ⟨by simp, .inl ⟨_, _, rfl, run_takeDeferred hK, ?_⟩⟩
    exact ⟨_, results_tmp rfl _ _ _, ys, ao, c, hS, rfl, ownsRow_putObj HO.out _ hK rfl, hRI.bel.trans (belowK_b (w := w) (Nat.le_refl _) W D _ _ (by omega) hK rfl rfl)⟩
  case stop =>
    rintro D c pre W _ _ h _
    exact h.elim
theorem app_emp19 {ops : Array Oper} {rest : List Oper} {o : Oper} {a : Act} {Q : Exit -> Act -> World -> Prop} {X : World} (hgd : o.guard = none) (s x : Operand)
    (ho : o.op = .call { callee := .builtin .append, args := #[s, x], argTypes := #[25, 25] }) (pre : List Int) (np : Nat) (hnp : pre.length = np) (cells : Array Value) (hcells : cells = (pre.map (Value.int .i64)).toArray) (H : Nat) (hH : X.heap.size = H) (hs : a.eval s = .slice (some ⟨H, 0, none⟩) np np)
    (ao : Option Addr) (c : Nat) (l : List Int) (n : Nat) (hn : l.length = n) (h0 : 0 < n) (hx : a.eval x = .slice ao n c) (hN : Ns X ao l) (hl : n <= 1000000000) (hp : np <= 1000)
    (h : ∀ ao' c' w', RowO w' X.heap.size (.slice ao' (np + n) c') (pre ++ l) -> Below X.heap.size X w' -> wpList Tryd.prog ops Q rest (a.put o.dst (.slice ao' (np + n) c')) w') : wpList Tryd.prog ops Q (o :: rest) a (X.alloc (.cells cells 3)) := by
  subst hH hn hnp hcells
  have hb : Below X.heap.size X (X.alloc (.cells (pre.map (Value.int .i64)).toArray 3)) := bnew _ _
  obtain ⟨i0, hi, hz0, hz1, hz2⟩ := info_parts Gt.infoI
  have hne : l ≠ [] := fun e => by rw [e] at h0; simp at h0
  obtain ⟨g, off, rfl, hc⟩ := hN.resolve_left hne
  have hown : (X.alloc (.cells (pre.map (Value.int .i64)).toArray 3)).ownsRow X.heap.size 3 1 (.slice (some ⟨X.heap.size, 0, none⟩) pre.length pre.length) pre.length (pre.map (Value.int .i64)) := ⟨by simp, .inr ⟨X.heap.size, pre.length, (pre.map (Value.int .i64)).toArray, rfl, Nat.le_refl _, heap_alloc_new _ _, Nat.le_refl _, by unfold maxLen; omega, by simp, by simp only [Nat.mul_one]; exact List.take_of_length_le (by simp)⟩⟩
  refine wpList_append_lies _ hgd s x 25 ho X.heap.size 3 i0 (.int .i64 0) 1 8 Tryd.underlying25 hi hz0 hz1 hz2 rfl (by decide) _ pre.length _ hs hown ⟨g, off, none⟩ l.length c (l.map (Value.int .i64)) hx (by simp) (fun j u hu => ?_) (fun u hu => ?_) h0 (by unfold maxLen; omega) (by omega) hb.size _ rfl ?_
  . rw [Addr.add_lit]
    rw [List.getElem?_map] at hu
    obtain ⟨z, hz, rfl⟩ := Option.map_eq_some_iff.1 hu
    exact cell_below (hc j z hz) hb
  . obtain ⟨z, _, rfl⟩ := List.mem_map.1 hu
    rfl
  . intro g2 cap w2 hown2 hgrow hat hlt
    refine h _ _ w2 ⟨_, _, by rw [List.length_append], ?_⟩ (hb.grown hgrow hb.size (fun q hq => by
      rw [ob_eq] at hq
      cases hq
      exact Nat.le_refl _))
    rw [List.length_append, List.map_append]
    exact hown2
theorem may_pos {q b : Int} {o : COp} (h : mayP q b o = true) : 0 < o.qs.length := by
  unfold mayP at h
  split at h
  . simp only [Bool.and_eq_true, decide_eq_true_eq] at h
    have hc := h.1.1
    unfold chkP at hc
    split at hc
    . cases hc
    . split at hc
      . cases hc
      . rename_i h1 h2
        have h1' : knB (rw' o.gate) = true := by simpa using h1
        have h2' : apP (rw' o.gate).q o.qs = true := by simpa using h2
        unfold knB at h1'
        unfold apP at h2'
        rw [Bool.and_eq_true] at h2'
        have a := of_decide_eq_true h1'
        have b := of_decide_eq_true h2'.1
        omega
  . split at h
    . simp only [Bool.and_eq_true, decide_eq_true_eq] at h
      have := h.1.1.2
      omega
    . split at h
      . simp only [Bool.and_eq_true, decide_eq_true_eq] at h
        have := h.1.1.2
        omega
      . split at h
        . simp only [Bool.and_eq_true, decide_eq_true_eq] at h
          exact h.1.1.2
        . cases h
theorem app1_list {ops : Array Oper} {rest : List Oper} {o : Oper} {a : Act} {Q : Exit -> Act -> World -> Prop} {w : World} (hgd : o.guard = none) (s x : Operand)
    (ho : o.op = .call { callee := .builtin .append, args := #[s, x], argTypes := #[25, 25] }) {B n c : Nat} {ao : Option Addr} {l : List Int} (hR : w.ownsRow B 3 1 (.slice ao n c) n (l.map (Value.int .i64))) (hB : B <= w.heap.size) (z : Int) (hn : n <= 1000000000) (hs : a.eval s = .slice ao n c) (hx : a.eval x = .slice (some ⟨w.heap.size, 0, none⟩) 1 1)
    (h : ∀ g cap w', w'.ownsRow B 3 1 (.slice (some ⟨g, 0, none⟩) (n + 1) cap) (n + 1) ((l ++ [z]).map (Value.int .i64)) -> w.grownBy w' (ob ao) -> (ob ao = some g ∨ w.heap.size <= g) -> wpList Tryd.prog ops Q rest (a.put o.dst (.slice (some ⟨g, 0, none⟩) (n + 1) cap)) w') : wpList Tryd.prog ops Q (o :: rest) a (w.alloc (.cells #[.int .i64 z] 3)) := by
  refine wpList_plain hgd fun K hK => wp_app1 s x ho (hR.alloc _) (by rw [World.size_alloc]; omega) w.heap.size z (cell_of_row _ _ _ _ _ _ (heap_alloc_new w _)) hn hs hx ?_
  intro g cap w' h1 h2 h3
  refine hK _ _ (h g cap w' h1 ((grown_alloc w _ _).trans h2) ?_)
  rcases h3 with e | e
  . exact .inl e
  . right; simp at e; omega
def WdPost (w : World) (o : COp) (e : Ending) (w' : World) : Prop := ∃ ao c, e = .returned (.slice ao (wd o).length c) /\ w'.ownsRow w.heap.size 3 1 (.slice ao (wd o).length c) (wd o).length ((wd o).map (Value.int .i64)) /\ Below w.heap.size w w'
theorem dWires (o : COp) (aq : Option Addr) (cq : Nat) (hW : Wk o) (hp : 0 < o.qs.length) (w : World) (hN : Ns w aq o.qs) : Calls Tryd.prog 53 #[opV o aq cq] w (WdPost w o) := by
  have hlen := hW.len
  have hm := hW.m
  have hcd := hW.c
  have HD : Hid (wd o = o.qs ++ (if o.kind = 2 then [100 + o.bit] else []) ++ (if 0 <= o.cond then [100 + o.cond] else [])) := hide rfl
  unfold WdPost
  generalize wd o = D at *
  obtain ⟨kind, gate, qs, bit, cond, whn⟩ := o
  unfold opV at *
  simp only at *
  obtain ⟨m, hqm⟩ : ∃ m, qs.length = m := ⟨_, rfl⟩
  have HM := hide hqm
  rw [hqm] at hlen hp ⊢
  clear hqm hW
  have hb1 := bnew w (.cells #[.int .i64 kind, .int .i64 gate, .slice aq m cq, .int .i64 bit, .int .i64 cond, .int .i64 whn] 57)
  have HN1 := hide (hN.below hb1)
  have HSS : Hid ((w.alloc (.cells #[.int .i64 kind, .int .i64 gate, .slice aq m cq, .int .i64 bit, .int .i64 cond, .int .i64 whn] 57)).heap.size = w.heap.size + 1) := hide (by simp)
  have HR1 : Hid ((w.alloc (.cells #[.int .i64 kind, .int .i64 gate, .slice aq m cq, .int .i64 bit, .int .i64 cond, .int .i64 whn] 57)).heap[w.heap.size]? = some (.cells #[.int .i64 kind, .int .i64 gate, .slice aq m cq, .int .i64 bit, .int .i64 cond, .int .i64 whn] 57 (0, 0))) := hide (heap_alloc_new _ _)
  have HB1 := hide hb1
  clear hN hb1
  go_enter Tryd.func53, Tryd.ntmps53
  go_upto_region 2 with (at_builtin; refine app_emp19 rfl _ _ rfl [] 0 rfl _ rfl (w.heap.size + 1) HSS.out rfl aq cq qs m HM.out hp rfl HN1.out (by omega) (by omega) ?_; intro a' c' w2 hr2 hb2)
  simp only [Nat.zero_add, List.nil_append] at hr2
  obtain ⟨a3, c3, e3, hO2⟩ := hr2
  simp only [Value.slice.injEq] at e3
  obtain ⟨rfl, -, rfl⟩ := e3
  rw [HM.out] at hO2
  have hm2 := (hb2.block _ (by rw [HSS.out]; omega)).trans HR1.out
  have hB2 : Below w.heap.size w w2 := HB1.out.trans (hb2.mono HB1.out.size)
  have hO2' : w2.ownsRow w.heap.size 3 1 (.slice a' m c') m (qs.map (Value.int .i64)) := by
    refine ⟨hO2.1, ?_⟩
    rcases hO2.2 with h0 | ⟨g, cap, cur, e1, e2, e4⟩
    . exact .inl h0
    . exact .inr ⟨g, cap, cur, e1, Nat.le_trans HB1.out.size e2, e4⟩
  clear hO2 hb2
  have key : ∀ (V : World) (a2 : Option Addr) (c2 : Nat) (l : List Int) (mm : Nat), V.ownsRow w.heap.size 3 1 (.slice a2 mm c2) mm (l.map (Value.int .i64)) -> mm = l.length := fun V a2 c2 l mm h => by have := h.1; simp at this; omega
  have hz : ∀ j, (#[Value.int .i64 kind, .int .i64 gate, .slice aq m cq, .int .i64 bit, .int .i64 cond, .int .i64 whn])[j]? = w2.cell? ⟨w.heap.size, j, none⟩ := fun j => (cell_of_row w2 w.heap.size j _ _ _ hm2).symm
  have s0 := (hz 0).symm
  have s3 := (hz 3).symm
  have s4 := (hz 4).symm
  have sl : w.heap.size < w2.heap.size := (Array.getElem?_eq_some_iff.1 hm2).1
  simp only [List.getElem?_toArray, List.getElem?_cons_zero, List.getElem?_cons_succ] at s0 s3 s4
  clear hz
  by_cases e2 : kind = 2
  . subst e2
    have hbb := hm rfl
    have hw1 : IntKind.i64.wrap (100 + bit) = 100 + bit := wrapI _ (by omega) (by omega)
    obtain ⟨h1, h2, rfl⟩ := hbb
    have HDD : Hid (D = qs ++ [100 + bit]) := hide (by rw [HD.out, if_pos rfl, if_neg (by decide), List.append_nil])
    have HO := hide hO2'
    have HB2 := hide hB2
    have HM2 := hide hm2
    clear hO2' hB2 hm2 HD hcd hm
    go_wp2_with (at_builtin; refine app1_list (w := w2) rfl (.tmp 11) (.tmp 15) rfl HO.out HB2.out.size (100 + bit) (by omega) (by rfl) (by rfl) ?_; intro g6 c6 w6 hown hgr hat; have hm6 := (hgr.block _ sl (fun e => own_ne HO.out HM2.out (by decide) e.symm)).trans HM2.out; have t4 := cell_of_row w6 w.heap.size 4 _ _ _ hm6; have tl := (Array.getElem?_eq_some_iff.1 hm6).1; simp only [List.getElem?_toArray, List.getElem?_cons_zero, List.getElem?_cons_succ] at t4; have HO6 := hide hown; have HB6 := hide (HB2.out.grown hgr HB2.out.size (fun x hx => (own_lt HO.out x hx).1)); clear hown hgr hat hm6)
    go_ret
    have hl6 := key _ _ _ _ _ HO6.out
    have hl7 : D.length = m + 1 := by rw [HDD.out]; exact hl6.symm
    rw [hl7]
    exact ⟨some ⟨g6, 0, none⟩, c6, rfl, by rw [HDD.out]; exact HO6.out, HB6.out⟩
  . have d1 : (kind == 2) = false := by simpa using e2
    have HO := hide hO2'
    have HB2 := hide hB2
    have HM2 := hide hm2
    clear hO2' hB2 hm2
    by_cases e3 : cond = -1
    . subst e3
      have HDD : Hid (D = qs) := hide (by rw [HD.out, if_neg e2, if_neg (by decide), List.append_nil, List.append_nil])
      clear HD hcd hm
      go_wp2_with fail
      go_ret
      have hl7 : D.length = m := by rw [HDD.out]; exact HM.out
      rw [hl7]
      exact ⟨a', c', rfl, by rw [HDD.out]; exact HO.out, HB2.out⟩
    . have hcc := hcd e3
      have hc0 : decide (cond ≥ 0) = true := decide_eq_true hcc.1
      have hc0' : decide (0 <= cond) = true := decide_eq_true hcc.1
      have hw1 : IntKind.i64.wrap (100 + cond) = 100 + cond := wrapI _ (by omega) (by omega)
      have HDD : Hid (D = qs ++ [100 + cond]) := hide (by rw [HD.out, if_neg e2, if_pos hcc.1, List.append_nil])
      clear HD hcd hm
      go_wp2_with (at_builtin; refine app1_list (w := w2) rfl (.tmp 20) (.tmp 24) rfl HO.out HB2.out.size (100 + cond) (by omega) (by rfl) (by rfl) ?_; intro g6 c6 w6 hown hgr hat; have HO6 := hide hown; have HB6 := hide (HB2.out.grown hgr HB2.out.size (fun x hx => (own_lt HO.out x hx).1)); clear hown hgr hat)
      go_ret
      have hl6 := key _ _ _ _ _ HO6.out
      have hl7 : D.length = m + 1 := by rw [HDD.out]; exact hl6.symm
      rw [hl7]
      exact ⟨some ⟨g6, 0, none⟩, c6, rfl, by rw [HDD.out]; exact HO6.out, HB6.out⟩
theorem mt_take {a b : List Int} {i : Nat} {z : Int} (hz : a[i]? = some z) : mt (a.take (i + 1)) b = (mt (a.take i) b || decide (z ∈ b)) := by
  unfold mt
  rw [List.take_add_one, hz, Option.toList_some, List.any_append]
  simp
theorem dMeet (a b : List Int) (aa ab : Option Addr) (ca cb : Nat) (ha : a.length <= 1000000000000000) (hb : b.length <= 1000000000000000) (w : World) (hA : Ns w aa a) (hB : Ns w ab b) : Calls Tryd.prog 52 #[.slice aa a.length ca, .slice ab b.length cb] w fun e w' => e = .returned (.bool (mt a b)) /\ Below w.heap.size w w' := by
  have HA := hide hA
  have HB := hide hB
  obtain ⟨n, hn⟩ : ∃ n, a.length = n := ⟨_, rfl⟩
  obtain ⟨m, hm⟩ : ∃ m, b.length = m := ⟨_, rfl⟩
  have HN := hide hn
  have HM := hide hm
  rw [hn] at ha ⊢
  rw [hm] at hb ⊢
  clear hn hm hA hB
  go_enter Tryd.func52, Tryd.ntmps52
  go_wp2_with fail
  go_loopw [4, 5, 6] (fun _ vi _ wr => ∃ i : Nat, i <= n /\ vi = .int .i64 (i : Int) /\ Hid (mt (a.take i) b = false) /\ Hid (Below w.heap.size w wr)) (fun _ vi _ _ => n - (intOf vi).toNat)
  case atStart => exact ⟨0, Nat.zero_le _, rfl, hide rfl, hide (Below.refl _ _)⟩
  case round =>
    obtain ⟨i, hi, rfl, HF, HBW⟩ := hrel
    by_cases h : i < n
    . have hd : decide ((i : Int) < (n : Int)) = true := decide_eq_true (by omega)
      have hkk : (i : Int) < (n : Int) := by omega
      obtain ⟨z, hz⟩ : ∃ z, a[i]? = some z := ⟨_, List.getElem?_eq_getElem (by rw [HN.out]; exact h)⟩
      have HZ := hide hz
      obtain ⟨g1, off1, rfl, -⟩ := ns_cell HA.out hz
      clear hz
      go_wp2_with fail
      go_loopw [4, 6] (fun _ vj wx => ∃ j : Nat, j <= m /\ vj = .int .i64 (j : Int) /\ Hid (z ∉ b.take j) /\ Hid (Below w.heap.size w wx)) (fun _ vj _ => m - (intOf vj).toNat)
      case atStart => exact ⟨0, Nat.zero_le _, rfl, hide (by simp), HBW⟩
      case round =>
        clear HBW
        obtain ⟨j, hj, rfl, HNZ, HBW⟩ := hrel
        by_cases h2 : j < m
        . have hd2 : decide ((j : Int) < (m : Int)) = true := decide_eq_true (by omega)
          have hkk2 : (j : Int) < (m : Int) := by omega
          obtain ⟨y, hy⟩ : ∃ y, b[j]? = some y := ⟨_, List.getElem?_eq_getElem (by rw [HM.out]; exact h2)⟩
          have HY := hide hy
          obtain ⟨g2, off2, e1, hc1⟩ := ns_cell (HA.out.below HBW.out) HZ.out
          simp only [Option.some.injEq, Addr.mk.injEq] at e1
          obtain ⟨rfl, rfl, -⟩ := e1
          obtain ⟨g3, off3, rfl, hc3⟩ := ns_cell (HB.out.below HBW.out) hy
          have hl1 := World.block_lt_of_cell? _ _ hc1
          have hl3 := World.block_lt_of_cell? _ _ hc3
          clear hy
          by_cases hzy : z = y
          . subst hzy
            have HT : Hid (mt a b = true) := hide (by
              unfold mt
              rw [List.any_eq_true]
              exact ⟨z, List.mem_of_getElem? HZ.out, decide_eq_true (List.mem_of_getElem? HY.out)⟩)
            go_wp2_with fail
            go_region
            all_goals go_wp2_with fail
            all_goals go_ret
            all_goals (rw [HT.out]; exact ⟨rfl, HBW.out.drew⟩)
          . have hne : (z == y) = false := by simpa using hzy
            have HNZ2 : Hid (z ∉ b.take (j + 1)) := hide (by
              rw [List.take_add_one, HY.out]
              simp only [Option.toList_some, List.mem_append, List.mem_singleton, not_or]
              exact ⟨HNZ.out, hzy⟩)
            clear hzy
            go_wp2_with fail
            go_region
            all_goals go_wp2_with fail
            all_goals exact ⟨⟨j + 1, by omega, by go_num, HNZ2, hide HBW.out.drew⟩, by simp [intOf]; omega⟩
        . obtain rfl : m = j := by omega
          have hd2 : decide ((m : Int) < (m : Int)) = false := decide_eq_false (by omega)
          have HF2 : Hid (mt (a.take (i + 1)) b = false) := hide (by
            rw [mt_take HZ.out, HF.out]
            have := HNZ.out
            rw [← HM.out, List.take_length] at this
            simp [this])
          go_wp2_with fail
          exact ⟨⟨i + 1, by omega, by go_num, HF2, HBW⟩, by simp [intOf]; omega⟩
    . obtain rfl : n = i := by omega
      have hd : decide ((n : Int) < (n : Int)) = false := decide_eq_false (by omega)
      have HT : Hid (mt a b = false) := hide (by have := HF.out; rw [← HN.out, List.take_length] at this; exact this)
      go_wp2_with fail
      go_ret
      rw [HT.out]
      exact ⟨rfl, HBW.out⟩
theorem dBar (c : Circ) (ao : Option Addr) (k : Nat) (i : Nat) (hi : i < c.ops.length) (w : World) (hC : Ci w c ao k) : Calls Tryd.prog 32 #[cV c ao k, .int .i64 (i : Int)] w fun e w' => e = .returned (.bool (decide ((oa c.ops i).kind = 4))) /\ Below w.heap.size w w' := by
  obtain ⟨g, off, aq, cq, rfl, hgl, hoc⟩ := hC.ops.at (oa_some hi)
  have hln := hC.len
  obtain ⟨q, b, ops⟩ := c
  unfold cV
  simp only at *
  generalize oa ops i = o at *
  have hb1 := bnew w (.cells #[.int .i64 q, .int .i64 b, .slice (some ⟨g, off, none⟩) ops.length k] 24)
  have hkd := (hoc.below hb1).kind
  have hgl1 := World.block_lt_of_cell? _ _ hkd
  have HB := hide hb1
  generalize ops.length = n at *
  have hin : (i : Int) < (n : Int) := by omega
  clear hoc hb1 hC
  obtain ⟨kind, gate, qs, bit, cond, whn⟩ := o
  simp only at *
  by_cases e4 : kind = 4
  . subst e4
    go_enter Tryd.func32, Tryd.ntmps32
    go_wp2_with fail
    go_ret
    exact ⟨rfl, HB.out⟩
  . have d1 : (kind == 4) = false := by simpa using e4
    rw [decide_eq_false e4]
    go_enter Tryd.func32, Tryd.ntmps32
    go_wp2_with fail
    go_ret
    exact ⟨rfl, HB.out⟩
end Go.Proofs.YthndpbjplcphpaaDoor.Lay
