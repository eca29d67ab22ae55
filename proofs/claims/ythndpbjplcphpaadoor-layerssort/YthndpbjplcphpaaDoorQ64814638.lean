import Derived.Test.YthndpbjplcphpaaDoorQ41564b6e
set_option maxRecDepth 100000
set_option maxHeartbeats 8000000
namespace Go.Proofs.YthndpbjplcphpaaDoor.Lay
open Go.RowKit Go.Shelf Go.Proofs.YthndpbjplcphpaaDoor.Oct Go.Proofs.YthndpbjplcphpaaDoor.Tok Go.Proofs.YthndpbjplcphpaaDoor.Gt Go.Proofs.YthndpbjplcphpaaDoor.Cir
def finA (n : Nat) : Array (Fin n) := Array.ofFn fun i => i
def srt (ops : List COp) (f : Nat -> Int) (n : Nat) [Inhabited (Fin n)] : Array (Fin n) := Sort.insertionSort (ltOf fun (x y : Fin n) => cfv ops f x.1 y.1) (finA n) 0 n
theorem lSorted (ops : List COp) (f : Nat -> Int) (hE : EV ops f) (hW : ∀ o ∈ ops, Wk o) (n : Nat) [Inhabited (Fin n)] (hn : ops.length = n) (h20 : n < 20) (hss : (srt ops f n).size = n) (ao : Option Addr) (k : Nat) (w : World) (hO : OpsIn w ao ops) : Calls Tryd.prog 44 #[.slice ao n k] w fun e w' => ∃ g, e = .returned (.slice (some ⟨g, 0, none⟩) n n) /\ Ns w' (some ⟨g, 0, none⟩) ((srt ops f n).toList.map fun x => (x.1 : Int)) /\ Below w.heap.size w w' := by
  have c0 := fun V (h : Below w.heap.size w V) => lEarly1 ops f hE hW (by omega) ao k V (hO.below h)
  rw [hn] at c0
  have HO := hide hO
  have HN := hide hn
  have HSS := hide hss
  clear hO hn hss hE hW
  have mq := fun W => make19 n (by omega) W
  have hb1 := bnew w (.cells #[.slice ao n k] 22)
  have hx1 : (w.alloc (.cells #[.slice ao n k] 22)).heap[w.heap.size]? = some (.cells #[.slice ao n k] 22 (0, 0)) := heap_alloc_new _ _
  go_enter Tryd.func44, Tryd.ntmps44
  go_upto_region 1 with fail
  generalize w.alloc (.cells #[.slice ao n k] 22) = W1 at *
  have hwx : w.heap.size < W1.heap.size := (Array.getElem?_eq_some_iff.1 hx1).1
  have c1 : ∀ V, Below W1.heap.size W1 V -> _ := fun V hV => c0 V (hb1.trans (hV.mono hb1.size))
  have HX : Hid (∀ V, Below W1.heap.size W1 V -> V.cell? ⟨w.heap.size, 0, none⟩ = some (.slice ao n k) /\ V.frozen? ⟨w.heap.size, 0, none⟩ = false /\ w.heap.size < V.heap.size) := hide (fun V hV => by
    have hb := (hV.block _ (Array.getElem?_eq_some_iff.1 hx1).1).trans hx1
    exact ⟨cell_of_row _ _ 0 _ _ _ hb, by simp [World.frozen?, hb], (Array.getElem?_eq_some_iff.1 hb).1⟩)
  clear c0
  go_cut [3, 4] from 11 (fun s3 s4 wc => ∃ gM gR gL : Nat, s3 = .pointer (some ⟨gM, 0, none⟩) /\ s4 = .slice (some ⟨gL, 0, none⟩) n n /\ Hid (wc.heap[gM]? = some (.cells #[.slice (some ⟨gR, 0, none⟩) n n] 25 (0, 0))) /\ Hid (Rk wc gR 3 n (fun j => .int .i64 (f j))) /\ Hid (Rk wc gL 3 n (fun _ => .int .i64 0)) /\ gR ≠ gL /\ W1.heap.size <= gM /\ W1.heap.size <= gR /\ W1.heap.size <= gL /\ Hid (Below W1.heap.size W1 wc))
  case first =>
    refine wp_region_held_drew (S := fun V : World => Below W1.heap.size W1 V) (by kernel_rfl) (Below.refl W1.heap.size W1).drew (fun hHeld => ?_)
    refine take_to (i := 0) (d := 6) (v := ?_) rfl rfl (by kernel_rfl) (by kernel_rfl) (by kernel_rfl) (fun _ _ _ h => h) (Or.inl ⟨by rfl, ?_⟩) (by assumption) ?_
    rotate_left 1
    . intro W hSw
      obtain ⟨x0, x1, x2⟩ := HX.out W hSw
      go_simp
      with_reducible rfl
    simp only [Act.put, List.setIfInBounds_toArray, List.set_cons_zero, List.set_cons_succ]
    refine take_to (i := 2) (d := 8) (v := ?_) rfl rfl (by kernel_rfl) (by kernel_rfl) (by kernel_rfl) (fun _ _ _ h => h) (Or.inl ⟨by rfl, ?_⟩) (by assumption) ?_
    rotate_left 1
    . intro W hSw
      obtain ⟨x0, x1, x2⟩ := HX.out W hSw
      go_simp
      with_reducible rfl
    simp only [Act.put, List.setIfInBounds_toArray, List.set_cons_zero, List.set_cons_succ]
    refine take_to (i := 3) (d := 9) (v := ?_) rfl rfl (by kernel_rfl) (by kernel_rfl) (by kernel_rfl) (fun _ _ _ h => h) (Or.inl ⟨by rfl, ?_⟩) (by assumption) ?_
    rotate_left 1
    . intro W hSw
      obtain ⟨x0, x1, x2⟩ := HX.out W hSw
      go_simp
      with_reducible rfl
    simp only [Act.put, List.setIfInBounds_toArray, List.set_cons_zero, List.set_cons_succ]
    refine wpAnyH_ready (rs := [1, 4, 5]) (by kernel_rfl) (by simp) ?_
    refine AllReadyH.cons (o := { dst := some 7, op := Op.call { callee := Callee.value (Operand.func 30), args := #[Operand.tmp 6], argTypes := #[22] }, type := 25, pos := "moments.go:75", after := #[{ on := 0, ground := Ground.data }], guard := none }) rfl (fun K hK => ?_) (AllReadyH.cons (o := { dst := some 10, op := Op.makeSlice 25 (Operand.tmp 9) (Operand.tmp 9), type := 25, pos := "moments.go:75", after := #[{ on := 3, ground := Ground.data }, { on := 3, ground := Ground.data }], guard := none }) rfl (fun K hK => ?_) (AllReadyH.cons (o := { dst := some 3, op := Op.alloc 25, type := 0, pos := "moments.go:75", after := #[], guard := none }) rfl (fun K hK => ?_) AllReadyH.nil))
    . go_simp
      go_at_call 30
      refine (c1 _ hHeld).mono ?_
      rintro e w2 ⟨gR, rfl, hR, hgR, hb⟩
      have hb' := Below.trans hHeld (hb.mono hHeld.size)
      have HR := hide hR
      have hRB : W1.heap.size <= gR := Nat.le_trans hHeld.size hgR
      go_wp2_with fail
      refine hK.out _ _ (show Below W1.heap.size W1 w2 from hb') (fun hHeld => ?_)
      clear hK K hb' hR hgR
      try simp only [Act.put, List.setIfInBounds_toArray, List.set_cons_zero, List.set_cons_succ]
      refine wpAnyH_ready (rs := [4, 5]) (by kernel_rfl) (by simp) ?_
      refine AllReadyH.cons (o := { dst := some 10, op := Op.makeSlice 25 (Operand.tmp 9) (Operand.tmp 9), type := 25, pos := "moments.go:75", after := #[{ on := 3, ground := Ground.data }, { on := 3, ground := Ground.data }], guard := none }) rfl (fun K hK => ?_) (AllReadyH.cons (o := { dst := some 3, op := Op.alloc 25, type := 0, pos := "moments.go:75", after := #[], guard := none }) rfl (fun K hK => ?_) AllReadyH.nil)
      . go_simp
        have hLB : W1.heap.size <= w2.heap.size := Nat.le_trans hHeld.size (Nat.le_of_eq (by first | rfl | simp))
        have hneL : gR ≠ w2.heap.size := fun e => by have := HR.out.lt; have h2 : (w2).heap.size = w2.heap.size := (by first | rfl | simp); omega
        refine hK.out _ _ (show Below W1.heap.size W1 _ from (hHeld.alloc hHeld.size (.cells (madeCells #[.int .i64 0] n) 3))) (fun hHeld => ?_)
        clear hK K
        replace HR := hide (HR.out.below (bnew w2 (.cells (madeCells #[.int .i64 0] n) 3)))
        have HL : Hid (Rk (w2.alloc (.cells (madeCells #[.int .i64 0] n) 3)) (w2.heap.size) 3 n (fun _ => .int .i64 0)) := hide (made19 w2 n (w2.heap.size) (by simp))
        try simp only [Act.put, List.setIfInBounds_toArray, List.set_cons_zero, List.set_cons_succ]
        refine wpAnyH_ready (rs := [5]) (by kernel_rfl) (by simp) ?_
        refine AllReadyH.cons (o := { dst := some 3, op := Op.alloc 25, type := 0, pos := "moments.go:75", after := #[], guard := none }) rfl (fun K hK => ?_) AllReadyH.nil
        go_simp
        have hEB : W1.heap.size <= w2.heap.size + 1 := Nat.le_trans hHeld.size (Nat.le_of_eq (by first | rfl | simp))
        refine hK.out _ _ (show Below W1.heap.size W1 _ from (hHeld.alloc hHeld.size (.cells #[.slice none 0 0] 25))) (fun hHeld => ?_)
        clear hK K
        replace HL := hide (HL.out.below (bnew (w2.alloc (.cells (madeCells #[.int .i64 0] n) 3)) (.cells #[.slice none 0 0] 25)))
        replace HR := hide (HR.out.below (bnew (w2.alloc (.cells (madeCells #[.int .i64 0] n) 3)) (.cells #[.slice none 0 0] 25)))
        have HE : Hid (((w2.alloc (.cells (madeCells #[.int .i64 0] n) 3)).alloc (.cells #[.slice none 0 0] 25)).heap[w2.heap.size + 1]? = some (.cells #[.slice none 0 0] 25 (0, 0))) := hide (box19 (w2.alloc (.cells (madeCells #[.int .i64 0] n) 3)) _ (w2.heap.size + 1) (by simp))
        try simp only [Act.put, List.setIfInBounds_toArray, List.set_cons_zero, List.set_cons_succ]
        refine wpAnyH_ready (rs := [6]) (by kernel_rfl) (by simp) ?_
        refine AllReadyH.cons (o := { dst := none, op := Op.store 25 (Operand.tmp 3) (Operand.tmp 7), type := 0, pos := "moments.go:75", after := #[{ on := 5, ground := Ground.data }, { on := 1, ground := Ground.data }, { on := 1, ground := Ground.chain }, { on := 0, ground := Ground.phase }, { on := 1, ground := Ground.phase }, { on := 2, ground := Ground.textOnly Departure.lateStores }, { on := 3, ground := Ground.textOnly Departure.lateStoresUnsure }, { on := 4, ground := Ground.textOnly Departure.lateStoresUnsure }, { on := 5, ground := Ground.phase }], guard := none }) rfl (fun K hK => ?_) AllReadyH.nil
        generalize ((w2.alloc (.cells (madeCells #[.int .i64 0] n) 3)).alloc (.cells #[.slice none 0 0] 25)) = V at *
        have hcE := cell_of_row _ _ 0 _ _ _ HE.out
        have hfE : V.frozen? ⟨w2.heap.size + 1, 0, none⟩ = false := by simp [World.frozen?, HE.out]
        simp only [List.getElem?_toArray, List.getElem?_cons_zero] at hcE
        have hnR : gR ≠ w2.heap.size + 1 := rk_box HR.out HE.out
        have hnL : w2.heap.size ≠ w2.heap.size + 1 := rk_box HL.out HE.out
        have HR2 : Hid (Rk (V.setCell ⟨w2.heap.size + 1, 0, none⟩ (.slice (some ⟨gR, 0, none⟩) n n)) gR 3 n (fun j => .int .i64 (f j))) := hide (HR.out.of_block (Below.heap_setCell _ _ _ _ hnR))
        have HL2 : Hid (Rk (V.setCell ⟨w2.heap.size + 1, 0, none⟩ (.slice (some ⟨gR, 0, none⟩) n n)) (w2.heap.size) 3 n (fun _ => .int .i64 0)) := hide (HL.out.of_block (Below.heap_setCell _ _ _ _ hnL))
        have HE2 : Hid ((V.setCell ⟨w2.heap.size + 1, 0, none⟩ (.slice (some ⟨gR, 0, none⟩) n n)).heap[w2.heap.size + 1]? = some (.cells #[.slice (some ⟨gR, 0, none⟩) n n] 25 (0, 0))) := hide (box_set HE.out _)
        go_simp
        refine hK.out _ _ (show Below W1.heap.size W1 _ from (hHeld.setCell (p := ⟨w2.heap.size + 1, 0, none⟩) hEB _)) (fun hHeld => ?_)
        clear hK K
        refine take_to (i := 7) (d := 4) (v := ?_) rfl rfl (by kernel_rfl) (by kernel_rfl) (by kernel_rfl) (fun _ _ _ h => h) (Or.inl ⟨by rfl, ?_⟩) (by assumption) ?_
        rotate_left 1
        . intro W hSw
          obtain ⟨x0, x1, x2⟩ := HX.out W hSw
          go_simp
          with_reducible rfl
        simp only [Act.put, List.setIfInBounds_toArray, List.set_cons_zero, List.set_cons_succ]
        refine wpAnyH_done (by kernel_rfl) ?_ _
        go_wp2_with fail
        go_meet
        case rel => exact ⟨w2.heap.size + 1, gR, w2.heap.size, rfl, rfl, HE2, HR2, HL2, hneL, hEB, hRB, hLB, hide hHeld⟩
      . go_simp
        have hEB : W1.heap.size <= w2.heap.size := Nat.le_trans hHeld.size (Nat.le_of_eq (by first | rfl | simp))
        refine hK.out _ _ (show Below W1.heap.size W1 _ from (hHeld.alloc hHeld.size (.cells #[.slice none 0 0] 25))) (fun hHeld => ?_)
        clear hK K
        replace HR := hide (HR.out.below (bnew w2 (.cells #[.slice none 0 0] 25)))
        have HE : Hid ((w2.alloc (.cells #[.slice none 0 0] 25)).heap[w2.heap.size]? = some (.cells #[.slice none 0 0] 25 (0, 0))) := hide (box19 w2 _ (w2.heap.size) (by simp))
        try simp only [Act.put, List.setIfInBounds_toArray, List.set_cons_zero, List.set_cons_succ]
        refine wpAnyH_ready (rs := [4, 6]) (by kernel_rfl) (by simp) ?_
        refine AllReadyH.cons (o := { dst := some 10, op := Op.makeSlice 25 (Operand.tmp 9) (Operand.tmp 9), type := 25, pos := "moments.go:75", after := #[{ on := 3, ground := Ground.data }, { on := 3, ground := Ground.data }], guard := none }) rfl (fun K hK => ?_) (AllReadyH.cons (o := { dst := none, op := Op.store 25 (Operand.tmp 3) (Operand.tmp 7), type := 0, pos := "moments.go:75", after := #[{ on := 5, ground := Ground.data }, { on := 1, ground := Ground.data }, { on := 1, ground := Ground.chain }, { on := 0, ground := Ground.phase }, { on := 1, ground := Ground.phase }, { on := 2, ground := Ground.textOnly Departure.lateStores }, { on := 3, ground := Ground.textOnly Departure.lateStoresUnsure }, { on := 4, ground := Ground.textOnly Departure.lateStoresUnsure }, { on := 5, ground := Ground.phase }], guard := none }) rfl (fun K hK => ?_) AllReadyH.nil)
        . go_simp
          have hLB : W1.heap.size <= w2.heap.size + 1 := Nat.le_trans hHeld.size (Nat.le_of_eq (by first | rfl | simp))
          have hneL : gR ≠ w2.heap.size + 1 := fun e => by have := HR.out.lt; have h2 : ((w2.alloc (.cells #[.slice none 0 0] 25))).heap.size = w2.heap.size + 1 := (by first | rfl | simp); omega
          refine hK.out _ _ (show Below W1.heap.size W1 _ from (hHeld.alloc hHeld.size (.cells (madeCells #[.int .i64 0] n) 3))) (fun hHeld => ?_)
          clear hK K
          replace HE := hide (((bnew (w2.alloc (.cells #[.slice none 0 0] 25)) (.cells (madeCells #[.int .i64 0] n) 3)).block _ (Array.getElem?_eq_some_iff.1 HE.out).1).trans HE.out)
          replace HR := hide (HR.out.below (bnew (w2.alloc (.cells #[.slice none 0 0] 25)) (.cells (madeCells #[.int .i64 0] n) 3)))
          have HL : Hid (Rk ((w2.alloc (.cells #[.slice none 0 0] 25)).alloc (.cells (madeCells #[.int .i64 0] n) 3)) (w2.heap.size + 1) 3 n (fun _ => .int .i64 0)) := hide (made19 (w2.alloc (.cells #[.slice none 0 0] 25)) n (w2.heap.size + 1) (by simp))
          try simp only [Act.put, List.setIfInBounds_toArray, List.set_cons_zero, List.set_cons_succ]
          refine wpAnyH_ready (rs := [6]) (by kernel_rfl) (by simp) ?_
          refine AllReadyH.cons (o := { dst := none, op := Op.store 25 (Operand.tmp 3) (Operand.tmp 7), type := 0, pos := "moments.go:75", after := #[{ on := 5, ground := Ground.data }, { on := 1, ground := Ground.data }, { on := 1, ground := Ground.chain }, { on := 0, ground := Ground.phase }, { on := 1, ground := Ground.phase }, { on := 2, ground := Ground.textOnly Departure.lateStores }, { on := 3, ground := Ground.textOnly Departure.lateStoresUnsure }, { on := 4, ground := Ground.textOnly Departure.lateStoresUnsure }, { on := 5, ground := Ground.phase }], guard := none }) rfl (fun K hK => ?_) AllReadyH.nil
          generalize ((w2.alloc (.cells #[.slice none 0 0] 25)).alloc (.cells (madeCells #[.int .i64 0] n) 3)) = V at *
          have hcE := cell_of_row _ _ 0 _ _ _ HE.out
          have hfE : V.frozen? ⟨w2.heap.size, 0, none⟩ = false := by simp [World.frozen?, HE.out]
          simp only [List.getElem?_toArray, List.getElem?_cons_zero] at hcE
          have hnR : gR ≠ w2.heap.size := rk_box HR.out HE.out
          have hnL : w2.heap.size + 1 ≠ w2.heap.size := rk_box HL.out HE.out
          have HR2 : Hid (Rk (V.setCell ⟨w2.heap.size, 0, none⟩ (.slice (some ⟨gR, 0, none⟩) n n)) gR 3 n (fun j => .int .i64 (f j))) := hide (HR.out.of_block (Below.heap_setCell _ _ _ _ hnR))
          have HL2 : Hid (Rk (V.setCell ⟨w2.heap.size, 0, none⟩ (.slice (some ⟨gR, 0, none⟩) n n)) (w2.heap.size + 1) 3 n (fun _ => .int .i64 0)) := hide (HL.out.of_block (Below.heap_setCell _ _ _ _ hnL))
          have HE2 : Hid ((V.setCell ⟨w2.heap.size, 0, none⟩ (.slice (some ⟨gR, 0, none⟩) n n)).heap[w2.heap.size]? = some (.cells #[.slice (some ⟨gR, 0, none⟩) n n] 25 (0, 0))) := hide (box_set HE.out _)
          go_simp
          refine hK.out _ _ (show Below W1.heap.size W1 _ from (hHeld.setCell (p := ⟨w2.heap.size, 0, none⟩) hEB _)) (fun hHeld => ?_)
          clear hK K
          refine take_to (i := 7) (d := 4) (v := ?_) rfl rfl (by kernel_rfl) (by kernel_rfl) (by kernel_rfl) (fun _ _ _ h => h) (Or.inl ⟨by rfl, ?_⟩) (by assumption) ?_
          rotate_left 1
          . intro W hSw
            obtain ⟨x0, x1, x2⟩ := HX.out W hSw
            go_simp
            with_reducible rfl
          simp only [Act.put, List.setIfInBounds_toArray, List.set_cons_zero, List.set_cons_succ]
          refine wpAnyH_done (by kernel_rfl) ?_ _
          go_wp2_with fail
          go_meet
          case rel => exact ⟨w2.heap.size, gR, w2.heap.size + 1, rfl, rfl, HE2, HR2, HL2, hneL, hEB, hRB, hLB, hide hHeld⟩
        . generalize (w2.alloc (.cells #[.slice none 0 0] 25)) = V at *
          have hcE := cell_of_row _ _ 0 _ _ _ HE.out
          have hfE : V.frozen? ⟨w2.heap.size, 0, none⟩ = false := by simp [World.frozen?, HE.out]
          simp only [List.getElem?_toArray, List.getElem?_cons_zero] at hcE
          have hnR : gR ≠ w2.heap.size := rk_box HR.out HE.out
          have HR2 : Hid (Rk (V.setCell ⟨w2.heap.size, 0, none⟩ (.slice (some ⟨gR, 0, none⟩) n n)) gR 3 n (fun j => .int .i64 (f j))) := hide (HR.out.of_block (Below.heap_setCell _ _ _ _ hnR))
          have HE2 : Hid ((V.setCell ⟨w2.heap.size, 0, none⟩ (.slice (some ⟨gR, 0, none⟩) n n)).heap[w2.heap.size]? = some (.cells #[.slice (some ⟨gR, 0, none⟩) n n] 25 (0, 0))) := hide (box_set HE.out _)
          go_simp
          refine hK.out _ _ (show Below W1.heap.size W1 _ from (hHeld.setCell (p := ⟨w2.heap.size, 0, none⟩) hEB _)) (fun hHeld => ?_)
          clear hK K
          refine wpAnyH_ready (rs := [4]) (by kernel_rfl) (by simp) ?_
          refine AllReadyH.cons (o := { dst := some 10, op := Op.makeSlice 25 (Operand.tmp 9) (Operand.tmp 9), type := 25, pos := "moments.go:75", after := #[{ on := 3, ground := Ground.data }, { on := 3, ground := Ground.data }], guard := none }) rfl (fun K hK => ?_) AllReadyH.nil
          go_simp
          have hLB : W1.heap.size <= V.heap.size := Nat.le_trans hHeld.size (Nat.le_of_eq (by simp))
          have hneL : gR ≠ V.heap.size := fun e => by have := HR.out.lt; omega
          refine hK.out _ _ (show Below W1.heap.size W1 _ from (hHeld.alloc hHeld.size (.cells (madeCells #[.int .i64 0] n) 3))) (fun hHeld => ?_)
          clear hK K
          replace HR2 := hide (HR2.out.below (bnew (V.setCell ⟨w2.heap.size, 0, none⟩ (.slice (some ⟨gR, 0, none⟩) n n)) (.cells (madeCells #[.int .i64 0] n) 3)))
          replace HE2 := hide (((bnew (V.setCell ⟨w2.heap.size, 0, none⟩ (.slice (some ⟨gR, 0, none⟩) n n)) (.cells (madeCells #[.int .i64 0] n) 3)).block _ (Array.getElem?_eq_some_iff.1 HE2.out).1).trans HE2.out)
          have HL2 : Hid (Rk ((V.setCell ⟨w2.heap.size, 0, none⟩ (.slice (some ⟨gR, 0, none⟩) n n)).alloc (.cells (madeCells #[.int .i64 0] n) 3)) V.heap.size 3 n (fun _ => .int .i64 0)) := hide (made19 (V.setCell ⟨w2.heap.size, 0, none⟩ (.slice (some ⟨gR, 0, none⟩) n n)) n V.heap.size (by simp))
          try simp only [Act.put, List.setIfInBounds_toArray, List.set_cons_zero, List.set_cons_succ]
          refine take_to (i := 7) (d := 4) (v := ?_) rfl rfl (by kernel_rfl) (by kernel_rfl) (by kernel_rfl) (fun _ _ _ h => h) (Or.inl ⟨by rfl, ?_⟩) (by assumption) ?_
          rotate_left 1
          . intro W hSw
            obtain ⟨x0, x1, x2⟩ := HX.out W hSw
            go_simp
            with_reducible rfl
          simp only [Act.put, List.setIfInBounds_toArray, List.set_cons_zero, List.set_cons_succ]
          refine wpAnyH_done (by kernel_rfl) ?_ _
          go_wp2_with fail
          go_meet
          case rel => exact ⟨w2.heap.size, gR, V.heap.size, rfl, rfl, HE2, HR2, HL2, hneL, hEB, hRB, hLB, hide hHeld⟩
    . go_simp
      have hLB : W1.heap.size <= W1.heap.size := Nat.le_trans hHeld.size (Nat.le_of_eq (by first | rfl | simp))
      refine hK.out _ _ (show Below W1.heap.size W1 _ from (hHeld.alloc hHeld.size (.cells (madeCells #[.int .i64 0] n) 3))) (fun hHeld => ?_)
      clear hK K
      have HL : Hid (Rk (W1.drew.alloc (.cells (madeCells #[.int .i64 0] n) 3)) (W1.heap.size) 3 n (fun _ => .int .i64 0)) := hide (made19 W1.drew n (W1.heap.size) (by simp))
      try simp only [Act.put, List.setIfInBounds_toArray, List.set_cons_zero, List.set_cons_succ]
      refine wpAnyH_ready (rs := [1, 5]) (by kernel_rfl) (by simp) ?_
      refine AllReadyH.cons (o := { dst := some 7, op := Op.call { callee := Callee.value (Operand.func 30), args := #[Operand.tmp 6], argTypes := #[22] }, type := 25, pos := "moments.go:75", after := #[{ on := 0, ground := Ground.data }], guard := none }) rfl (fun K hK => ?_) (AllReadyH.cons (o := { dst := some 3, op := Op.alloc 25, type := 0, pos := "moments.go:75", after := #[], guard := none }) rfl (fun K hK => ?_) AllReadyH.nil)
      . go_simp
        go_at_call 30
        refine (c1 _ hHeld).mono ?_
        rintro e w2 ⟨gR, rfl, hR, hgR, hb⟩
        have hneL : gR ≠ W1.heap.size := fun e => by have h1 := HL.out.lt; have h3 : ((W1.drew.alloc (.cells (madeCells #[.int .i64 0] n) 3))).heap.size <= gR := hgR; omega
        replace HL := hide (HL.out.below hb)
        have hb' := Below.trans hHeld (hb.mono hHeld.size)
        have HR := hide hR
        have hRB : W1.heap.size <= gR := Nat.le_trans hHeld.size hgR
        go_wp2_with fail
        refine hK.out _ _ (show Below W1.heap.size W1 w2 from hb') (fun hHeld => ?_)
        clear hK K hb' hR hgR
        try simp only [Act.put, List.setIfInBounds_toArray, List.set_cons_zero, List.set_cons_succ]
        refine wpAnyH_ready (rs := [5]) (by kernel_rfl) (by simp) ?_
        refine AllReadyH.cons (o := { dst := some 3, op := Op.alloc 25, type := 0, pos := "moments.go:75", after := #[], guard := none }) rfl (fun K hK => ?_) AllReadyH.nil
        go_simp
        have hEB : W1.heap.size <= w2.heap.size := Nat.le_trans hHeld.size (Nat.le_of_eq (by first | rfl | simp))
        refine hK.out _ _ (show Below W1.heap.size W1 _ from (hHeld.alloc hHeld.size (.cells #[.slice none 0 0] 25))) (fun hHeld => ?_)
        clear hK K
        replace HL := hide (HL.out.below (bnew w2 (.cells #[.slice none 0 0] 25)))
        replace HR := hide (HR.out.below (bnew w2 (.cells #[.slice none 0 0] 25)))
        have HE : Hid ((w2.alloc (.cells #[.slice none 0 0] 25)).heap[w2.heap.size]? = some (.cells #[.slice none 0 0] 25 (0, 0))) := hide (box19 w2 _ (w2.heap.size) (by simp))
        try simp only [Act.put, List.setIfInBounds_toArray, List.set_cons_zero, List.set_cons_succ]
        refine wpAnyH_ready (rs := [6]) (by kernel_rfl) (by simp) ?_
        refine AllReadyH.cons (o := { dst := none, op := Op.store 25 (Operand.tmp 3) (Operand.tmp 7), type := 0, pos := "moments.go:75", after := #[{ on := 5, ground := Ground.data }, { on := 1, ground := Ground.data }, { on := 1, ground := Ground.chain }, { on := 0, ground := Ground.phase }, { on := 1, ground := Ground.phase }, { on := 2, ground := Ground.textOnly Departure.lateStores }, { on := 3, ground := Ground.textOnly Departure.lateStoresUnsure }, { on := 4, ground := Ground.textOnly Departure.lateStoresUnsure }, { on := 5, ground := Ground.phase }], guard := none }) rfl (fun K hK => ?_) AllReadyH.nil
        generalize (w2.alloc (.cells #[.slice none 0 0] 25)) = V at *
        have hcE := cell_of_row _ _ 0 _ _ _ HE.out
        have hfE : V.frozen? ⟨w2.heap.size, 0, none⟩ = false := by simp [World.frozen?, HE.out]
        simp only [List.getElem?_toArray, List.getElem?_cons_zero] at hcE
        have hnR : gR ≠ w2.heap.size := rk_box HR.out HE.out
        have hnL : W1.heap.size ≠ w2.heap.size := rk_box HL.out HE.out
        have HR2 : Hid (Rk (V.setCell ⟨w2.heap.size, 0, none⟩ (.slice (some ⟨gR, 0, none⟩) n n)) gR 3 n (fun j => .int .i64 (f j))) := hide (HR.out.of_block (Below.heap_setCell _ _ _ _ hnR))
        have HL2 : Hid (Rk (V.setCell ⟨w2.heap.size, 0, none⟩ (.slice (some ⟨gR, 0, none⟩) n n)) (W1.heap.size) 3 n (fun _ => .int .i64 0)) := hide (HL.out.of_block (Below.heap_setCell _ _ _ _ hnL))
        have HE2 : Hid ((V.setCell ⟨w2.heap.size, 0, none⟩ (.slice (some ⟨gR, 0, none⟩) n n)).heap[w2.heap.size]? = some (.cells #[.slice (some ⟨gR, 0, none⟩) n n] 25 (0, 0))) := hide (box_set HE.out _)
        go_simp
        refine hK.out _ _ (show Below W1.heap.size W1 _ from (hHeld.setCell (p := ⟨w2.heap.size, 0, none⟩) hEB _)) (fun hHeld => ?_)
        clear hK K
        refine take_to (i := 7) (d := 4) (v := ?_) rfl rfl (by kernel_rfl) (by kernel_rfl) (by kernel_rfl) (fun _ _ _ h => h) (Or.inl ⟨by rfl, ?_⟩) (by assumption) ?_
        rotate_left 1
        . intro W hSw
          obtain ⟨x0, x1, x2⟩ := HX.out W hSw
          go_simp
          with_reducible rfl
        simp only [Act.put, List.setIfInBounds_toArray, List.set_cons_zero, List.set_cons_succ]
        refine wpAnyH_done (by kernel_rfl) ?_ _
        go_wp2_with fail
        go_meet
        case rel => exact ⟨w2.heap.size, gR, W1.heap.size, rfl, rfl, HE2, HR2, HL2, hneL, hEB, hRB, hLB, hide hHeld⟩
      . go_simp
        have hEB : W1.heap.size <= W1.heap.size + 1 := Nat.le_trans hHeld.size (Nat.le_of_eq (by first | rfl | simp))
        refine hK.out _ _ (show Below W1.heap.size W1 _ from (hHeld.alloc hHeld.size (.cells #[.slice none 0 0] 25))) (fun hHeld => ?_)
        clear hK K
        replace HL := hide (HL.out.below (bnew (W1.drew.alloc (.cells (madeCells #[.int .i64 0] n) 3)) (.cells #[.slice none 0 0] 25)))
        have HE : Hid (((W1.drew.alloc (.cells (madeCells #[.int .i64 0] n) 3)).alloc (.cells #[.slice none 0 0] 25)).heap[W1.heap.size + 1]? = some (.cells #[.slice none 0 0] 25 (0, 0))) := hide (box19 (W1.drew.alloc (.cells (madeCells #[.int .i64 0] n) 3)) _ (W1.heap.size + 1) (by simp))
        try simp only [Act.put, List.setIfInBounds_toArray, List.set_cons_zero, List.set_cons_succ]
        refine wpAnyH_ready (rs := [1]) (by kernel_rfl) (by simp) ?_
        refine AllReadyH.cons (o := { dst := some 7, op := Op.call { callee := Callee.value (Operand.func 30), args := #[Operand.tmp 6], argTypes := #[22] }, type := 25, pos := "moments.go:75", after := #[{ on := 0, ground := Ground.data }], guard := none }) rfl (fun K hK => ?_) AllReadyH.nil
        go_simp
        go_at_call 30
        refine (c1 _ hHeld).mono ?_
        rintro e w2 ⟨gR, rfl, hR, hgR, hb⟩
        have hneL : gR ≠ W1.heap.size := fun e => by have h1 := HL.out.lt; have h3 : (((W1.drew.alloc (.cells (madeCells #[.int .i64 0] n) 3)).alloc (.cells #[.slice none 0 0] 25))).heap.size <= gR := hgR; omega
        replace HL := hide (HL.out.below hb)
        replace HE := hide ((hb.block _ (Array.getElem?_eq_some_iff.1 HE.out).1).trans HE.out)
        have hb' := Below.trans hHeld (hb.mono hHeld.size)
        have HR := hide hR
        have hRB : W1.heap.size <= gR := Nat.le_trans hHeld.size hgR
        go_wp2_with fail
        refine hK.out _ _ (show Below W1.heap.size W1 w2 from hb') (fun hHeld => ?_)
        clear hK K hb' hR hgR
        try simp only [Act.put, List.setIfInBounds_toArray, List.set_cons_zero, List.set_cons_succ]
        refine wpAnyH_ready (rs := [6]) (by kernel_rfl) (by simp) ?_
        refine AllReadyH.cons (o := { dst := none, op := Op.store 25 (Operand.tmp 3) (Operand.tmp 7), type := 0, pos := "moments.go:75", after := #[{ on := 5, ground := Ground.data }, { on := 1, ground := Ground.data }, { on := 1, ground := Ground.chain }, { on := 0, ground := Ground.phase }, { on := 1, ground := Ground.phase }, { on := 2, ground := Ground.textOnly Departure.lateStores }, { on := 3, ground := Ground.textOnly Departure.lateStoresUnsure }, { on := 4, ground := Ground.textOnly Departure.lateStoresUnsure }, { on := 5, ground := Ground.phase }], guard := none }) rfl (fun K hK => ?_) AllReadyH.nil
        generalize w2 = V at *
        have hcE := cell_of_row _ _ 0 _ _ _ HE.out
        have hfE : V.frozen? ⟨W1.heap.size + 1, 0, none⟩ = false := by simp [World.frozen?, HE.out]
        simp only [List.getElem?_toArray, List.getElem?_cons_zero] at hcE
        have hnR : gR ≠ W1.heap.size + 1 := rk_box HR.out HE.out
        have hnL : W1.heap.size ≠ W1.heap.size + 1 := rk_box HL.out HE.out
        have HR2 : Hid (Rk (V.setCell ⟨W1.heap.size + 1, 0, none⟩ (.slice (some ⟨gR, 0, none⟩) n n)) gR 3 n (fun j => .int .i64 (f j))) := hide (HR.out.of_block (Below.heap_setCell _ _ _ _ hnR))
        have HL2 : Hid (Rk (V.setCell ⟨W1.heap.size + 1, 0, none⟩ (.slice (some ⟨gR, 0, none⟩) n n)) (W1.heap.size) 3 n (fun _ => .int .i64 0)) := hide (HL.out.of_block (Below.heap_setCell _ _ _ _ hnL))
        have HE2 : Hid ((V.setCell ⟨W1.heap.size + 1, 0, none⟩ (.slice (some ⟨gR, 0, none⟩) n n)).heap[W1.heap.size + 1]? = some (.cells #[.slice (some ⟨gR, 0, none⟩) n n] 25 (0, 0))) := hide (box_set HE.out _)
        go_simp
        refine hK.out _ _ (show Below W1.heap.size W1 _ from (hHeld.setCell (p := ⟨W1.heap.size + 1, 0, none⟩) hEB _)) (fun hHeld => ?_)
        clear hK K
        refine take_to (i := 7) (d := 4) (v := ?_) rfl rfl (by kernel_rfl) (by kernel_rfl) (by kernel_rfl) (fun _ _ _ h => h) (Or.inl ⟨by rfl, ?_⟩) (by assumption) ?_
        rotate_left 1
        . intro W hSw
          obtain ⟨x0, x1, x2⟩ := HX.out W hSw
          go_simp
          with_reducible rfl
        simp only [Act.put, List.setIfInBounds_toArray, List.set_cons_zero, List.set_cons_succ]
        refine wpAnyH_done (by kernel_rfl) ?_ _
        go_wp2_with fail
        go_meet
        case rel => exact ⟨W1.heap.size + 1, gR, W1.heap.size, rfl, rfl, HE2, HR2, HL2, hneL, hEB, hRB, hLB, hide hHeld⟩
    . go_simp
      have hEB : W1.heap.size <= W1.heap.size := Nat.le_trans hHeld.size (Nat.le_of_eq (by first | rfl | simp))
      refine hK.out _ _ (show Below W1.heap.size W1 _ from (hHeld.alloc hHeld.size (.cells #[.slice none 0 0] 25))) (fun hHeld => ?_)
      clear hK K
      have HE : Hid ((W1.drew.alloc (.cells #[.slice none 0 0] 25)).heap[W1.heap.size]? = some (.cells #[.slice none 0 0] 25 (0, 0))) := hide (box19 W1.drew _ (W1.heap.size) (by simp))
      try simp only [Act.put, List.setIfInBounds_toArray, List.set_cons_zero, List.set_cons_succ]
      refine wpAnyH_ready (rs := [1, 4]) (by kernel_rfl) (by simp) ?_
      refine AllReadyH.cons (o := { dst := some 7, op := Op.call { callee := Callee.value (Operand.func 30), args := #[Operand.tmp 6], argTypes := #[22] }, type := 25, pos := "moments.go:75", after := #[{ on := 0, ground := Ground.data }], guard := none }) rfl (fun K hK => ?_) (AllReadyH.cons (o := { dst := some 10, op := Op.makeSlice 25 (Operand.tmp 9) (Operand.tmp 9), type := 25, pos := "moments.go:75", after := #[{ on := 3, ground := Ground.data }, { on := 3, ground := Ground.data }], guard := none }) rfl (fun K hK => ?_) AllReadyH.nil)
      . go_simp
        go_at_call 30
        refine (c1 _ hHeld).mono ?_
        rintro e w2 ⟨gR, rfl, hR, hgR, hb⟩
        replace HE := hide ((hb.block _ (Array.getElem?_eq_some_iff.1 HE.out).1).trans HE.out)
        have hb' := Below.trans hHeld (hb.mono hHeld.size)
        have HR := hide hR
        have hRB : W1.heap.size <= gR := Nat.le_trans hHeld.size hgR
        go_wp2_with fail
        refine hK.out _ _ (show Below W1.heap.size W1 w2 from hb') (fun hHeld => ?_)
        clear hK K hb' hR hgR
        try simp only [Act.put, List.setIfInBounds_toArray, List.set_cons_zero, List.set_cons_succ]
        refine wpAnyH_ready (rs := [4, 6]) (by kernel_rfl) (by simp) ?_
        refine AllReadyH.cons (o := { dst := some 10, op := Op.makeSlice 25 (Operand.tmp 9) (Operand.tmp 9), type := 25, pos := "moments.go:75", after := #[{ on := 3, ground := Ground.data }, { on := 3, ground := Ground.data }], guard := none }) rfl (fun K hK => ?_) (AllReadyH.cons (o := { dst := none, op := Op.store 25 (Operand.tmp 3) (Operand.tmp 7), type := 0, pos := "moments.go:75", after := #[{ on := 5, ground := Ground.data }, { on := 1, ground := Ground.data }, { on := 1, ground := Ground.chain }, { on := 0, ground := Ground.phase }, { on := 1, ground := Ground.phase }, { on := 2, ground := Ground.textOnly Departure.lateStores }, { on := 3, ground := Ground.textOnly Departure.lateStoresUnsure }, { on := 4, ground := Ground.textOnly Departure.lateStoresUnsure }, { on := 5, ground := Ground.phase }], guard := none }) rfl (fun K hK => ?_) AllReadyH.nil)
        . go_simp
          have hLB : W1.heap.size <= w2.heap.size := Nat.le_trans hHeld.size (Nat.le_of_eq (by first | rfl | simp))
          have hneL : gR ≠ w2.heap.size := fun e => by have := HR.out.lt; have h2 : (w2).heap.size = w2.heap.size := (by first | rfl | simp); omega
          refine hK.out _ _ (show Below W1.heap.size W1 _ from (hHeld.alloc hHeld.size (.cells (madeCells #[.int .i64 0] n) 3))) (fun hHeld => ?_)
          clear hK K
          replace HE := hide (((bnew w2 (.cells (madeCells #[.int .i64 0] n) 3)).block _ (Array.getElem?_eq_some_iff.1 HE.out).1).trans HE.out)
          replace HR := hide (HR.out.below (bnew w2 (.cells (madeCells #[.int .i64 0] n) 3)))
          have HL : Hid (Rk (w2.alloc (.cells (madeCells #[.int .i64 0] n) 3)) (w2.heap.size) 3 n (fun _ => .int .i64 0)) := hide (made19 w2 n (w2.heap.size) (by simp))
          try simp only [Act.put, List.setIfInBounds_toArray, List.set_cons_zero, List.set_cons_succ]
          refine wpAnyH_ready (rs := [6]) (by kernel_rfl) (by simp) ?_
          refine AllReadyH.cons (o := { dst := none, op := Op.store 25 (Operand.tmp 3) (Operand.tmp 7), type := 0, pos := "moments.go:75", after := #[{ on := 5, ground := Ground.data }, { on := 1, ground := Ground.data }, { on := 1, ground := Ground.chain }, { on := 0, ground := Ground.phase }, { on := 1, ground := Ground.phase }, { on := 2, ground := Ground.textOnly Departure.lateStores }, { on := 3, ground := Ground.textOnly Departure.lateStoresUnsure }, { on := 4, ground := Ground.textOnly Departure.lateStoresUnsure }, { on := 5, ground := Ground.phase }], guard := none }) rfl (fun K hK => ?_) AllReadyH.nil
          generalize (w2.alloc (.cells (madeCells #[.int .i64 0] n) 3)) = V at *
          have hcE := cell_of_row _ _ 0 _ _ _ HE.out
          have hfE : V.frozen? ⟨W1.heap.size, 0, none⟩ = false := by simp [World.frozen?, HE.out]
          simp only [List.getElem?_toArray, List.getElem?_cons_zero] at hcE
          have hnR : gR ≠ W1.heap.size := rk_box HR.out HE.out
          have hnL : w2.heap.size ≠ W1.heap.size := rk_box HL.out HE.out
          have HR2 : Hid (Rk (V.setCell ⟨W1.heap.size, 0, none⟩ (.slice (some ⟨gR, 0, none⟩) n n)) gR 3 n (fun j => .int .i64 (f j))) := hide (HR.out.of_block (Below.heap_setCell _ _ _ _ hnR))
          have HL2 : Hid (Rk (V.setCell ⟨W1.heap.size, 0, none⟩ (.slice (some ⟨gR, 0, none⟩) n n)) (w2.heap.size) 3 n (fun _ => .int .i64 0)) := hide (HL.out.of_block (Below.heap_setCell _ _ _ _ hnL))
          have HE2 : Hid ((V.setCell ⟨W1.heap.size, 0, none⟩ (.slice (some ⟨gR, 0, none⟩) n n)).heap[W1.heap.size]? = some (.cells #[.slice (some ⟨gR, 0, none⟩) n n] 25 (0, 0))) := hide (box_set HE.out _)
          go_simp
          refine hK.out _ _ (show Below W1.heap.size W1 _ from (hHeld.setCell (p := ⟨W1.heap.size, 0, none⟩) hEB _)) (fun hHeld => ?_)
          clear hK K
          refine take_to (i := 7) (d := 4) (v := ?_) rfl rfl (by kernel_rfl) (by kernel_rfl) (by kernel_rfl) (fun _ _ _ h => h) (Or.inl ⟨by rfl, ?_⟩) (by assumption) ?_
          rotate_left 1
          . intro W hSw
            obtain ⟨x0, x1, x2⟩ := HX.out W hSw
            go_simp
            with_reducible rfl
          simp only [Act.put, List.setIfInBounds_toArray, List.set_cons_zero, List.set_cons_succ]
          refine wpAnyH_done (by kernel_rfl) ?_ _
          go_wp2_with fail
          go_meet
          case rel => exact ⟨W1.heap.size, gR, w2.heap.size, rfl, rfl, HE2, HR2, HL2, hneL, hEB, hRB, hLB, hide hHeld⟩
        . generalize w2 = V at *
          have hcE := cell_of_row _ _ 0 _ _ _ HE.out
          have hfE : V.frozen? ⟨W1.heap.size, 0, none⟩ = false := by simp [World.frozen?, HE.out]
          simp only [List.getElem?_toArray, List.getElem?_cons_zero] at hcE
          have hnR : gR ≠ W1.heap.size := rk_box HR.out HE.out
          have HR2 : Hid (Rk (V.setCell ⟨W1.heap.size, 0, none⟩ (.slice (some ⟨gR, 0, none⟩) n n)) gR 3 n (fun j => .int .i64 (f j))) := hide (HR.out.of_block (Below.heap_setCell _ _ _ _ hnR))
          have HE2 : Hid ((V.setCell ⟨W1.heap.size, 0, none⟩ (.slice (some ⟨gR, 0, none⟩) n n)).heap[W1.heap.size]? = some (.cells #[.slice (some ⟨gR, 0, none⟩) n n] 25 (0, 0))) := hide (box_set HE.out _)
          go_simp
          refine hK.out _ _ (show Below W1.heap.size W1 _ from (hHeld.setCell (p := ⟨W1.heap.size, 0, none⟩) hEB _)) (fun hHeld => ?_)
          clear hK K
          refine wpAnyH_ready (rs := [4]) (by kernel_rfl) (by simp) ?_
          refine AllReadyH.cons (o := { dst := some 10, op := Op.makeSlice 25 (Operand.tmp 9) (Operand.tmp 9), type := 25, pos := "moments.go:75", after := #[{ on := 3, ground := Ground.data }, { on := 3, ground := Ground.data }], guard := none }) rfl (fun K hK => ?_) AllReadyH.nil
          go_simp
          have hLB : W1.heap.size <= V.heap.size := Nat.le_trans hHeld.size (Nat.le_of_eq (by simp))
          have hneL : gR ≠ V.heap.size := fun e => by have := HR.out.lt; omega
          refine hK.out _ _ (show Below W1.heap.size W1 _ from (hHeld.alloc hHeld.size (.cells (madeCells #[.int .i64 0] n) 3))) (fun hHeld => ?_)
          clear hK K
          replace HR2 := hide (HR2.out.below (bnew (V.setCell ⟨W1.heap.size, 0, none⟩ (.slice (some ⟨gR, 0, none⟩) n n)) (.cells (madeCells #[.int .i64 0] n) 3)))
          replace HE2 := hide (((bnew (V.setCell ⟨W1.heap.size, 0, none⟩ (.slice (some ⟨gR, 0, none⟩) n n)) (.cells (madeCells #[.int .i64 0] n) 3)).block _ (Array.getElem?_eq_some_iff.1 HE2.out).1).trans HE2.out)
          have HL2 : Hid (Rk ((V.setCell ⟨W1.heap.size, 0, none⟩ (.slice (some ⟨gR, 0, none⟩) n n)).alloc (.cells (madeCells #[.int .i64 0] n) 3)) V.heap.size 3 n (fun _ => .int .i64 0)) := hide (made19 (V.setCell ⟨W1.heap.size, 0, none⟩ (.slice (some ⟨gR, 0, none⟩) n n)) n V.heap.size (by simp))
          try simp only [Act.put, List.setIfInBounds_toArray, List.set_cons_zero, List.set_cons_succ]
          refine take_to (i := 7) (d := 4) (v := ?_) rfl rfl (by kernel_rfl) (by kernel_rfl) (by kernel_rfl) (fun _ _ _ h => h) (Or.inl ⟨by rfl, ?_⟩) (by assumption) ?_
          rotate_left 1
          . intro W hSw
            obtain ⟨x0, x1, x2⟩ := HX.out W hSw
            go_simp
            with_reducible rfl
          simp only [Act.put, List.setIfInBounds_toArray, List.set_cons_zero, List.set_cons_succ]
          refine wpAnyH_done (by kernel_rfl) ?_ _
          go_wp2_with fail
          go_meet
          case rel => exact ⟨W1.heap.size, gR, V.heap.size, rfl, rfl, HE2, HR2, HL2, hneL, hEB, hRB, hLB, hide hHeld⟩
      . go_simp
        have hLB : W1.heap.size <= W1.heap.size + 1 := Nat.le_trans hHeld.size (Nat.le_of_eq (by first | rfl | simp))
        refine hK.out _ _ (show Below W1.heap.size W1 _ from (hHeld.alloc hHeld.size (.cells (madeCells #[.int .i64 0] n) 3))) (fun hHeld => ?_)
        clear hK K
        replace HE := hide (((bnew (W1.drew.alloc (.cells #[.slice none 0 0] 25)) (.cells (madeCells #[.int .i64 0] n) 3)).block _ (Array.getElem?_eq_some_iff.1 HE.out).1).trans HE.out)
        have HL : Hid (Rk ((W1.drew.alloc (.cells #[.slice none 0 0] 25)).alloc (.cells (madeCells #[.int .i64 0] n) 3)) (W1.heap.size + 1) 3 n (fun _ => .int .i64 0)) := hide (made19 (W1.drew.alloc (.cells #[.slice none 0 0] 25)) n (W1.heap.size + 1) (by simp))
        try simp only [Act.put, List.setIfInBounds_toArray, List.set_cons_zero, List.set_cons_succ]
        refine wpAnyH_ready (rs := [1]) (by kernel_rfl) (by simp) ?_
        refine AllReadyH.cons (o := { dst := some 7, op := Op.call { callee := Callee.value (Operand.func 30), args := #[Operand.tmp 6], argTypes := #[22] }, type := 25, pos := "moments.go:75", after := #[{ on := 0, ground := Ground.data }], guard := none }) rfl (fun K hK => ?_) AllReadyH.nil
        go_simp
        go_at_call 30
        refine (c1 _ hHeld).mono ?_
        rintro e w2 ⟨gR, rfl, hR, hgR, hb⟩
        have hneL : gR ≠ W1.heap.size + 1 := fun e => by have h1 := HL.out.lt; have h3 : (((W1.drew.alloc (.cells #[.slice none 0 0] 25)).alloc (.cells (madeCells #[.int .i64 0] n) 3))).heap.size <= gR := hgR; omega
        replace HL := hide (HL.out.below hb)
        replace HE := hide ((hb.block _ (Array.getElem?_eq_some_iff.1 HE.out).1).trans HE.out)
        have hb' := Below.trans hHeld (hb.mono hHeld.size)
        have HR := hide hR
        have hRB : W1.heap.size <= gR := Nat.le_trans hHeld.size hgR
        go_wp2_with fail
        refine hK.out _ _ (show Below W1.heap.size W1 w2 from hb') (fun hHeld => ?_)
        clear hK K hb' hR hgR
        try simp only [Act.put, List.setIfInBounds_toArray, List.set_cons_zero, List.set_cons_succ]
        refine wpAnyH_ready (rs := [6]) (by kernel_rfl) (by simp) ?_
        refine AllReadyH.cons (o := { dst := none, op := Op.store 25 (Operand.tmp 3) (Operand.tmp 7), type := 0, pos := "moments.go:75", after := #[{ on := 5, ground := Ground.data }, { on := 1, ground := Ground.data }, { on := 1, ground := Ground.chain }, { on := 0, ground := Ground.phase }, { on := 1, ground := Ground.phase }, { on := 2, ground := Ground.textOnly Departure.lateStores }, { on := 3, ground := Ground.textOnly Departure.lateStoresUnsure }, { on := 4, ground := Ground.textOnly Departure.lateStoresUnsure }, { on := 5, ground := Ground.phase }], guard := none }) rfl (fun K hK => ?_) AllReadyH.nil
        generalize w2 = V at *
        have hcE := cell_of_row _ _ 0 _ _ _ HE.out
        have hfE : V.frozen? ⟨W1.heap.size, 0, none⟩ = false := by simp [World.frozen?, HE.out]
        simp only [List.getElem?_toArray, List.getElem?_cons_zero] at hcE
        have hnR : gR ≠ W1.heap.size := rk_box HR.out HE.out
        have hnL : W1.heap.size + 1 ≠ W1.heap.size := rk_box HL.out HE.out
        have HR2 : Hid (Rk (V.setCell ⟨W1.heap.size, 0, none⟩ (.slice (some ⟨gR, 0, none⟩) n n)) gR 3 n (fun j => .int .i64 (f j))) := hide (HR.out.of_block (Below.heap_setCell _ _ _ _ hnR))
        have HL2 : Hid (Rk (V.setCell ⟨W1.heap.size, 0, none⟩ (.slice (some ⟨gR, 0, none⟩) n n)) (W1.heap.size + 1) 3 n (fun _ => .int .i64 0)) := hide (HL.out.of_block (Below.heap_setCell _ _ _ _ hnL))
        have HE2 : Hid ((V.setCell ⟨W1.heap.size, 0, none⟩ (.slice (some ⟨gR, 0, none⟩) n n)).heap[W1.heap.size]? = some (.cells #[.slice (some ⟨gR, 0, none⟩) n n] 25 (0, 0))) := hide (box_set HE.out _)
        go_simp
        refine hK.out _ _ (show Below W1.heap.size W1 _ from (hHeld.setCell (p := ⟨W1.heap.size, 0, none⟩) hEB _)) (fun hHeld => ?_)
        clear hK K
        refine take_to (i := 7) (d := 4) (v := ?_) rfl rfl (by kernel_rfl) (by kernel_rfl) (by kernel_rfl) (fun _ _ _ h => h) (Or.inl ⟨by rfl, ?_⟩) (by assumption) ?_
        rotate_left 1
        . intro W hSw
          obtain ⟨x0, x1, x2⟩ := HX.out W hSw
          go_simp
          with_reducible rfl
        simp only [Act.put, List.setIfInBounds_toArray, List.set_cons_zero, List.set_cons_succ]
        refine wpAnyH_done (by kernel_rfl) ?_ _
        go_wp2_with fail
        go_meet
        case rel => exact ⟨W1.heap.size, gR, W1.heap.size + 1, rfl, rfl, HE2, HR2, HL2, hneL, hEB, hRB, hLB, hide hHeld⟩
  case rest =>
    obtain ⟨gM, gR, gL, rfl, rfl, HM4, HR4, HL4, hneL, hgM, hgR, hgL, HW4⟩ := hcut
    have hx4 := (HW4.out.block _ hwx).trans hx1
    have hB4 : Below w.heap.size w wc := hb1.trans (HW4.out.mono hb1.size)
    have hneM : gM ≠ gL := fun e => rk_box HL4.out HM4.out e.symm
    clear mq c1 HX hx1
    go_wp2_with fail
    go_loopw [5, 13] (fun _ vi wr => ∃ i : Nat, i <= n /\ vi = .int .i64 (i : Int) /\ Hid (Rk wr gL 3 n (fun j => .int .i64 (if j < i then (j : Int) else 0))) /\ Hid (wr.heap[gM]? = some (.cells #[.slice (some ⟨gR, 0, none⟩) n n] 25 (0, 0))) /\ Hid (Rk wr gR 3 n (fun j => .int .i64 (f j))) /\ Hid (wr.heap[w.heap.size]? = some (.cells #[.slice ao n k] 22 (0, 0))) /\ Hid (Below w.heap.size w wr)) (fun _ vi _ => n - (intOf vi).toNat)
    case atStart => exact ⟨0, Nat.zero_le _, rfl, hide (HL4.out.congr fun j _ => by rw [if_neg (by omega)]), HM4, HR4, hide hx4, hide hB4⟩
    case round =>
      clear HL4 HM4 HR4 hx4 hB4 HW4
      obtain ⟨i, hi, rfl, HL1, HM1, HR1, HX1, HB1⟩ := hrel
      by_cases h : i < n
      . have hd : decide ((i : Int) < (n : Int)) = true := decide_eq_true (by omega)
        have hkk : (i : Int) < (n : Int) := by omega
        have r0 := HL1.out.cell i h
        have r1 := HL1.out.frozen i
        have r2 := HL1.out.lt
        have HL2 : Hid (Rk (wr.setCell ⟨gL, i, none⟩ (.int .i64 (i : Int))) gL 3 n (fun j => .int .i64 (if j < i + 1 then (j : Int) else 0))) := hide ((HL1.out.set i _).congr fun j hj => by
          by_cases e : j = i
          . rw [if_pos e, if_pos (by omega), e]
          . rw [if_neg e]
            congr 1
            split <;> split <;> first | rfl | omega)
        have HM2 : Hid ((wr.setCell ⟨gL, i, none⟩ (.int .i64 (i : Int))).heap[gM]? = some (.cells #[.slice (some ⟨gR, 0, none⟩) n n] 25 (0, 0))) := hide ((Below.heap_setCell _ _ _ _ hneM).trans HM1.out)
        have HR2 : Hid (Rk (wr.setCell ⟨gL, i, none⟩ (.int .i64 (i : Int))) gR 3 n (fun j => .int .i64 (f j))) := hide (HR1.out.of_block (Below.heap_setCell _ _ _ _ hneL))
        have HX2 : Hid ((wr.setCell ⟨gL, i, none⟩ (.int .i64 (i : Int))).heap[w.heap.size]? = some (.cells #[.slice ao n k] 22 (0, 0))) := hide ((Below.heap_setCell _ _ _ _ (by simp; omega)).trans HX1.out)
        have HB2 : Hid (Below w.heap.size w (wr.setCell ⟨gL, i, none⟩ (.int .i64 (i : Int)))) := hide (HB1.out.setCell (p := ⟨gL, i, none⟩) (by simp; omega) _)
        go_wp2_with fail
        exact ⟨⟨i + 1, by omega, by go_num, HL2, HM2, HR2, HX2, HB2⟩, by simp [intOf]; omega⟩
      . obtain rfl : n = i := by omega
        have hd : decide ((n : Int) < (n : Int)) = false := decide_eq_false (by omega)
        have hfs : (finA n).size = n := by simp [finA]
        have hH : Sort.Holds (encF (n := n)) wr gL 0 (finA n) := fun j hj => by
          have hj' : j < n := by rw [hfs] at hj; exact hj
          have h1 := HL1.out.cell j hj'
          rw [if_pos hj'] at h1
          rw [getElem!_pos _ j hj]
          refine ⟨?_, by rw [Nat.zero_add]; exact HL1.out.frozen j⟩
          rw [Nat.zero_add, h1]
          simp [finA, encF]
        have hcl := cmpLays ops f n HN.out gM gR w.heap.size gL ao k wr HM1.out HR1.out HX1.out hneM hneL (by omega) w.heap.size (fun V hV => HO.out.below (HB1.out.trans hV)) (by omega) HB1.out.size
        have c5 := lSortStable n h20 gL 62 #[.pointer (some ⟨gM, 0, none⟩), .pointer (some ⟨w.heap.size, 0, none⟩)] (fun x y => cfv ops f x.1 y.1) (finA n) hfs wr (enters_of Tryd.func62 (by kernel_rfl) rfl) hcl hH HL1.out.lt
        have HH := hide hH
        have HLT := hide HL1.out.lt
        have HSI : Hid (Sort.insertionSort (ltOf fun (x y : Fin n) => cfv ops f x.1 y.1) (finA n) 0 n = srt ops f n) := hide rfl
        clear hH hcl hfs
        go_wp2_with (go_at_call 61; refine Calls.mono c5 ?_; rintro e w6 ⟨rfl, hS⟩; have HS := hide hS; clear hS c5)
        go_ret
        have hS := HS.out
        rw [HSI.out] at hS
        have hH6 := hS.holds HLT.out HH.out (by rw [HSS.out]; simp [finA])
        refine ⟨gL, rfl, .inr ⟨gL, 0, rfl, fun j z hz => ?_⟩, HB1.out.trans (sw_keep hS (by omega) HB1.out.size)⟩
        have hj : j < (srt ops f n).size := by have := (List.getElem?_eq_some_iff.1 hz).1; simpa using this
        have h1 := (hH6 j hj).1
        rw [getElem!_pos _ j hj] at h1
        rw [h1]
        have e := (List.getElem?_eq_some_iff.1 hz).2
        simp at e
        rw [← e]
        rfl
structure Ord (n : Nat) (p : List Nat) : Prop where
  len : p.length = n
  lt : ∀ i ∈ p, i < n
  all : ∀ i, i < n -> i ∈ p
  nd : p.Nodup
end Go.Proofs.YthndpbjplcphpaaDoor.Lay
