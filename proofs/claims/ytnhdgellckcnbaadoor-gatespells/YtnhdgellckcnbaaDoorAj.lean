/- Package gate: Matrix. -/
import Derived.Test.YtnhdgellckcnbaaDoorAi
namespace Go.Proofs.YtnhdgellckcnbaaDoor.Gt
open Go.RowKit Go.Proofs.YtnhdgellckcnbaaDoor.Oct
theorem results_ct' {P : Program} {fn : Func} {p u : Tmp} {ty : TypeId} (h : fn.results = #[.cell p ty, .tmp u]) (tmps : Array Value) (w : World) (g : Nat) (t : TypeId) (cs : Array Value) (fr : Nat × Nat) (d : TypeDesc) (x : Value)
    (hp : tmps.getD p undef = .pointer (some ⟨g, 0, none⟩)) (hx : tmps.getD u undef = x) (hg : w.heap[g]? = some (.cells cs t fr))
    (hu : P.underlying ty = some d) (hd : (match d with | .struct _ | .array _ _ => true | _ => false) = true) (hi : (P.info? ty).map (·.size) = some cs.size) :
    (results fn tmps).run P w = .ok (.tuple #[.agg cs, x]) w := by
  rw [← hx]; exact results_ct h tmps w g t cs fr d hp hg hu hd hi

set_option maxRecDepth 100000 in
set_option maxHeartbeats 1000000 in
theorem gMat_m1 (k : Nat) (hq : (rw' (k : Int)).q = 1) (hh : hvB (rw' (k : Int)) = false) (hin : ∀ x, x < 2 → (k, x) ∈ mvCases) (w : World) (hT : Tb w) (hD : Td w) :
    Calls Tryd.prog 8 #[.int .i64 (k : Int)] w (MPost w k 2 4) := by
  have cK := fun w hT => gKnown (k : Int) w hT
  have cA := fun w hT => gArity (k : Int) w hT
  have cH := fun w hT => gHalving (k : Int) w hT
  have HM : ∀ j, mbs k j = mbit k (j / 2) (j % 2) := fun j => by unfold mbs; rw [hh, hq]; rfl
  rw [hq] at cK cA
  rw [hh] at cH
  rw [show decide ((0 : Int) < 1) = true from rfl] at cK
  have h0 := heap2_0 w (.cells #[.int .i64 (k : Int)] 22) (.cells #[.int .i64 0, .slice none 0 0] 25)
  have h1 := heap2_1 w (.cells #[.int .i64 (k : Int)] 22) (.cells #[.int .i64 0, .slice none 0 0] 25)
  have b0 : Below w.heap.size w ((w.alloc (.cells #[.int .i64 (k : Int)] 22)).alloc (.cells #[.int .i64 0, .slice none 0 0] 25)) := (below_new w _).trans ((below_new _ _).mono (by simp))
  have hs0 : ((w.alloc (.cells #[.int .i64 (k : Int)] 22)).alloc (.cells #[.int .i64 0, .slice none 0 0] 25)).heap.size = w.heap.size + 1 + 1 := by simp
  have HH := hide HM
  clear HM hq hh
  go_enter Tryd.func8, Tryd.ntmps8
  have k0 := cell_of_row _ _ 0 _ _ _ h0
  simp only [List.getElem?_toArray, List.getElem?_cons_zero] at k0
  go_wp2_with fail
  generalize (w.alloc (.cells #[.int .i64 (k : Int)] 22)).alloc (.cells #[.int .i64 0, .slice none 0 0] 25) = W0 at *
  refine (cK _ (hT.below b0)).mono ?_
  rintro e w1 ⟨rfl, q1⟩
  have k1 := (q1.cell (p := ⟨w.heap.size, 0, none⟩) (by simp; omega)).trans k0
  go_wp2_with fail
  refine (cA _ ((hT.below b0).below q1)).mono ?_
  rintro e w2 ⟨rfl, q2⟩
  replace q2 := q1.trans (q2.mono q1.size)
  have k2 := (q2.cell (p := ⟨w.heap.size, 0, none⟩) (by simp; omega)).trans k0
  clear k1 q1
  go_wp2_with fail
  refine (cH _ ((hT.below b0).below q2)).mono ?_
  rintro e w3 ⟨rfl, q3⟩
  replace q3 := q2.trans (q3.mono q2.size)
  have k3 := (q3.cell (p := ⟨w.heap.size, 0, none⟩) (by simp; omega)).trans k0
  clear k2 q2 cK cA cH k0
  have hT3 := (hT.below b0).below q3
  have hD3 := (hD.below b0).below q3
  have cF := gFill_M2 w.heap.size (fun j p => p = mbs k j) w3 (fun wr hb row col hr hc => by
    have := gMatrix1 k row col w.heap.size (hin col hc) wr (hT3.below hb) (hD3.below hb) ((hb.cell (by have := q3.size; simp; omega)).trans k3)
    refine this.mono ?_
    rintro e w' ⟨rfl, hb'⟩
    refine ⟨_, rfl, ?_, hb'⟩
    rw [HH.out, show (row * 2 + col) / 2 = row by omega, show (row * 2 + col) % 2 = col by omega])
  clear hin hT hD hT3 hD3 k3 HH
  go_wp2_with fail
  refine cF.mono ?_
  rintro e w4 ⟨g, f, rfl, hR, hf, hg, q4⟩
  replace q4 := q3.trans (q4.mono q3.size)
  have h4 := (q4.block (w.heap.size + 1) (by omega)).trans h1
  have hgs := q3.size
  clear cF h0 h1 q3
  go_wp2_with (refine wpList_store_row rfl _ _ _ rfl (w.heap.size + 1) _ rfl rfl _ _ h4 (by exact infoM) (by rfl) (allM _ _ _ _) ?_)
  refine bodyPost_ret (results_ct' rfl _ _ (w.heap.size + 1) _ _ _ _ _ rfl rfl (setRow_heap _ _ _ _ _ _ h4) Tryd.underlying25 rfl (by exact infoM)) rfl ?_
  refine ⟨g, rfl, (hR.of_block (setRow_other _ _ _ _ (by omega))).congr (fun j hj => by rw [hf j hj]), by omega, below_setRow (b0.trans (q4.mono b0.size)) (by omega) _⟩

set_option maxRecDepth 100000 in
set_option maxHeartbeats 1000000 in
theorem gMat_m2 (k : Nat) (hq : (rw' (k : Int)).q = 2) (hh : hvB (rw' (k : Int)) = false) (hin : ∀ x, x < 4 → (k, x) ∈ mvCases) (w : World) (hT : Tb w) (hD : Td w) :
    Calls Tryd.prog 8 #[.int .i64 (k : Int)] w (MPost w k 4 16) := by
  have cK := fun w hT => gKnown (k : Int) w hT
  have cA := fun w hT => gArity (k : Int) w hT
  have cH := fun w hT => gHalving (k : Int) w hT
  have HM : ∀ j, mbs k j = mbit k (j / 4) (j % 4) := fun j => by unfold mbs; rw [hh, hq]; rfl
  rw [hq] at cK cA
  rw [hh] at cH
  rw [show decide ((0 : Int) < 2) = true from rfl] at cK
  have h0 := heap2_0 w (.cells #[.int .i64 (k : Int)] 22) (.cells #[.int .i64 0, .slice none 0 0] 25)
  have h1 := heap2_1 w (.cells #[.int .i64 (k : Int)] 22) (.cells #[.int .i64 0, .slice none 0 0] 25)
  have b0 : Below w.heap.size w ((w.alloc (.cells #[.int .i64 (k : Int)] 22)).alloc (.cells #[.int .i64 0, .slice none 0 0] 25)) := (below_new w _).trans ((below_new _ _).mono (by simp))
  have hs0 : ((w.alloc (.cells #[.int .i64 (k : Int)] 22)).alloc (.cells #[.int .i64 0, .slice none 0 0] 25)).heap.size = w.heap.size + 1 + 1 := by simp
  have HH := hide HM
  clear HM hq hh
  go_enter Tryd.func8, Tryd.ntmps8
  have k0 := cell_of_row _ _ 0 _ _ _ h0
  simp only [List.getElem?_toArray, List.getElem?_cons_zero] at k0
  go_wp2_with fail
  generalize (w.alloc (.cells #[.int .i64 (k : Int)] 22)).alloc (.cells #[.int .i64 0, .slice none 0 0] 25) = W0 at *
  refine (cK _ (hT.below b0)).mono ?_
  rintro e w1 ⟨rfl, q1⟩
  have k1 := (q1.cell (p := ⟨w.heap.size, 0, none⟩) (by simp; omega)).trans k0
  go_wp2_with fail
  refine (cA _ ((hT.below b0).below q1)).mono ?_
  rintro e w2 ⟨rfl, q2⟩
  replace q2 := q1.trans (q2.mono q1.size)
  have k2 := (q2.cell (p := ⟨w.heap.size, 0, none⟩) (by simp; omega)).trans k0
  clear k1 q1
  go_wp2_with fail
  refine (cH _ ((hT.below b0).below q2)).mono ?_
  rintro e w3 ⟨rfl, q3⟩
  replace q3 := q2.trans (q3.mono q2.size)
  have k3 := (q3.cell (p := ⟨w.heap.size, 0, none⟩) (by simp; omega)).trans k0
  clear k2 q2 cK cA cH k0
  have hT3 := (hT.below b0).below q3
  have hD3 := (hD.below b0).below q3
  have cF := gFill_M4 w.heap.size (fun j p => p = mbs k j) w3 (fun wr hb row col hr hc => by
    have := gMatrix1 k row col w.heap.size (hin col hc) wr (hT3.below hb) (hD3.below hb) ((hb.cell (by have := q3.size; simp; omega)).trans k3)
    refine this.mono ?_
    rintro e w' ⟨rfl, hb'⟩
    refine ⟨_, rfl, ?_, hb'⟩
    rw [HH.out, show (row * 4 + col) / 4 = row by omega, show (row * 4 + col) % 4 = col by omega])
  clear hin hT hD hT3 hD3 k3 HH
  go_wp2_with fail
  refine cF.mono ?_
  rintro e w4 ⟨g, f, rfl, hR, hf, hg, q4⟩
  replace q4 := q3.trans (q4.mono q3.size)
  have h4 := (q4.block (w.heap.size + 1) (by omega)).trans h1
  have hgs := q3.size
  clear cF h0 h1 q3
  go_wp2_with (refine wpList_store_row rfl _ _ _ rfl (w.heap.size + 1) _ rfl rfl _ _ h4 (by exact infoM) (by rfl) (allM _ _ _ _) ?_)
  refine bodyPost_ret (results_ct' rfl _ _ (w.heap.size + 1) _ _ _ _ _ rfl rfl (setRow_heap _ _ _ _ _ _ h4) Tryd.underlying25 rfl (by exact infoM)) rfl ?_
  refine ⟨g, rfl, (hR.of_block (setRow_other _ _ _ _ (by omega))).congr (fun j hj => by rw [hf j hj]), by omega, below_setRow (b0.trans (q4.mono b0.size)) (by omega) _⟩

set_option maxRecDepth 100000 in
set_option maxHeartbeats 1000000 in
theorem gMat_m3 (k : Nat) (hq : (rw' (k : Int)).q = 3) (hh : hvB (rw' (k : Int)) = false) (hin : ∀ x, x < 8 → (k, x) ∈ mvCases) (w : World) (hT : Tb w) (hD : Td w) :
    Calls Tryd.prog 8 #[.int .i64 (k : Int)] w (MPost w k 8 64) := by
  have cK := fun w hT => gKnown (k : Int) w hT
  have cA := fun w hT => gArity (k : Int) w hT
  have cH := fun w hT => gHalving (k : Int) w hT
  have HM : ∀ j, mbs k j = mbit k (j / 8) (j % 8) := fun j => by unfold mbs; rw [hh, hq]; rfl
  rw [hq] at cK cA
  rw [hh] at cH
  rw [show decide ((0 : Int) < 3) = true from rfl] at cK
  have h0 := heap2_0 w (.cells #[.int .i64 (k : Int)] 22) (.cells #[.int .i64 0, .slice none 0 0] 25)
  have h1 := heap2_1 w (.cells #[.int .i64 (k : Int)] 22) (.cells #[.int .i64 0, .slice none 0 0] 25)
  have b0 : Below w.heap.size w ((w.alloc (.cells #[.int .i64 (k : Int)] 22)).alloc (.cells #[.int .i64 0, .slice none 0 0] 25)) := (below_new w _).trans ((below_new _ _).mono (by simp))
  have hs0 : ((w.alloc (.cells #[.int .i64 (k : Int)] 22)).alloc (.cells #[.int .i64 0, .slice none 0 0] 25)).heap.size = w.heap.size + 1 + 1 := by simp
  have HH := hide HM
  clear HM hq hh
  go_enter Tryd.func8, Tryd.ntmps8
  have k0 := cell_of_row _ _ 0 _ _ _ h0
  simp only [List.getElem?_toArray, List.getElem?_cons_zero] at k0
  go_wp2_with fail
  generalize (w.alloc (.cells #[.int .i64 (k : Int)] 22)).alloc (.cells #[.int .i64 0, .slice none 0 0] 25) = W0 at *
  refine (cK _ (hT.below b0)).mono ?_
  rintro e w1 ⟨rfl, q1⟩
  have k1 := (q1.cell (p := ⟨w.heap.size, 0, none⟩) (by simp; omega)).trans k0
  go_wp2_with fail
  refine (cA _ ((hT.below b0).below q1)).mono ?_
  rintro e w2 ⟨rfl, q2⟩
  replace q2 := q1.trans (q2.mono q1.size)
  have k2 := (q2.cell (p := ⟨w.heap.size, 0, none⟩) (by simp; omega)).trans k0
  clear k1 q1
  go_wp2_with fail
  refine (cH _ ((hT.below b0).below q2)).mono ?_
  rintro e w3 ⟨rfl, q3⟩
  replace q3 := q2.trans (q3.mono q2.size)
  have k3 := (q3.cell (p := ⟨w.heap.size, 0, none⟩) (by simp; omega)).trans k0
  clear k2 q2 cK cA cH k0
  have hT3 := (hT.below b0).below q3
  have hD3 := (hD.below b0).below q3
  have cF := gFill_M8 w.heap.size (fun j p => p = mbs k j) w3 (fun wr hb row col hr hc => by
    have := gMatrix1 k row col w.heap.size (hin col hc) wr (hT3.below hb) (hD3.below hb) ((hb.cell (by have := q3.size; simp; omega)).trans k3)
    refine this.mono ?_
    rintro e w' ⟨rfl, hb'⟩
    refine ⟨_, rfl, ?_, hb'⟩
    rw [HH.out, show (row * 8 + col) / 8 = row by omega, show (row * 8 + col) % 8 = col by omega])
  clear hin hT hD hT3 hD3 k3 HH
  go_wp2_with fail
  refine cF.mono ?_
  rintro e w4 ⟨g, f, rfl, hR, hf, hg, q4⟩
  replace q4 := q3.trans (q4.mono q3.size)
  have h4 := (q4.block (w.heap.size + 1) (by omega)).trans h1
  have hgs := q3.size
  clear cF h0 h1 q3
  go_wp2_with (refine wpList_store_row rfl _ _ _ rfl (w.heap.size + 1) _ rfl rfl _ _ h4 (by exact infoM) (by rfl) (allM _ _ _ _) ?_)
  refine bodyPost_ret (results_ct' rfl _ _ (w.heap.size + 1) _ _ _ _ _ rfl rfl (setRow_heap _ _ _ _ _ _ h4) Tryd.underlying25 rfl (by exact infoM)) rfl ?_
  refine ⟨g, rfl, (hR.of_block (setRow_other _ _ _ _ (by omega))).congr (fun j hj => by rw [hf j hj]), by omega, below_setRow (b0.trans (q4.mono b0.size)) (by omega) _⟩

set_option maxRecDepth 100000 in
theorem gHalves_7 (w : World) : Calls Tryd.prog 26 #[.int .i64 7] w fun e w' => e = .returned (.slice (some ⟨w.heap.size, 0, none⟩) 4 4) ∧ w' = w.alloc (.cells #[.complex .f64 4602678819172646912 4602678819172646912, .complex .f64 4602678819172646912 13826050856027422720, .complex .f64 4602678819172646912 13826050856027422720, .complex .f64 4602678819172646912 4602678819172646912] 34) := by
  go_enter Tryd.func26, Tryd.ntmps26
  go_wp2_with fail
  go_ret
  exact ⟨rfl, rfl⟩
set_option maxRecDepth 100000 in
set_option maxHeartbeats 1000000 in
theorem gMat_7 (w : World) (hT : Tb w) : Calls Tryd.prog 8 #[.int .i64 7] w (MPost w 7 2 4) := by
  have cK := fun w hT => gKnown 7 w hT
  have cA := fun w hT => gArity 7 w hT
  have cH := fun w hT => gHalving 7 w hT
  rw [show (rw' 7).q = 1 from by decide +kernel] at cK cA
  rw [show hvB (rw' 7) = true from by decide +kernel] at cH
  rw [show decide ((0 : Int) < 1) = true from rfl] at cK
  have h0 := heap2_0 w (.cells #[.int .i64 7] 22) (.cells #[.int .i64 0, .slice none 0 0] 25)
  have h1 := heap2_1 w (.cells #[.int .i64 7] 22) (.cells #[.int .i64 0, .slice none 0 0] 25)
  have b0 : Below w.heap.size w ((w.alloc (.cells #[.int .i64 7] 22)).alloc (.cells #[.int .i64 0, .slice none 0 0] 25)) := (below_new w _).trans ((below_new _ _).mono (by simp))
  have hs0 : ((w.alloc (.cells #[.int .i64 7] 22)).alloc (.cells #[.int .i64 0, .slice none 0 0] 25)).heap.size = w.heap.size + 1 + 1 := by simp
  have cV := gHalves_7
  go_enter Tryd.func8, Tryd.ntmps8
  have k0 := cell_of_row _ _ 0 _ _ _ h0
  simp only [List.getElem?_toArray, List.getElem?_cons_zero] at k0
  go_wp2_with fail
  generalize (w.alloc (.cells #[.int .i64 7] 22)).alloc (.cells #[.int .i64 0, .slice none 0 0] 25) = W0 at *
  refine (cK _ (hT.below b0)).mono ?_
  rintro e w1 ⟨rfl, q1⟩
  have k1 := (q1.cell (p := ⟨w.heap.size, 0, none⟩) (by simp; omega)).trans k0
  go_wp2_with fail
  refine (cA _ ((hT.below b0).below q1)).mono ?_
  rintro e w2 ⟨rfl, q2⟩
  replace q2 := q1.trans (q2.mono q1.size)
  have k2 := (q2.cell (p := ⟨w.heap.size, 0, none⟩) (by simp; omega)).trans k0
  clear k1 q1
  go_wp2_with fail
  refine (cH _ ((hT.below b0).below q2)).mono ?_
  rintro e w3 ⟨rfl, q3⟩
  replace q3 := q2.trans (q3.mono q2.size)
  have k3 := (q3.cell (p := ⟨w.heap.size, 0, none⟩) (by simp; omega)).trans k0
  clear k2 q2 cK cA cH k0
  go_wp2_with fail
  refine (cV _).mono ?_
  rintro e w4 ⟨rfl, hw4⟩
  have q4 : Below W0.heap.size W0 w4 := by rw [hw4]; exact q3.trans ((below_new _ _).mono q3.size)
  have hR : Rk w4 w3.heap.size 34 4 (fun j => cx (mbs 7 j)) := by
    rw [hw4]
    refine ⟨_, heap_alloc_new _ _, by simp, ?_⟩
    intro i hi
    have hm : mbs 7 i = (hvL 7).getD i (0, 0) := by unfold mbs; rw [if_pos (by decide +kernel)]
    have hl : i < (hvL 7).length := hi
    show _ = some (cx (mbs 7 i))
    rw [hm, List.getD_eq_getElem?_getD]
    show ((hvL 7).map cx).toArray[i]? = _
    rw [List.getElem?_toArray, List.getElem?_map, List.getElem?_eq_getElem hl]
    rfl
  have h4 := (q4.block (w.heap.size + 1) (by omega)).trans h1
  have hgs := q3.size
  clear cV h0 h1 q3 hw4 k3
  go_wp2_with (refine wpList_store_row rfl _ _ _ rfl (w.heap.size + 1) _ rfl rfl _ _ h4 (by exact infoM) (by rfl) (allM _ _ _ _) ?_)
  refine bodyPost_ret (results_ct' rfl _ _ (w.heap.size + 1) _ _ _ _ _ rfl rfl (setRow_heap _ _ _ _ _ _ h4) Tryd.underlying25 rfl (by exact infoM)) rfl ?_
  refine ⟨w3.heap.size, rfl, hR.of_block (setRow_other _ _ _ _ (by omega)), by omega, below_setRow (b0.trans (q4.mono b0.size)) (by omega) _⟩

set_option maxRecDepth 100000 in
theorem gHalves_8 (w : World) : Calls Tryd.prog 26 #[.int .i64 8] w fun e w' => e = .returned (.slice (some ⟨w.heap.size, 0, none⟩) 4 4) ∧ w' = w.alloc (.cells #[.complex .f64 4602678819172646912 13826050856027422720, .complex .f64 4602678819172646912 4602678819172646912, .complex .f64 4602678819172646912 4602678819172646912, .complex .f64 4602678819172646912 13826050856027422720] 34) := by
  go_enter Tryd.func26, Tryd.ntmps26
  go_wp2_with fail
  go_ret
  exact ⟨rfl, rfl⟩
set_option maxRecDepth 100000 in
set_option maxHeartbeats 1000000 in
theorem gMat_8 (w : World) (hT : Tb w) : Calls Tryd.prog 8 #[.int .i64 8] w (MPost w 8 2 4) := by
  have cK := fun w hT => gKnown 8 w hT
  have cA := fun w hT => gArity 8 w hT
  have cH := fun w hT => gHalving 8 w hT
  rw [show (rw' 8).q = 1 from by decide +kernel] at cK cA
  rw [show hvB (rw' 8) = true from by decide +kernel] at cH
  rw [show decide ((0 : Int) < 1) = true from rfl] at cK
  have h0 := heap2_0 w (.cells #[.int .i64 8] 22) (.cells #[.int .i64 0, .slice none 0 0] 25)
  have h1 := heap2_1 w (.cells #[.int .i64 8] 22) (.cells #[.int .i64 0, .slice none 0 0] 25)
  have b0 : Below w.heap.size w ((w.alloc (.cells #[.int .i64 8] 22)).alloc (.cells #[.int .i64 0, .slice none 0 0] 25)) := (below_new w _).trans ((below_new _ _).mono (by simp))
  have hs0 : ((w.alloc (.cells #[.int .i64 8] 22)).alloc (.cells #[.int .i64 0, .slice none 0 0] 25)).heap.size = w.heap.size + 1 + 1 := by simp
  have cV := gHalves_8
  go_enter Tryd.func8, Tryd.ntmps8
  have k0 := cell_of_row _ _ 0 _ _ _ h0
  simp only [List.getElem?_toArray, List.getElem?_cons_zero] at k0
  go_wp2_with fail
  generalize (w.alloc (.cells #[.int .i64 8] 22)).alloc (.cells #[.int .i64 0, .slice none 0 0] 25) = W0 at *
  refine (cK _ (hT.below b0)).mono ?_
  rintro e w1 ⟨rfl, q1⟩
  have k1 := (q1.cell (p := ⟨w.heap.size, 0, none⟩) (by simp; omega)).trans k0
  go_wp2_with fail
  refine (cA _ ((hT.below b0).below q1)).mono ?_
  rintro e w2 ⟨rfl, q2⟩
  replace q2 := q1.trans (q2.mono q1.size)
  have k2 := (q2.cell (p := ⟨w.heap.size, 0, none⟩) (by simp; omega)).trans k0
  clear k1 q1
  go_wp2_with fail
  refine (cH _ ((hT.below b0).below q2)).mono ?_
  rintro e w3 ⟨rfl, q3⟩
  replace q3 := q2.trans (q3.mono q2.size)
  have k3 := (q3.cell (p := ⟨w.heap.size, 0, none⟩) (by simp; omega)).trans k0
  clear k2 q2 cK cA cH k0
  go_wp2_with fail
  refine (cV _).mono ?_
  rintro e w4 ⟨rfl, hw4⟩
  have q4 : Below W0.heap.size W0 w4 := by rw [hw4]; exact q3.trans ((below_new _ _).mono q3.size)
  have hR : Rk w4 w3.heap.size 34 4 (fun j => cx (mbs 8 j)) := by
    rw [hw4]
    refine ⟨_, heap_alloc_new _ _, by simp, ?_⟩
    intro i hi
    have hm : mbs 8 i = (hvL 8).getD i (0, 0) := by unfold mbs; rw [if_pos (by decide +kernel)]
    have hl : i < (hvL 8).length := hi
    show _ = some (cx (mbs 8 i))
    rw [hm, List.getD_eq_getElem?_getD]
    show ((hvL 8).map cx).toArray[i]? = _
    rw [List.getElem?_toArray, List.getElem?_map, List.getElem?_eq_getElem hl]
    rfl
  have h4 := (q4.block (w.heap.size + 1) (by omega)).trans h1
  have hgs := q3.size
  clear cV h0 h1 q3 hw4 k3
  go_wp2_with (refine wpList_store_row rfl _ _ _ rfl (w.heap.size + 1) _ rfl rfl _ _ h4 (by exact infoM) (by rfl) (allM _ _ _ _) ?_)
  refine bodyPost_ret (results_ct' rfl _ _ (w.heap.size + 1) _ _ _ _ _ rfl rfl (setRow_heap _ _ _ _ _ _ h4) Tryd.underlying25 rfl (by exact infoM)) rfl ?_
  refine ⟨w3.heap.size, rfl, hR.of_block (setRow_other _ _ _ _ (by omega)), by omega, below_setRow (b0.trans (q4.mono b0.size)) (by omega) _⟩

set_option maxRecDepth 100000 in
theorem gHalves_9 (w : World) : Calls Tryd.prog 26 #[.int .i64 9] w fun e w' => e = .returned (.slice (some ⟨w.heap.size, 0, none⟩) 4 4) ∧ w' = w.alloc (.cells #[.complex .f64 4602678819172646912 4602678819172646912, .complex .f64 13826050856027422720 13826050856027422720, .complex .f64 4602678819172646912 4602678819172646912, .complex .f64 4602678819172646912 4602678819172646912] 34) := by
  go_enter Tryd.func26, Tryd.ntmps26
  go_wp2_with fail
  go_ret
  exact ⟨rfl, rfl⟩
set_option maxRecDepth 100000 in
set_option maxHeartbeats 1000000 in
theorem gMat_9 (w : World) (hT : Tb w) : Calls Tryd.prog 8 #[.int .i64 9] w (MPost w 9 2 4) := by
  have cK := fun w hT => gKnown 9 w hT
  have cA := fun w hT => gArity 9 w hT
  have cH := fun w hT => gHalving 9 w hT
  rw [show (rw' 9).q = 1 from by decide +kernel] at cK cA
  rw [show hvB (rw' 9) = true from by decide +kernel] at cH
  rw [show decide ((0 : Int) < 1) = true from rfl] at cK
  have h0 := heap2_0 w (.cells #[.int .i64 9] 22) (.cells #[.int .i64 0, .slice none 0 0] 25)
  have h1 := heap2_1 w (.cells #[.int .i64 9] 22) (.cells #[.int .i64 0, .slice none 0 0] 25)
  have b0 : Below w.heap.size w ((w.alloc (.cells #[.int .i64 9] 22)).alloc (.cells #[.int .i64 0, .slice none 0 0] 25)) := (below_new w _).trans ((below_new _ _).mono (by simp))
  have hs0 : ((w.alloc (.cells #[.int .i64 9] 22)).alloc (.cells #[.int .i64 0, .slice none 0 0] 25)).heap.size = w.heap.size + 1 + 1 := by simp
  have cV := gHalves_9
  go_enter Tryd.func8, Tryd.ntmps8
  have k0 := cell_of_row _ _ 0 _ _ _ h0
  simp only [List.getElem?_toArray, List.getElem?_cons_zero] at k0
  go_wp2_with fail
  generalize (w.alloc (.cells #[.int .i64 9] 22)).alloc (.cells #[.int .i64 0, .slice none 0 0] 25) = W0 at *
  refine (cK _ (hT.below b0)).mono ?_
  rintro e w1 ⟨rfl, q1⟩
  have k1 := (q1.cell (p := ⟨w.heap.size, 0, none⟩) (by simp; omega)).trans k0
  go_wp2_with fail
  refine (cA _ ((hT.below b0).below q1)).mono ?_
  rintro e w2 ⟨rfl, q2⟩
  replace q2 := q1.trans (q2.mono q1.size)
  have k2 := (q2.cell (p := ⟨w.heap.size, 0, none⟩) (by simp; omega)).trans k0
  clear k1 q1
  go_wp2_with fail
  refine (cH _ ((hT.below b0).below q2)).mono ?_
  rintro e w3 ⟨rfl, q3⟩
  replace q3 := q2.trans (q3.mono q2.size)
  have k3 := (q3.cell (p := ⟨w.heap.size, 0, none⟩) (by simp; omega)).trans k0
  clear k2 q2 cK cA cH k0
  go_wp2_with fail
  refine (cV _).mono ?_
  rintro e w4 ⟨rfl, hw4⟩
  have q4 : Below W0.heap.size W0 w4 := by rw [hw4]; exact q3.trans ((below_new _ _).mono q3.size)
  have hR : Rk w4 w3.heap.size 34 4 (fun j => cx (mbs 9 j)) := by
    rw [hw4]
    refine ⟨_, heap_alloc_new _ _, by simp, ?_⟩
    intro i hi
    have hm : mbs 9 i = (hvL 9).getD i (0, 0) := by unfold mbs; rw [if_pos (by decide +kernel)]
    have hl : i < (hvL 9).length := hi
    show _ = some (cx (mbs 9 i))
    rw [hm, List.getD_eq_getElem?_getD]
    show ((hvL 9).map cx).toArray[i]? = _
    rw [List.getElem?_toArray, List.getElem?_map, List.getElem?_eq_getElem hl]
    rfl
  have h4 := (q4.block (w.heap.size + 1) (by omega)).trans h1
  have hgs := q3.size
  clear cV h0 h1 q3 hw4 k3
  go_wp2_with (refine wpList_store_row rfl _ _ _ rfl (w.heap.size + 1) _ rfl rfl _ _ h4 (by exact infoM) (by rfl) (allM _ _ _ _) ?_)
  refine bodyPost_ret (results_ct' rfl _ _ (w.heap.size + 1) _ _ _ _ _ rfl rfl (setRow_heap _ _ _ _ _ _ h4) Tryd.underlying25 rfl (by exact infoM)) rfl ?_
  refine ⟨w3.heap.size, rfl, hR.of_block (setRow_other _ _ _ _ (by omega)), by omega, below_setRow (b0.trans (q4.mono b0.size)) (by omega) _⟩

set_option maxRecDepth 100000 in
theorem gHalves_10 (w : World) : Calls Tryd.prog 26 #[.int .i64 10] w fun e w' => e = .returned (.slice (some ⟨w.heap.size, 0, none⟩) 4 4) ∧ w' = w.alloc (.cells #[.complex .f64 4602678819172646912 13826050856027422720, .complex .f64 4602678819172646912 13826050856027422720, .complex .f64 13826050856027422720 4602678819172646912, .complex .f64 4602678819172646912 13826050856027422720] 34) := by
  go_enter Tryd.func26, Tryd.ntmps26
  go_wp2_with fail
  go_ret
  exact ⟨rfl, rfl⟩
set_option maxRecDepth 100000 in
set_option maxHeartbeats 1000000 in
theorem gMat_10 (w : World) (hT : Tb w) : Calls Tryd.prog 8 #[.int .i64 10] w (MPost w 10 2 4) := by
  have cK := fun w hT => gKnown 10 w hT
  have cA := fun w hT => gArity 10 w hT
  have cH := fun w hT => gHalving 10 w hT
  rw [show (rw' 10).q = 1 from by decide +kernel] at cK cA
  rw [show hvB (rw' 10) = true from by decide +kernel] at cH
  rw [show decide ((0 : Int) < 1) = true from rfl] at cK
  have h0 := heap2_0 w (.cells #[.int .i64 10] 22) (.cells #[.int .i64 0, .slice none 0 0] 25)
  have h1 := heap2_1 w (.cells #[.int .i64 10] 22) (.cells #[.int .i64 0, .slice none 0 0] 25)
  have b0 : Below w.heap.size w ((w.alloc (.cells #[.int .i64 10] 22)).alloc (.cells #[.int .i64 0, .slice none 0 0] 25)) := (below_new w _).trans ((below_new _ _).mono (by simp))
  have hs0 : ((w.alloc (.cells #[.int .i64 10] 22)).alloc (.cells #[.int .i64 0, .slice none 0 0] 25)).heap.size = w.heap.size + 1 + 1 := by simp
  have cV := gHalves_10
  go_enter Tryd.func8, Tryd.ntmps8
  have k0 := cell_of_row _ _ 0 _ _ _ h0
  simp only [List.getElem?_toArray, List.getElem?_cons_zero] at k0
  go_wp2_with fail
  generalize (w.alloc (.cells #[.int .i64 10] 22)).alloc (.cells #[.int .i64 0, .slice none 0 0] 25) = W0 at *
  refine (cK _ (hT.below b0)).mono ?_
  rintro e w1 ⟨rfl, q1⟩
  have k1 := (q1.cell (p := ⟨w.heap.size, 0, none⟩) (by simp; omega)).trans k0
  go_wp2_with fail
  refine (cA _ ((hT.below b0).below q1)).mono ?_
  rintro e w2 ⟨rfl, q2⟩
  replace q2 := q1.trans (q2.mono q1.size)
  have k2 := (q2.cell (p := ⟨w.heap.size, 0, none⟩) (by simp; omega)).trans k0
  clear k1 q1
  go_wp2_with fail
  refine (cH _ ((hT.below b0).below q2)).mono ?_
  rintro e w3 ⟨rfl, q3⟩
  replace q3 := q2.trans (q3.mono q2.size)
  have k3 := (q3.cell (p := ⟨w.heap.size, 0, none⟩) (by simp; omega)).trans k0
  clear k2 q2 cK cA cH k0
  go_wp2_with fail
  refine (cV _).mono ?_
  rintro e w4 ⟨rfl, hw4⟩
  have q4 : Below W0.heap.size W0 w4 := by rw [hw4]; exact q3.trans ((below_new _ _).mono q3.size)
  have hR : Rk w4 w3.heap.size 34 4 (fun j => cx (mbs 10 j)) := by
    rw [hw4]
    refine ⟨_, heap_alloc_new _ _, by simp, ?_⟩
    intro i hi
    have hm : mbs 10 i = (hvL 10).getD i (0, 0) := by unfold mbs; rw [if_pos (by decide +kernel)]
    have hl : i < (hvL 10).length := hi
    show _ = some (cx (mbs 10 i))
    rw [hm, List.getD_eq_getElem?_getD]
    show ((hvL 10).map cx).toArray[i]? = _
    rw [List.getElem?_toArray, List.getElem?_map, List.getElem?_eq_getElem hl]
    rfl
  have h4 := (q4.block (w.heap.size + 1) (by omega)).trans h1
  have hgs := q3.size
  clear cV h0 h1 q3 hw4 k3
  go_wp2_with (refine wpList_store_row rfl _ _ _ rfl (w.heap.size + 1) _ rfl rfl _ _ h4 (by exact infoM) (by rfl) (allM _ _ _ _) ?_)
  refine bodyPost_ret (results_ct' rfl _ _ (w.heap.size + 1) _ _ _ _ _ rfl rfl (setRow_heap _ _ _ _ _ _ h4) Tryd.underlying25 rfl (by exact infoM)) rfl ?_
  refine ⟨w3.heap.size, rfl, hR.of_block (setRow_other _ _ _ _ (by omega)), by omega, below_setRow (b0.trans (q4.mono b0.size)) (by omega) _⟩

set_option maxRecDepth 100000 in
theorem gHalves_17 (w : World) : Calls Tryd.prog 26 #[.int .i64 17] w fun e w' => e = .returned (.slice (some ⟨w.heap.size, 0, none⟩) 16 16) ∧ w' = w.alloc (.cells #[.complex .f64 4602678819172646912 0, .complex .f64 4602678819172646912 0, .complex .f64 4602678819172646912 0, .complex .f64 4602678819172646912 0, .complex .f64 4602678819172646912 0, .complex .f64 13826050856027422720 0, .complex .f64 4602678819172646912 0, .complex .f64 13826050856027422720 0, .complex .f64 4602678819172646912 0, .complex .f64 4602678819172646912 0, .complex .f64 13826050856027422720 0, .complex .f64 13826050856027422720 0, .complex .f64 4602678819172646912 0, .complex .f64 13826050856027422720 0, .complex .f64 13826050856027422720 0, .complex .f64 4602678819172646912 0] 34) := by
  go_enter Tryd.func26, Tryd.ntmps26
  go_wp2_with fail
  go_ret
  exact ⟨rfl, rfl⟩
set_option maxRecDepth 100000 in
set_option maxHeartbeats 1000000 in
theorem gMat_17 (w : World) (hT : Tb w) : Calls Tryd.prog 8 #[.int .i64 17] w (MPost w 17 4 16) := by
  have cK := fun w hT => gKnown 17 w hT
  have cA := fun w hT => gArity 17 w hT
  have cH := fun w hT => gHalving 17 w hT
  rw [show (rw' 17).q = 2 from by decide +kernel] at cK cA
  rw [show hvB (rw' 17) = true from by decide +kernel] at cH
  rw [show decide ((0 : Int) < 2) = true from rfl] at cK
  have h0 := heap2_0 w (.cells #[.int .i64 17] 22) (.cells #[.int .i64 0, .slice none 0 0] 25)
  have h1 := heap2_1 w (.cells #[.int .i64 17] 22) (.cells #[.int .i64 0, .slice none 0 0] 25)
  have b0 : Below w.heap.size w ((w.alloc (.cells #[.int .i64 17] 22)).alloc (.cells #[.int .i64 0, .slice none 0 0] 25)) := (below_new w _).trans ((below_new _ _).mono (by simp))
  have hs0 : ((w.alloc (.cells #[.int .i64 17] 22)).alloc (.cells #[.int .i64 0, .slice none 0 0] 25)).heap.size = w.heap.size + 1 + 1 := by simp
  have cV := gHalves_17
  go_enter Tryd.func8, Tryd.ntmps8
  have k0 := cell_of_row _ _ 0 _ _ _ h0
  simp only [List.getElem?_toArray, List.getElem?_cons_zero] at k0
  go_wp2_with fail
  generalize (w.alloc (.cells #[.int .i64 17] 22)).alloc (.cells #[.int .i64 0, .slice none 0 0] 25) = W0 at *
  refine (cK _ (hT.below b0)).mono ?_
  rintro e w1 ⟨rfl, q1⟩
  have k1 := (q1.cell (p := ⟨w.heap.size, 0, none⟩) (by simp; omega)).trans k0
  go_wp2_with fail
  refine (cA _ ((hT.below b0).below q1)).mono ?_
  rintro e w2 ⟨rfl, q2⟩
  replace q2 := q1.trans (q2.mono q1.size)
  have k2 := (q2.cell (p := ⟨w.heap.size, 0, none⟩) (by simp; omega)).trans k0
  clear k1 q1
  go_wp2_with fail
  refine (cH _ ((hT.below b0).below q2)).mono ?_
  rintro e w3 ⟨rfl, q3⟩
  replace q3 := q2.trans (q3.mono q2.size)
  have k3 := (q3.cell (p := ⟨w.heap.size, 0, none⟩) (by simp; omega)).trans k0
  clear k2 q2 cK cA cH k0
  go_wp2_with fail
  refine (cV _).mono ?_
  rintro e w4 ⟨rfl, hw4⟩
  have q4 : Below W0.heap.size W0 w4 := by rw [hw4]; exact q3.trans ((below_new _ _).mono q3.size)
  have hR : Rk w4 w3.heap.size 34 16 (fun j => cx (mbs 17 j)) := by
    rw [hw4]
    refine ⟨_, heap_alloc_new _ _, by simp, ?_⟩
    intro i hi
    have hm : mbs 17 i = (hvL 17).getD i (0, 0) := by unfold mbs; rw [if_pos (by decide +kernel)]
    have hl : i < (hvL 17).length := hi
    show _ = some (cx (mbs 17 i))
    rw [hm, List.getD_eq_getElem?_getD]
    show ((hvL 17).map cx).toArray[i]? = _
    rw [List.getElem?_toArray, List.getElem?_map, List.getElem?_eq_getElem hl]
    rfl
  have h4 := (q4.block (w.heap.size + 1) (by omega)).trans h1
  have hgs := q3.size
  clear cV h0 h1 q3 hw4 k3
  go_wp2_with (refine wpList_store_row rfl _ _ _ rfl (w.heap.size + 1) _ rfl rfl _ _ h4 (by exact infoM) (by rfl) (allM _ _ _ _) ?_)
  refine bodyPost_ret (results_ct' rfl _ _ (w.heap.size + 1) _ _ _ _ _ rfl rfl (setRow_heap _ _ _ _ _ _ h4) Tryd.underlying25 rfl (by exact infoM)) rfl ?_
  refine ⟨w3.heap.size, rfl, hR.of_block (setRow_other _ _ _ _ (by omega)), by omega, below_setRow (b0.trans (q4.mono b0.size)) (by omega) _⟩

/-- What Matrix answers of no kind. -/
def MNone (w : World) (e : Ending) (w' : World) : Prop := e = .returned (.tuple #[.agg #[.int .i64 0, .slice none 0 0], .int .i64 60]) ∧ Below w.heap.size w w'
set_option maxRecDepth 100000 in
set_option maxHeartbeats 1000000 in
theorem gMat_no (k : Int) (hk : ¬ (1 ≤ k ∧ k ≤ 20)) (w : World) (hT : Tb w) : Calls Tryd.prog 8 #[.int .i64 k] w (MNone w) := by
  have hq : (rw' k).q = 0 := by
    unfold rw'
    by_cases h : 0 ≤ k ∧ k < 21
    · obtain rfl : k = 0 := by omega
      rfl
    · rw [if_neg h]; rfl
  have cK := fun w hT => gKnown k w hT
  rw [hq] at cK
  rw [show decide ((0 : Int) < 0) = false from rfl] at cK
  have h0 := heap2_0 w (.cells #[.int .i64 k] 22) (.cells #[.int .i64 0, .slice none 0 0] 25)
  have h1 := heap2_1 w (.cells #[.int .i64 k] 22) (.cells #[.int .i64 0, .slice none 0 0] 25)
  have b0 : Below w.heap.size w ((w.alloc (.cells #[.int .i64 k] 22)).alloc (.cells #[.int .i64 0, .slice none 0 0] 25)) := (below_new w _).trans ((below_new _ _).mono (by simp))
  have hs0 : ((w.alloc (.cells #[.int .i64 k] 22)).alloc (.cells #[.int .i64 0, .slice none 0 0] 25)).heap.size = w.heap.size + 1 + 1 := by simp
  clear hq hk
  go_enter Tryd.func8, Tryd.ntmps8
  have k0 := cell_of_row _ _ 0 _ _ _ h0
  simp only [List.getElem?_toArray, List.getElem?_cons_zero] at k0
  go_wp2_with fail
  generalize (w.alloc (.cells #[.int .i64 k] 22)).alloc (.cells #[.int .i64 0, .slice none 0 0] 25) = W0 at *
  refine (cK _ (hT.below b0)).mono ?_
  rintro e w1 ⟨rfl, q1⟩
  have h4 := (q1.block (w.heap.size + 1) (by omega)).trans h1
  clear k0 cK h0 h1
  go_wp2_with (refine wpList_store_row rfl _ _ _ rfl (w.heap.size + 1) _ rfl rfl _ _ h4 (by exact infoM) (by rfl) (allM _ _ _ _) ?_)
  refine bodyPost_ret (results_ct' rfl _ _ (w.heap.size + 1) _ _ _ _ _ rfl rfl (setRow_heap _ _ _ _ _ _ h4) Tryd.underlying25 rfl (by exact infoM)) rfl ?_
  exact ⟨rfl, below_setRow (b0.trans (q1.mono b0.size)) (by omega) _⟩
/-- How many rows. -/
def rowsN (k : Nat) : Nat := if k ≤ 10 then 2 else if k ≤ 17 then 4 else 8
/-- Matrix of a kind. -/
theorem gMat (k : Nat) (h1 : 1 ≤ k) (h2 : k ≤ 20) (w : World) (hT : Tb w) (hD : Td w) : Calls Tryd.prog 8 #[.int .i64 (k : Int)] w (MPost w k (rowsN k) (rowsN k * rowsN k)) := by
  have hk : k = 1 ∨ k = 2 ∨ k = 3 ∨ k = 4 ∨ k = 5 ∨ k = 6 ∨ k = 7 ∨ k = 8 ∨ k = 9 ∨ k = 10 ∨ k = 11 ∨ k = 12 ∨ k = 13 ∨ k = 14 ∨ k = 15 ∨ k = 16 ∨ k = 17 ∨ k = 18 ∨ k = 19 ∨ k = 20 := by omega
  rcases hk with rfl | rfl | rfl | rfl | rfl | rfl | rfl | rfl | rfl | rfl | rfl | rfl | rfl | rfl | rfl | rfl | rfl | rfl | rfl | rfl
  · exact gMat_m1 1 (by decide +kernel) (by decide +kernel) (by decide +kernel) w hT hD
  · exact gMat_m1 2 (by decide +kernel) (by decide +kernel) (by decide +kernel) w hT hD
  · exact gMat_m1 3 (by decide +kernel) (by decide +kernel) (by decide +kernel) w hT hD
  · exact gMat_m1 4 (by decide +kernel) (by decide +kernel) (by decide +kernel) w hT hD
  · exact gMat_m1 5 (by decide +kernel) (by decide +kernel) (by decide +kernel) w hT hD
  · exact gMat_m1 6 (by decide +kernel) (by decide +kernel) (by decide +kernel) w hT hD
  · exact gMat_7 w hT
  · exact gMat_8 w hT
  · exact gMat_9 w hT
  · exact gMat_10 w hT
  · exact gMat_m2 11 (by decide +kernel) (by decide +kernel) (by decide +kernel) w hT hD
  · exact gMat_m2 12 (by decide +kernel) (by decide +kernel) (by decide +kernel) w hT hD
  · exact gMat_m2 13 (by decide +kernel) (by decide +kernel) (by decide +kernel) w hT hD
  · exact gMat_m2 14 (by decide +kernel) (by decide +kernel) (by decide +kernel) w hT hD
  · exact gMat_m2 15 (by decide +kernel) (by decide +kernel) (by decide +kernel) w hT hD
  · exact gMat_m2 16 (by decide +kernel) (by decide +kernel) (by decide +kernel) w hT hD
  · exact gMat_17 w hT
  · exact gMat_m3 18 (by decide +kernel) (by decide +kernel) (by decide +kernel) w hT hD
  · exact gMat_m3 19 (by decide +kernel) (by decide +kernel) (by decide +kernel) w hT hD
  · exact gMat_m3 20 (by decide +kernel) (by decide +kernel) (by decide +kernel) w hT hD
end Go.Proofs.YtnhdgellckcnbaaDoor.Gt
