/- Elements of registers: index and arg. -/
import Derived.Test.YtkbodljmkhnebaaGreatDoorTj
namespace Go.Proofs.YtkbodljmkhnebaaGreatDoor.Cir
open Go.RowKit Go.Shelf Go.Proofs.YtkbodljmkhnebaaGreatDoor.Oct Go.Proofs.YtkbodljmkhnebaaGreatDoor.Tok Go.Proofs.YtkbodljmkhnebaaGreatDoor.Gt

theorem wrapN (x : Int) (h1 : -9223372036854775808 ≤ x) (h2 : x ≤ 9223372036854775807) : IntKind.i64.wrap x = x := by rw [IntKind.wrap_i64]; omega
theorem Kb.undrew {M : List Nat} {w w' : World} (h : Kb M w.drew w') : Kb M w w' := ⟨h.os, h.tape, h.output, h.size, h.block⟩
theorem PT.base {α : Type} {R : Nat} {x : X} {o : Value} {w0 w : World} {gd : α → Value} {bd : Value → Value} {P : Res α} {e : Ending} {w' : World} (hk : Kb [R] w0 w) (h : PT R x o w gd bd P e w') : PT R x o w0 gd bd P e w' := by
  cases P with
  | ok a ts => exact ⟨h.1, h.2.1, hk.trans h.2.2⟩
  | no c t => exact ⟨h.1, h.2.1, hk.trans h.2.2⟩
theorem cMark1 (R : Nat) (x : X) (o : Value) (ts : List T) (m : Nm) (w : World) (hR : Rt w R x o ts) :
    Calls Tryz.prog 95 #[.pointer (some ⟨R, 0, none⟩), .slice (some ⟨w.heap.size, 0, none⟩) 1 1] (w.alloc (.cells #[.string ⟨m.toArray⟩] 9)) (PT R x o w (fun _ => .nilIface) id (pMks [m] ts)) := by
  have hlt := hR.lt
  refine (cMarks R x o ts [m] w.heap.size 1 (by omega) (by simp) (w.alloc (.cells #[.string ⟨m.toArray⟩] 9)) (hR.below (bnew _ _)) ?_).mono (fun e w' h => h.base (Kb.of_below (bnew _ _)))
  intro j u hu
  rw [cell_of_row _ _ j _ _ _ (heap_alloc_new w _)]
  cases j with
  | zero => simp at hu; subst hu; rfl
  | succ j => simp at hu
theorem cMark2 (R : Nat) (x : X) (o : Value) (ts : List T) (m n : Nm) (w : World) (hR : Rt w R x o ts) :
    Calls Tryz.prog 95 #[.pointer (some ⟨R, 0, none⟩), .slice (some ⟨w.heap.size, 0, none⟩) 2 2] (w.alloc (.cells #[.string ⟨m.toArray⟩, .string ⟨n.toArray⟩] 9)) (PT R x o w (fun _ => .nilIface) id (pMks [m, n] ts)) := by
  have hlt := hR.lt
  refine (cMarks R x o ts [m, n] w.heap.size 2 (by omega) (by simp) (w.alloc (.cells #[.string ⟨m.toArray⟩, .string ⟨n.toArray⟩] 9)) (hR.below (bnew _ _)) ?_).mono (fun e w' h => h.base (Kb.of_below (bnew _ _)))
  intro j u hu
  rw [cell_of_row _ _ j _ _ _ (heap_alloc_new w _)]
  match j with
  | 0 => simp at hu; subst hu; rfl
  | 1 => simp at hu; subst hu; rfl
  | j + 2 => simp at hu
/-- What a method of the reader comes to; what is told beside a refusal does not count. -/
def PX {α : Type} (R : Nat) (x : X) (o : Value) (w : World) (gd : α → Value) (bd : Value → Ending → Prop) (P : Res α) (e : Ending) (w' : World) : Prop := match P with
  | .ok a ts' => e = .returned (gd a) ∧ Rt w' R x o ts' ∧ Kb [R] w w'
  | .no c t => bd (erV c t) e ∧ (∃ ts', Rt w' R x o ts') ∧ Kb [R] w w'
def bdI (er : Value) (e : Ending) : Prop := ∃ z : Int, e = .returned (.tuple #[.int .i64 z, er])
set_option maxRecDepth 100000 in
set_option maxHeartbeats 600000 in
theorem cIndex (R : Nat) (x : X) (o : Value) (ts : List T) (r : Rg) (hr : r.fr + r.sz ≤ 64) (w : World) (hR : Rt w R x o ts) :
    Calls Tryz.prog 175 #[.pointer (some ⟨R, 0, none⟩), rgV r] w (PX R x o w (fun (n : Nat) => .tuple #[.int .i64 (n : Int), .nilIface]) bdI (pIdx r ts)) := by
  have hlt := hR.lt
  have eG := erG
  have eN := erN
  obtain ⟨fr, sz⟩ := r
  unfold rgV pIdx
  simp only at hr ⊢
  have c1 := fun o1 => cMark1 R x o ts [91] (w.alloc o1) (hR.below (bnew _ _))
  simp only [World.size_alloc] at c1
  cases h1 : pMks [[91]] ts with
  | no c t =>
    rw [h1] at c1
    go_enter Tryz.func175, Tryz.ntmps175
    go_wp2_with (go_at_call 95; refine (c1 _).mono ?_; rintro e w1 ⟨rfl, hn1, hk1⟩)
    go_ret2
    exact ⟨⟨0, rfl⟩, hn1, ((Kb.refl _ _).alloc _).trans hk1⟩
  | ok u ts1 =>
    rw [h1] at c1
    simp only
    have c2 := fun W (h : Rt W R x o ts1) => cNumber R x o ts1 0 ((sz : Int) - 1) W h
    cases h2 : pNum 0 ((sz : Int) - 1) ts1 with
    | no c t =>
      rw [h2] at c2
      go_enter Tryz.func175, Tryz.ntmps175
      go_wp2_with (first
        | (go_at_call 95; refine (c1 _).mono ?_; rintro e w1 ⟨rfl, hr1, hk1⟩; obtain ⟨kc1, kf1⟩ := kcell hk1; have hz1 := hk1.size; simp only [World.size_alloc] at hz1; have hne : w.heap.size ≠ R := by omega)
        | (go_at_call 169; refine (c2 _ hr1).mono ?_; rintro e w2 ⟨rfl, hn2, hk2⟩))
      go_ret2
      exact ⟨⟨0, rfl⟩, hn2, (((Kb.refl _ _).alloc _).trans hk1).trans hk2⟩
    | ok n ts2 =>
      rw [h2] at c2
      simp only
      have hn : n ≤ 64 := by
        unfold pNum at h2
        split at h2
        · cases h2
        · split at h2
          · cases h2
          · rename_i _ hh
            simp only [Res.ok.injEq] at h2
            omega
      have c3 := fun W (h : Rt W R x o ts2) => cMark1 R x o ts2 [93] W h
      cases h3 : pMks [[93]] ts2 with
      | no c t =>
        rw [h3] at c3
        go_enter Tryz.func175, Tryz.ntmps175
        go_wp2_with (first
          | (go_at_call 95; refine (c1 _).mono ?_; clear c1; rintro e w1 ⟨rfl, hr1, hk1⟩; obtain ⟨kc1, kf1⟩ := kcell hk1; have hz1 := hk1.size; simp only [World.size_alloc] at hz1; have hne : w.heap.size ≠ R := by omega)
          | (go_at_call 169; refine (c2 _ hr1).mono ?_; rintro e w2 ⟨rfl, hr2, hk2⟩; obtain ⟨kc2, kf2⟩ := kcell hk2; have hz2 := hk2.size))
        have hA : w2.cell? ⟨w.heap.size, 0, none⟩ = some (.int .i64 (fr : Int)) := by
          rw [kc2 _ _ (by omega) hne, kc1 _ _ (by simp) hne]; simp
        have hb : fr + n ≤ 128 := by omega
        have c4 : Calls Tryz.prog 95 #[.pointer (some ⟨R, 0, none⟩), .slice (some ⟨w2.heap.size, 0, none⟩) 1 1] (w2.alloc (.cells #[.string ⟨#[93]⟩] 9)).drew (PT R x o w2.drew (fun _ => .nilIface) id (.no c t)) := c3 w2.drew hr2
        clear kc1 kf1 kc2 kf2 c2 c3
        have hA3 : ∀ w3, Kb [R] w2.drew w3 → w3.cell? ⟨w.heap.size, 0, none⟩ = some (.int .i64 (fr : Int)) := fun w3 h3 => (h3.undrew.cell (p := ⟨w.heap.size, 0, none⟩) (World.block_lt_of_cell? _ _ hA) (by simpa using hne)).trans hA
        have HA3 := hide hA3
        clear hA3
        have HA0 : Hid (∀ o, (w2.alloc o).drew.cell? ⟨w.heap.size, 0, none⟩ = some (.int .i64 (fr : Int))) := hide (fun o => ((bnew w2 o).cell (p := ⟨w.heap.size, 0, none⟩) (World.block_lt_of_cell? _ _ hA)).trans hA)
        go_region_held3 (fun W => W.cell? ⟨w.heap.size, 0, none⟩ = some (.int .i64 (fr : Int))) (first | exact hA | exact HA0.out _ | exact HA3.out _ (by assumption))
          (first | (go_at_call 95; refine c4.mono ?_; rintro e w3 ⟨rfl, hn3, hk3⟩))
        go_wp2_with fail
        go_ret2
        exact ⟨⟨_, rfl⟩, hn3, ((((Kb.refl _ _).alloc _).trans hk1).trans hk2).trans hk3.undrew⟩
      | ok u ts3 =>
        rw [h3] at c3
        have hw : IntKind.i64.wrap ((fr : Int) + (n : Int)) = ((fr + n : Nat) : Int) := by
          rw [show ((fr : Int) + (n : Int)) = ((fr + n : Nat) : Int) by omega]
          exact wrapN _ (by omega) (by omega)
        have Hw := hide hw
        clear hw
        go_enter Tryz.func175, Tryz.ntmps175
        go_wp2_with (first
          | (go_at_call 95; refine (c1 _).mono ?_; clear c1; rintro e w1 ⟨rfl, hr1, hk1⟩; obtain ⟨kc1, kf1⟩ := kcell hk1; have hz1 := hk1.size; simp only [World.size_alloc] at hz1; have hne : w.heap.size ≠ R := by omega)
          | (go_at_call 169; refine (c2 _ hr1).mono ?_; rintro e w2 ⟨rfl, hr2, hk2⟩; obtain ⟨kc2, kf2⟩ := kcell hk2; have hz2 := hk2.size))
        have hA : w2.cell? ⟨w.heap.size, 0, none⟩ = some (.int .i64 (fr : Int)) := by
          rw [kc2 _ _ (by omega) hne, kc1 _ _ (by simp) hne]; simp
        have c4 : Calls Tryz.prog 95 #[.pointer (some ⟨R, 0, none⟩), .slice (some ⟨w2.heap.size, 0, none⟩) 1 1] (w2.alloc (.cells #[.string ⟨#[93]⟩] 9)).drew (PT R x o w2.drew (fun _ => .nilIface) id (.ok u ts3)) := c3 w2.drew hr2
        clear kc1 kf1 kc2 kf2 c2 c3
        have hA3 : ∀ w3, Kb [R] w2.drew w3 → w3.cell? ⟨w.heap.size, 0, none⟩ = some (.int .i64 (fr : Int)) := fun w3 h3 => (h3.undrew.cell (p := ⟨w.heap.size, 0, none⟩) (World.block_lt_of_cell? _ _ hA) (by simpa using hne)).trans hA
        have HA3 := hide hA3
        clear hA3
        have HA0 : Hid (∀ o, (w2.alloc o).drew.cell? ⟨w.heap.size, 0, none⟩ = some (.int .i64 (fr : Int))) := hide (fun o => ((bnew w2 o).cell (p := ⟨w.heap.size, 0, none⟩) (World.block_lt_of_cell? _ _ hA)).trans hA)
        go_region_held3 (fun W => W.cell? ⟨w.heap.size, 0, none⟩ = some (.int .i64 (fr : Int))) (first | exact hA | exact HA0.out _ | exact HA3.out _ (by assumption))
          (first | (go_at_call 95; refine c4.mono ?_; rintro e w3 ⟨rfl, hr3, hk3⟩))
        rw [Hw.out]
        go_wp2_with fail
        go_ret2
        exact ⟨rfl, hr3, ((((Kb.refl _ _).alloc _).trans hk1).trans hk2).trans hk3.undrew⟩
/-- One element, or a register, as a value. -/
def agV (a : Ag) : Value := .agg #[.int .i64 (a.fr : Int), .int .i64 (a.sz : Int), .bool a.whole]
def bdA (er : Value) (e : Ending) : Prop := ∃ (a b : Int) (c : Bool), e = .returned (.tuple #[.agg #[.int .i64 a, .int .i64 b, .bool c], er])
theorem infoAg : (Tryz.prog.info? 230).map (·.size) = some 3 := by kernel_rfl
theorem allA (a b : Int) (c : Bool) : (#[Value.int .i64 a, .int .i64 b, .bool c]).all (·.oneCell') = true := by simp [Value.oneCell']
set_option maxRecDepth 100000 in
set_option maxHeartbeats 600000 in
theorem cArg (R : Nat) (x : X) (o : Value) (ts : List T) (m : Nat) (n1 n2 : Int) (b : Bk) (hb : ∀ y r, b.find y = some r → r.fr + r.sz ≤ 64) (w : World) (hR : Rt w R x o ts) (hm : m ≠ R) (hM : RM w m b.find) :
    Calls Tryz.prog 176 #[.pointer (some ⟨R, 0, none⟩), .agg #[.map (some m), .int .i64 n1, .int .i64 n2]] w (PX R x o w (fun a => .tuple #[agV a, .nilIface]) bdA (pArg b ts)) := by
  have c1 := fun o1 o2 => cRegOf R x o ts m n1 n2 b ((w.alloc o1).alloc o2) (hR.below ((bnew _ _).trans ((bnew _ _).mono (by simp)))) hm ((hM.below (bnew _ _)).below (bnew _ _))
  have hlt := hR.lt
  have hbt := hR.bt
  have eG := erG
  have eN := erN
  have hA : ((w.alloc (.cells #[.map (some m), .int .i64 n1, .int .i64 n2] 81)).alloc (.cells #[.int .i64 0, .int .i64 0, .bool false] 230)).heap[w.heap.size + 1]? = some (.cells #[.int .i64 0, .int .i64 0, .bool false] 230 (0, 0)) := by
    have := heap_alloc_new (w.alloc (.cells #[.map (some m), .int .i64 n1, .int .i64 n2] 81)) (.cells #[.int .i64 0, .int .i64 0, .bool false] 230)
    simpa using this
  unfold pArg
  cases h1 : pReg b ts with
  | no c t =>
    rw [h1] at c1
    simp only
    go_enter Tryz.func176, Tryz.ntmps176
    go_wp2_with (first
      | (go_at_call 174; refine (c1 _ _).mono ?_; rintro e w1 ⟨rfl, ⟨tn1, hn1⟩, hk1⟩; unfold rgV; have hz1 := hk1.size; have hA1 := (Below.heap_alloc w1 (.cells #[.int .i64 ((0 : Nat) : Int), .int .i64 ((0 : Nat) : Int)] 225) (w.heap.size + 1) (by simp at hz1; omega)).trans ((hk1.block (w.heap.size + 1) (by simp) (by simp; omega)).trans hA))
      | refine wpList_store_row rfl _ _ _ rfl (w.heap.size + 1) _ rfl rfl _ _ hA1 (by exact infoAg) (by rfl) (allA _ _ _) ?_)
    refine bodyPost_ret (results_ct rfl _ _ (w.heap.size + 1) _ _ _ _ rfl (setRow_heap _ _ _ _ _ _ hA1) Tryz.underlying230 rfl (by exact infoAg)) rfl ?_
    exact ⟨⟨_, _, _, rfl⟩, ⟨_, (hn1.below (bnew _ _)).row _ _ (by omega) (by omega)⟩, Kb.setRow ((((Kb.refl _ _).alloc _).alloc _ |>.trans hk1).alloc _) _ _ (.inr (by omega))⟩
  | ok r ts1 =>
    rw [h1] at c1
    simp only
    have hr : r.fr + r.sz ≤ 64 := by
      unfold pReg at h1
      split at h1
      · cases h1
      · split at h1
        · cases h1
        · rename_i hf
          simp only [Res.ok.injEq] at h1
          rw [← h1.1]
          exact hb _ _ hf
    obtain ⟨fr, sz⟩ := r
    have c2 := fun W (h : Rt W R x o ts1) => cStands R x o ts1 [91] W h
    have c3 := fun W (h : Rt W R x o ts1) => cIndex R x o ts1 ⟨fr, sz⟩ hr W h
    unfold rgV at c1 c3
    simp only at c1 c3 hr ⊢
    cases h2 : isT 5 [91] (hd ts1) with
    | false =>
      rw [h2] at c2
      simp only [Bool.false_eq_true, if_false]
      go_enter Tryz.func176, Tryz.ntmps176
      go_wp2_with (first
        | (go_at_call 174; refine (c1 _ _).mono ?_; rintro e w1 ⟨rfl, hr1, hk1⟩; have hz1 := hk1.size; have hA1 := (Below.heap_alloc w1 (.cells #[.int .i64 (fr : Int), .int .i64 (sz : Int)] 225) (w.heap.size + 1) (by simp at hz1; omega)).trans ((hk1.block (w.heap.size + 1) (by simp) (by simp; omega)).trans hA); have hr1' := hr1.below (bnew w1 (.cells #[.int .i64 (fr : Int), .int .i64 (sz : Int)] 225)))
        | (go_at_call 172; refine (c2 _ hr1').mono ?_; rintro e w2 ⟨rfl, hb2⟩; obtain ⟨hc2, hf2⟩ := bcell hb2; have hA2 := (hb2.block _ (by simp at hz1 ⊢; omega)).trans hA1)
        | refine wpList_store_row rfl _ _ _ rfl (w.heap.size + 1) _ rfl rfl _ _ hA2 (by exact infoAg) (by rfl) (allA _ _ _) ?_)
      refine bodyPost_ret (results_ct rfl _ _ (w.heap.size + 1) _ _ _ _ rfl (setRow_heap _ _ _ _ _ _ hA2) Tryz.underlying230 rfl (by exact infoAg)) rfl ?_
      exact ⟨rfl, (hr1'.below hb2).row _ _ (by omega) (by omega), Kb.setRow ((((Kb.refl _ _).alloc _).alloc _ |>.trans hk1).alloc _ |>.then_below hb2) _ _ (.inr (by omega))⟩
    | true =>
      rw [h2] at c2
      simp only [if_true]
      cases h3 : pIdx ⟨fr, sz⟩ ts1 with
      | no c t =>
        rw [h3] at c3
        go_enter Tryz.func176, Tryz.ntmps176
        go_wp2_with (first
          | (go_at_call 174; refine (c1 _ _).mono ?_; rintro e w1 ⟨rfl, hr1, hk1⟩; have hz1 := hk1.size; have hA1 := (Below.heap_alloc w1 (.cells #[.int .i64 (fr : Int), .int .i64 (sz : Int)] 225) (w.heap.size + 1) (by simp at hz1; omega)).trans ((hk1.block (w.heap.size + 1) (by simp) (by simp; omega)).trans hA); have hr1' := hr1.below (bnew w1 (.cells #[.int .i64 (fr : Int), .int .i64 (sz : Int)] 225)))
          | (go_at_call 172; refine (c2 _ hr1').mono ?_; rintro e w2 ⟨rfl, hb2⟩; obtain ⟨hc2, hf2⟩ := bcell hb2; have hz2 := hb2.size; have hA2 := (hb2.block _ (by simp at hz1 ⊢; omega)).trans hA1)
          | (go_at_call 175; refine (c3 _ (hr1'.below hb2)).mono ?_; rintro e w3 ⟨⟨z, rfl⟩, ⟨tn3, hn3⟩, hk3⟩; have hA3 := (hk3.block (w.heap.size + 1) (by simp at hz1 hz2; omega) (by simp; omega)).trans hA2)
          | refine wpList_store_row rfl _ _ _ rfl (w.heap.size + 1) _ rfl rfl _ _ hA3 (by exact infoAg) (by rfl) (allA _ _ _) ?_)
        refine bodyPost_ret (results_ct rfl _ _ (w.heap.size + 1) _ _ _ _ rfl (setRow_heap _ _ _ _ _ _ hA3) Tryz.underlying230 rfl (by exact infoAg)) rfl ?_
        exact ⟨⟨_, _, _, rfl⟩, ⟨_, hn3.row _ _ (by omega) (by omega)⟩, Kb.setRow (((((Kb.refl _ _).alloc _).alloc _ |>.trans hk1).alloc _ |>.then_below hb2).trans hk3) _ _ (.inr (by omega))⟩
      | ok i ts2 =>
        rw [h3] at c3
        go_enter Tryz.func176, Tryz.ntmps176
        go_wp2_with (first
          | (go_at_call 174; refine (c1 _ _).mono ?_; rintro e w1 ⟨rfl, hr1, hk1⟩; have hz1 := hk1.size; have hA1 := (Below.heap_alloc w1 (.cells #[.int .i64 (fr : Int), .int .i64 (sz : Int)] 225) (w.heap.size + 1) (by simp at hz1; omega)).trans ((hk1.block (w.heap.size + 1) (by simp) (by simp; omega)).trans hA); have hr1' := hr1.below (bnew w1 (.cells #[.int .i64 (fr : Int), .int .i64 (sz : Int)] 225)))
          | (go_at_call 172; refine (c2 _ hr1').mono ?_; rintro e w2 ⟨rfl, hb2⟩; obtain ⟨hc2, hf2⟩ := bcell hb2; have hz2 := hb2.size; have hA2 := (hb2.block _ (by simp at hz1 ⊢; omega)).trans hA1)
          | (go_at_call 175; refine (c3 _ (hr1'.below hb2)).mono ?_; rintro e w3 ⟨rfl, hr3, hk3⟩; have hA3 := (hk3.block (w.heap.size + 1) (by simp at hz1 hz2; omega) (by simp; omega)).trans hA2)
          | refine wpList_store_row rfl _ _ _ rfl (w.heap.size + 1) _ rfl rfl _ _ hA3 (by exact infoAg) (by rfl) (allA _ _ _) ?_)
        refine bodyPost_ret (results_ct rfl _ _ (w.heap.size + 1) _ _ _ _ rfl (setRow_heap _ _ _ _ _ _ hA3) Tryz.underlying230 rfl (by exact infoAg)) rfl ?_
        exact ⟨rfl, hr3.row _ _ (by omega) (by omega), Kb.setRow (((((Kb.refl _ _).alloc _).alloc _ |>.trans hk1).alloc _ |>.then_below hb2).trans hk3) _ _ (.inr (by omega))⟩
end Go.Proofs.YtkbodljmkhnebaaGreatDoor.Cir
