/- Names that are new, registers and their elements. -/
import Derived.Test.YtkbodljmkhnebaaGreatDoorTe
import Derived.Test.YtkbodljmkhnebaaGreatDoorTi
import Derived.Deep.RegionHeld3
namespace Go.Proofs.YtkbodljmkhnebaaGreatDoor.Cir
open Go.RowKit Go.Shelf Go.Proofs.YtkbodljmkhnebaaGreatDoor.Oct Go.Proofs.YtkbodljmkhnebaaGreatDoor.Tok Go.Proofs.YtkbodljmkhnebaaGreatDoor.Gt

theorem pNam_ok {ts : List T} {t : T} {ts' : List T} (h : pNam ts = .ok t ts') : t = hd ts ∧ ts' = tl ts := by
  unfold pNam at h
  split at h
  · simp only [Res.ok.injEq] at h; exact ⟨h.1.symm, h.2.symm⟩
  · cases h
theorem pNam_no {ts : List T} {c : Nat} {t : T} (h : pNam ts = .no c t) : c = 81 ∧ t = hd ts := by
  unfold pNam at h
  split at h
  · cases h
  · simp only [Res.no.injEq] at h; exact ⟨h.1.symm, h.2.symm⟩
theorem allR2 (a b : Int) : (#[Value.int .i64 a, .int .i64 b]).all (·.oneCell') = true := by simp [Value.oneCell']
theorem infoRg : (Tryz.prog.info? 225).map (·.size) = some 2 := by kernel_rfl
set_option maxRecDepth 100000 in
set_option maxHeartbeats 600000 in
theorem cRegOf (R : Nat) (x : X) (o : Value) (ts : List T) (m : Nat) (n1 n2 : Int) (b : Bk) (w : World) (hR : Rt w R x o ts) (hm : m ≠ R) (hM : RM w m b.find) :
    Calls Tryz.prog 174 #[.pointer (some ⟨R, 0, none⟩), .agg #[.map (some m), .int .i64 n1, .int .i64 n2]] w (PT R x o w (fun r => .tuple #[rgV r, .nilIface]) (fun e => .tuple #[rgV ⟨0, 0⟩, e]) (pReg b ts)) := by
  have c1 := fun o1 o2 => cName R x o ts ((w.alloc o1).alloc o2) (hR.below ((bnew _ _).trans ((bnew _ _).mono (by simp))))
  have hlt := hR.lt
  have hbt := hR.bt
  have hTx := hR.fine.hd
  have eG := erG
  have eN := erN
  have hA : ((w.alloc (.cells #[.map (some m), .int .i64 n1, .int .i64 n2] 81)).alloc (.cells #[.int .i64 0, .int .i64 0] 225)).heap[w.heap.size + 1]? = some (.cells #[.int .i64 0, .int .i64 0] 225 (0, 0)) := by
    have := heap_alloc_new (w.alloc (.cells #[.map (some m), .int .i64 n1, .int .i64 n2] 81)) (.cells #[.int .i64 0, .int .i64 0] 225)
    simpa using this
  have hA' : ((w.alloc (.cells #[.map (some m), .int .i64 n1, .int .i64 n2] 81)).alloc (.cells #[.int .i64 0, .int .i64 0] 225)).heap[w.heap.size]? = some (.cells #[.map (some m), .int .i64 n1, .int .i64 n2] 81 (0, 0)) :=
    (Below.heap_alloc _ _ _ (by simp)).trans (heap_alloc_new _ _)
  unfold pReg
  cases hP : pNam ts with
  | no c t =>
    rw [hP] at c1
    simp only
    go_enter Tryz.func174, Tryz.ntmps174
    go_wp2_with (first
      | (go_at_call 197; refine (c1 _ _).mono ?_; rintro e w1 ⟨rfl, ⟨tn1, hn1⟩, hk1⟩; unfold tkV; have hz1 := hk1.size; have hA1 := (Below.heap_alloc w1 (.cells #[.int .i64 (t0.kind : Int), .string ⟨t0.text.toArray⟩, .int .i64 (t0.num : Int), .int .i64 (t0.off : Int), .int .i64 (t0.line : Int), .int .i64 (t0.col : Int)] 62) (w.heap.size + 1) (by simp at hz1; omega)).trans ((hk1.block (w.heap.size + 1) (by simp) (by simp; omega)).trans hA))
      | refine wpList_store_row rfl _ _ _ rfl (w.heap.size + 1) _ rfl rfl _ _ hA1 (by exact infoRg) (by rfl) (allR2 _ _) ?_)
    refine bodyPost_ret (results_ct rfl _ _ (w.heap.size + 1) _ _ _ _ rfl (setRow_heap _ _ _ _ _ _ hA1) Tryz.underlying225 rfl (by exact infoRg)) rfl ?_
    exact ⟨rfl, ⟨_, (hn1.below (bnew _ _)).row _ _ (by omega) (by omega)⟩, Kb.setRow ((((Kb.refl _ _).alloc _).alloc _ |>.trans hk1).alloc _) _ _ (.inr (by omega))⟩
  | ok t ts' =>
    obtain ⟨rfl, rfl⟩ := pNam_ok hP
    rw [hP] at c1
    simp only
    generalize hd ts = t at *
    clear hP
    have c2 := fun W (h1 : W.cell? ⟨w.heap.size, 0, none⟩ = some (.map (some m))) (h2 : RM W m b.find) => cHas w.heap.size 0 m b.find t.text (by omega) W h1 h2
    have c3 := fun W => cRefuse 82 t W
    have hL := fun W (h : RM W m b.find) => h.look1 t.text (by omega)
    obtain ⟨kind, text, num, o', line, col⟩ := t
    unfold tkV at c1 c3
    simp only at c1 c2 c3 hL ⊢
    have hM1 : ∀ w1, Kb [R] ((w.alloc (.cells #[.map (some m), .int .i64 n1, .int .i64 n2] 81)).alloc (.cells #[.int .i64 0, .int .i64 0] 225)) w1 → RM (w1.alloc (.cells #[.int .i64 (kind : Int), .string ⟨text.toArray⟩, .int .i64 (num : Int), .int .i64 (o' : Int), .int .i64 (line : Int), .int .i64 (col : Int)] 62)) m b.find :=
      fun w1 hk => (((hM.below (bnew _ _)).below (bnew _ _)).kept hk (by simpa using hm)).below (bnew _ _)
    have hC1 : ∀ w1, Kb [R] ((w.alloc (.cells #[.map (some m), .int .i64 n1, .int .i64 n2] 81)).alloc (.cells #[.int .i64 0, .int .i64 0] 225)) w1 → (w1.alloc (.cells #[.int .i64 (kind : Int), .string ⟨text.toArray⟩, .int .i64 (num : Int), .int .i64 (o' : Int), .int .i64 (line : Int), .int .i64 (col : Int)] 62)).cell? ⟨w.heap.size, 0, none⟩ = some (.map (some m)) := fun w1 hk => by
      have hz := hk.size
      have h1 := (hk.block w.heap.size (by simp; omega) (by simp; omega)).trans hA'
      exact cell_of_row _ _ 0 _ _ _ ((Below.heap_alloc _ _ _ (by simp at hz; omega)).trans h1)
    have HC1 := hide hC1
    have HM1 := hide hM1
    clear hC1 hM1 hM
    cases hf : b.find text with
    | none =>
      rw [hf] at c2
      simp only [Option.isSome_none] at c2 ⊢
      go_enter Tryz.func174, Tryz.ntmps174
      go_wp2_with (first
        | (go_at_call 197; refine (c1 _ _).mono ?_; rintro e w1 ⟨rfl, hr1, hk1⟩; have hz1 := hk1.size; have hA1 := (hk1.block (w.heap.size + 1) (by simp) (by simp; omega)).trans hA; have hA2 := (hk1.block w.heap.size (by simp; omega) (by simp; omega)).trans hA')
        | (go_at_call 205; refine (c2 _ (HC1.out w1 hk1) (HM1.out w1 hk1)).mono ?_; rintro e w2 ⟨rfl, hb2⟩; obtain ⟨hc2, hf2⟩ := bcell hb2)
        | (go_at_call 132; refine (c3 _).mono ?_; rintro e w3 ⟨rfl, hb3⟩; have hz2 := hb2.size; have hA3 := (hb3.block _ (by simp at hz1 hz2; omega)).trans ((hb2.block _ (by simp at hz1 ⊢; omega)).trans ((Below.heap_alloc _ _ _ (by simp at hz1; omega)).trans hA1)))
        | refine wpList_store_row rfl _ _ _ rfl (w.heap.size + 1) _ rfl rfl _ _ hA3 (by exact infoRg) (by rfl) (allR2 _ _) ?_)
      refine bodyPost_ret (results_ct rfl _ _ (w.heap.size + 1) _ _ _ _ rfl (setRow_heap _ _ _ _ _ _ hA3) Tryz.underlying225 rfl (by exact infoRg)) rfl ?_
      exact ⟨rfl, ⟨_, (hr1.below (((bnew _ _).trans (hb2.mono (by simp))).trans (hb3.mono (by have := hb2.size; simp at this; omega)))).row _ _ (by omega) (by omega)⟩, Kb.setRow (((((Kb.refl _ _).alloc _).alloc _ |>.trans hk1).alloc _ |>.then_below hb2).then_below hb3) _ _ (.inr (by omega))⟩
    | some r =>
      rw [hf] at c2 hL
      simp only [Option.isSome_some, Option.getD_some] at c2 hL ⊢
      obtain ⟨fr, sz⟩ := r
      unfold rgV at hL
      simp only at hL
      go_enter Tryz.func174, Tryz.ntmps174
      go_wp2_with (first
        | (go_at_call 197; refine (c1 _ _).mono ?_; rintro e w1 ⟨rfl, hr1, hk1⟩; have hz1 := hk1.size; have hA1 := (hk1.block (w.heap.size + 1) (by simp) (by simp; omega)).trans hA; have hA2 := (hk1.block w.heap.size (by simp; omega) (by simp; omega)).trans hA')
        | (go_at_call 205; refine (c2 _ (HC1.out w1 hk1) (HM1.out w1 hk1)).mono ?_; rintro e w2 ⟨rfl, hb2⟩; obtain ⟨hc2, hf2⟩ := bcell hb2; have hLL := hL w2 ((HM1.out w1 hk1).below hb2); have hA3 := (hb2.block _ (by simp at hz1 ⊢; omega)).trans ((Below.heap_alloc _ _ _ (by simp at hz1; omega)).trans hA1); have hA4 : w2.cell? ⟨w.heap.size, 0, none⟩ = some (.map (some m)) := cell_of_row _ _ 0 _ _ _ ((hb2.block _ (by simp at hz1 ⊢; omega)).trans ((Below.heap_alloc _ _ _ (by simp at hz1; omega)).trans hA2)))
        | refine wpList_store_row rfl _ _ _ rfl (w.heap.size + 1) _ rfl rfl _ _ hA3 (by exact infoRg) (by rfl) (allR2 _ _) ?_)
      refine bodyPost_ret (results_ct rfl _ _ (w.heap.size + 1) _ _ _ _ rfl (setRow_heap _ _ _ _ _ _ hA3) Tryz.underlying225 rfl (by exact infoRg)) rfl ?_
      exact ⟨rfl, (hr1.below ((bnew _ _).trans (hb2.mono (by simp)))).row _ _ (by omega) (by omega), Kb.setRow ((((Kb.refl _ _).alloc _).alloc _ |>.trans hk1).alloc _ |>.then_below hb2) _ _ (.inr (by omega))⟩
end Go.Proofs.YtkbodljmkhnebaaGreatDoor.Cir
