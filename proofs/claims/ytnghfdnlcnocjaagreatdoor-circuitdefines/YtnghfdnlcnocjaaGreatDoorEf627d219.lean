import Derived.Test.YtnghfdnlcnocjaaGreatDoorEdbe48b88
import Derived.Test.YtnghfdnlcnocjaaGreatDoorEc250b4a9
import Derived.Deep.RegionHeld3
set_option maxRecDepth 100000
set_option maxHeartbeats 600000
namespace Go.Proofs.YtnghfdnlcnocjaaGreatDoor.Cir
open Go.RowKit Go.Shelf Go.Proofs.YtnghfdnlcnocjaaGreatDoor.Oct Go.Proofs.YtnghfdnlcnocjaaGreatDoor.Tok Go.Proofs.YtnghfdnlcnocjaaGreatDoor.Gt
theorem pNam_ok {ts : List T} {t : T} {ts' : List T} (h : pNam ts = .ok t ts') : t = hd ts /\ ts' = tl ts := by
  unfold pNam at h
  split at h
  . simp only [Res.ok.injEq] at h; exact ⟨h.1.symm, h.2.symm⟩
  . cases h
theorem allR2 (a b : Int) : (#[Value.int .i64 a, .int .i64 b]).all (·.oneCell') = true := by simp [Value.oneCell']
theorem infoRg : (Tryz.prog.info? 179).map (·.size) = some 2 := by kernel_rfl
theorem cRegOf (R : Nat) (x : X) (o : Value) (ts : List T) (m : Nat) (n1 n2 : Int) (b : Bk) (w : World) (hR : Rt w R x o ts) (hm : m ≠ R) (hM : RM w m b.find) :
    Calls Tryz.prog 111 #[.pointer (some ⟨R, 0, none⟩), .agg #[.map (some m), .int .i64 n1, .int .i64 n2]] w (PT R x o w (fun r => .tuple #[rgV r, .nilIface]) (fun e => .tuple #[rgV ⟨0, 0⟩, e]) (pReg b ts)) := by
  have c1 := fun o1 o2 => cName R x o ts ((w.alloc o1).alloc o2) (hR.below ((bnew _ _).trans ((bnew _ _).mono (by simp))))
  have hlt := hR.lt
  have hbt := hR.bt
  have hTx := hR.fine.hd
  have eG := erG
  have eN := erN
  have hA : ((w.alloc (.cells #[.map (some m), .int .i64 n1, .int .i64 n2] 62)).alloc (.cells #[.int .i64 0, .int .i64 0] 179)).heap[w.heap.size + 1]? = some (.cells #[.int .i64 0, .int .i64 0] 179 (0, 0)) := by
    have := heap_alloc_new (w.alloc (.cells #[.map (some m), .int .i64 n1, .int .i64 n2] 62)) (.cells #[.int .i64 0, .int .i64 0] 179)
    simpa using this
  have hA' : ((w.alloc (.cells #[.map (some m), .int .i64 n1, .int .i64 n2] 62)).alloc (.cells #[.int .i64 0, .int .i64 0] 179)).heap[w.heap.size]? = some (.cells #[.map (some m), .int .i64 n1, .int .i64 n2] 62 (0, 0)) :=
    (Below.heap_alloc _ _ _ (by simp)).trans (heap_alloc_new _ _)
  unfold pReg
  cases hP : pNam ts with
  | no c t =>
    rw [hP] at c1
    simp only
    go_enter Tryz.func111, Tryz.ntmps111
    go_wp2_with (first
      | (go_at_call 128; refine (c1 _ _).mono ?_; rintro e w1 ⟨rfl, ⟨tn1, hn1⟩, hk1⟩; unfold tkV; have hz1 := hk1.size; have hA1 := (Below.heap_alloc w1 (.cells #[.int .i64 (t0.kind : Int), .string ⟨t0.text.toArray⟩, .int .i64 (t0.num : Int), .int .i64 (t0.off : Int), .int .i64 (t0.line : Int), .int .i64 (t0.col : Int)] 100) (w.heap.size + 1) (by simp at hz1; omega)).trans ((hk1.block (w.heap.size + 1) (by simp) (by simp; omega)).trans hA))
      | refine wpList_store_row rfl _ _ _ rfl (w.heap.size + 1) _ rfl rfl _ _ hA1 (by exact infoRg) (by rfl) (allR2 _ _) ?_)
    refine bodyPost_ret (results_ct rfl _ _ (w.heap.size + 1) _ _ _ _ rfl (setRow_heap _ _ _ _ _ _ hA1) Tryz.underlying179 rfl (by exact infoRg)) rfl ?_
    exact ⟨rfl, ⟨_, (hn1.below (bnew _ _)).row _ _ (by omega) (by omega)⟩, Kb.setRow ((((Kb.refl _ _).alloc _).alloc _ |>.trans hk1).alloc _) _ _ (.inr (by omega))⟩
  | ok t ts' =>
    obtain ⟨rfl, rfl⟩ := pNam_ok hP
    rw [hP] at c1
    simp only
    generalize hd ts = t at *
    clear hP
    have c2 := fun W (h1 : W.cell? ⟨w.heap.size, 0, none⟩ = some (.map (some m))) (h2 : RM W m b.find) => cHas w.heap.size 0 m b.find t.text (by omega) W h1 h2
    have c3 := fun W => cRefuse 82 t W
    have hL := fun W (h : RM W m b.find) => h.look1 t.text (by omega)
    obtain ⟨kind, text, num, o', line, col⟩ := t
    unfold tkV at c1 c3
    simp only at c1 c2 c3 hL ⊢
    have hM1 : ∀ w1, Kb [R] ((w.alloc (.cells #[.map (some m), .int .i64 n1, .int .i64 n2] 62)).alloc (.cells #[.int .i64 0, .int .i64 0] 179)) w1 -> RM (w1.alloc (.cells #[.int .i64 (kind : Int), .string ⟨text.toArray⟩, .int .i64 (num : Int), .int .i64 (o' : Int), .int .i64 (line : Int), .int .i64 (col : Int)] 100)) m b.find :=
      fun w1 hk => (((hM.below (bnew _ _)).below (bnew _ _)).kept hk (by simpa using hm)).below (bnew _ _)
    have hC1 : ∀ w1, Kb [R] ((w.alloc (.cells #[.map (some m), .int .i64 n1, .int .i64 n2] 62)).alloc (.cells #[.int .i64 0, .int .i64 0] 179)) w1 -> (w1.alloc (.cells #[.int .i64 (kind : Int), .string ⟨text.toArray⟩, .int .i64 (num : Int), .int .i64 (o' : Int), .int .i64 (line : Int), .int .i64 (col : Int)] 100)).cell? ⟨w.heap.size, 0, none⟩ = some (.map (some m)) := fun w1 hk => by
      have hz := hk.size
      have h1 := (hk.block w.heap.size (by simp; omega) (by simp; omega)).trans hA'
      exact cell_of_row _ _ 0 _ _ _ ((Below.heap_alloc _ _ _ (by simp at hz; omega)).trans h1)
    have HC1 := hide hC1
    have HM1 := hide hM1
    clear hC1 hM1 hM
    cases hf : b.find text with
    | none =>
      rw [hf] at c2
      simp only [Option.isSome_none] at c2 ⊢
      go_enter Tryz.func111, Tryz.ntmps111
      go_wp2_with (first
        | (go_at_call 128; refine (c1 _ _).mono ?_; rintro e w1 ⟨rfl, hr1, hk1⟩; have hz1 := hk1.size; have hA1 := (hk1.block (w.heap.size + 1) (by simp) (by simp; omega)).trans hA; have hA2 := (hk1.block w.heap.size (by simp; omega) (by simp; omega)).trans hA')
        | (go_at_call 136; refine (c2 _ (HC1.out w1 hk1) (HM1.out w1 hk1)).mono ?_; rintro e w2 ⟨rfl, hb2⟩; obtain ⟨hc2, hf2⟩ := bcell hb2)
        | (go_at_call 87; refine (c3 _).mono ?_; rintro e w3 ⟨rfl, hb3⟩; have hz2 := hb2.size; have hA3 := (hb3.block _ (by simp at hz1 hz2; omega)).trans ((hb2.block _ (by simp at hz1 ⊢; omega)).trans ((Below.heap_alloc _ _ _ (by simp at hz1; omega)).trans hA1)))
        | refine wpList_store_row rfl _ _ _ rfl (w.heap.size + 1) _ rfl rfl _ _ hA3 (by exact infoRg) (by rfl) (allR2 _ _) ?_)
      refine bodyPost_ret (results_ct rfl _ _ (w.heap.size + 1) _ _ _ _ rfl (setRow_heap _ _ _ _ _ _ hA3) Tryz.underlying179 rfl (by exact infoRg)) rfl ?_
      exact ⟨rfl, ⟨_, (hr1.below (((bnew _ _).trans (hb2.mono (by simp))).trans (hb3.mono (by have := hb2.size; simp at this; omega)))).row _ _ (by omega) (by omega)⟩, Kb.setRow (((((Kb.refl _ _).alloc _).alloc _ |>.trans hk1).alloc _ |>.then_below hb2).then_below hb3) _ _ (.inr (by omega))⟩
    | some r =>
      rw [hf] at c2 hL
      simp only [Option.isSome_some, Option.getD_some] at c2 hL ⊢
      obtain ⟨fr, sz⟩ := r
      unfold rgV at hL
      simp only at hL
      go_enter Tryz.func111, Tryz.ntmps111
      go_wp2_with (first
        | (go_at_call 128; refine (c1 _ _).mono ?_; rintro e w1 ⟨rfl, hr1, hk1⟩; have hz1 := hk1.size; have hA1 := (hk1.block (w.heap.size + 1) (by simp) (by simp; omega)).trans hA; have hA2 := (hk1.block w.heap.size (by simp; omega) (by simp; omega)).trans hA')
        | (go_at_call 136; refine (c2 _ (HC1.out w1 hk1) (HM1.out w1 hk1)).mono ?_; rintro e w2 ⟨rfl, hb2⟩; obtain ⟨hc2, hf2⟩ := bcell hb2; have hLL := hL w2 ((HM1.out w1 hk1).below hb2); have hA3 := (hb2.block _ (by simp at hz1 ⊢; omega)).trans ((Below.heap_alloc _ _ _ (by simp at hz1; omega)).trans hA1); have hA4 : w2.cell? ⟨w.heap.size, 0, none⟩ = some (.map (some m)) := cell_of_row _ _ 0 _ _ _ ((hb2.block _ (by simp at hz1 ⊢; omega)).trans ((Below.heap_alloc _ _ _ (by simp at hz1; omega)).trans hA2)))
        | refine wpList_store_row rfl _ _ _ rfl (w.heap.size + 1) _ rfl rfl _ _ hA3 (by exact infoRg) (by rfl) (allR2 _ _) ?_)
      refine bodyPost_ret (results_ct rfl _ _ (w.heap.size + 1) _ _ _ _ rfl (setRow_heap _ _ _ _ _ _ hA3) Tryz.underlying179 rfl (by exact infoRg)) rfl ?_
      exact ⟨rfl, (hr1.below ((bnew _ _).trans (hb2.mono (by simp)))).row _ _ (by omega) (by omega), Kb.setRow ((((Kb.refl _ _).alloc _).alloc _ |>.trans hk1).alloc _ |>.then_below hb2) _ _ (.inr (by omega))⟩
theorem wrapN (x : Int) (h1 : -9223372036854775808 <= x) (h2 : x <= 9223372036854775807) : IntKind.i64.wrap x = x := by rw [IntKind.wrap_i64]; omega
theorem Kb.undrew {M : List Nat} {w w' : World} (h : Kb M w.drew w') : Kb M w w' := ⟨h.os, h.tape, h.output, h.size, h.block⟩
theorem PT.base {α : Type} {R : Nat} {x : X} {o : Value} {w0 w : World} {gd : α -> Value} {bd : Value -> Value} {P : Res α} {e : Ending} {w' : World} (hk : Kb [R] w0 w) (h : PT R x o w gd bd P e w') : PT R x o w0 gd bd P e w' := by
  cases P with
  | ok a ts => exact ⟨h.1, h.2.1, hk.trans h.2.2⟩
  | no c t => exact ⟨h.1, h.2.1, hk.trans h.2.2⟩
theorem cMark1 (R : Nat) (x : X) (o : Value) (ts : List T) (m : Nm) (w : World) (hR : Rt w R x o ts) :
    Calls Tryz.prog 58 #[.pointer (some ⟨R, 0, none⟩), .slice (some ⟨w.heap.size, 0, none⟩) 1 1] (w.alloc (.cells #[.string ⟨m.toArray⟩] 9)) (PT R x o w (fun _ => .nilIface) id (pMks [m] ts)) := by
  have hlt := hR.lt
  refine (cMarks R x o ts [m] w.heap.size 1 (by omega) (by simp) (w.alloc (.cells #[.string ⟨m.toArray⟩] 9)) (hR.below (bnew _ _)) ?_).mono (fun e w' h => h.base (Kb.of_below (bnew _ _)))
  intro j u hu
  rw [cell_of_row _ _ j _ _ _ (heap_alloc_new w _)]
  cases j with
  | zero => simp at hu; subst hu; rfl
  | succ j => simp at hu
theorem cMark2 (R : Nat) (x : X) (o : Value) (ts : List T) (m n : Nm) (w : World) (hR : Rt w R x o ts) :
    Calls Tryz.prog 58 #[.pointer (some ⟨R, 0, none⟩), .slice (some ⟨w.heap.size, 0, none⟩) 2 2] (w.alloc (.cells #[.string ⟨m.toArray⟩, .string ⟨n.toArray⟩] 9)) (PT R x o w (fun _ => .nilIface) id (pMks [m, n] ts)) := by
  have hlt := hR.lt
  refine (cMarks R x o ts [m, n] w.heap.size 2 (by omega) (by simp) (w.alloc (.cells #[.string ⟨m.toArray⟩, .string ⟨n.toArray⟩] 9)) (hR.below (bnew _ _)) ?_).mono (fun e w' h => h.base (Kb.of_below (bnew _ _)))
  intro j u hu
  rw [cell_of_row _ _ j _ _ _ (heap_alloc_new w _)]
  match j with
  | 0 => simp at hu; subst hu; rfl
  | 1 => simp at hu; subst hu; rfl
  | j + 2 => simp at hu
def PX {α : Type} (R : Nat) (x : X) (o : Value) (w : World) (gd : α -> Value) (bd : Value -> Ending -> Prop) (P : Res α) (e : Ending) (w' : World) : Prop := match P with
  | .ok a ts' => e = .returned (gd a) /\ Rt w' R x o ts' /\ Kb [R] w w'
  | .no c t => bd (erV c t) e /\ (∃ ts', Rt w' R x o ts') /\ Kb [R] w w'
def bdI (er : Value) (e : Ending) : Prop := ∃ z : Int, e = .returned (.tuple #[.int .i64 z, er])
theorem cIndex (R : Nat) (x : X) (o : Value) (ts : List T) (r : Rg) (hr : r.fr + r.sz <= 64) (w : World) (hR : Rt w R x o ts) :
    Calls Tryz.prog 112 #[.pointer (some ⟨R, 0, none⟩), rgV r] w (PX R x o w (fun (n : Nat) => .tuple #[.int .i64 (n : Int), .nilIface]) bdI (pIdx r ts)) := by
  have hlt := hR.lt
  have eG := erG
  have eN := erN
  obtain ⟨fr, sz⟩ := r
  unfold rgV pIdx
  simp only at hr ⊢
  have c1 := fun o1 => cMark1 R x o ts [91] (w.alloc o1) (hR.below (bnew _ _))
  simp only [World.size_alloc] at c1
  cases h1 : pMks [[91]] ts with
  | no c t =>
    rw [h1] at c1
    go_enter Tryz.func112, Tryz.ntmps112
    go_wp2_with (go_at_call 58; refine (c1 _).mono ?_; rintro e w1 ⟨rfl, hn1, hk1⟩)
    go_ret2
    exact ⟨⟨0, rfl⟩, hn1, ((Kb.refl _ _).alloc _).trans hk1⟩
  | ok u ts1 =>
    rw [h1] at c1
    simp only
    have c2 := fun W (h : Rt W R x o ts1) => cNumber R x o ts1 0 ((sz : Int) - 1) W h
    cases h2 : pNum 0 ((sz : Int) - 1) ts1 with
    | no c t =>
      rw [h2] at c2
      go_enter Tryz.func112, Tryz.ntmps112
      go_wp2_with (first
        | (go_at_call 58; refine (c1 _).mono ?_; rintro e w1 ⟨rfl, hr1, hk1⟩; obtain ⟨kc1, kf1⟩ := kcell hk1; have hz1 := hk1.size; simp only [World.size_alloc] at hz1; have hne : w.heap.size ≠ R := by omega)
        | (go_at_call 106; refine (c2 _ hr1).mono ?_; rintro e w2 ⟨rfl, hn2, hk2⟩))
      go_ret2
      exact ⟨⟨0, rfl⟩, hn2, (((Kb.refl _ _).alloc _).trans hk1).trans hk2⟩
    | ok n ts2 =>
      rw [h2] at c2
      simp only
      have hn : n <= 64 := by
        unfold pNum at h2
        split at h2
        . cases h2
        . split at h2
          . cases h2
          . rename_i _ hh
            simp only [Res.ok.injEq] at h2
            omega
      have c3 := fun W (h : Rt W R x o ts2) => cMark1 R x o ts2 [93] W h
      cases h3 : pMks [[93]] ts2 with
      | no c t =>
        rw [h3] at c3
        go_enter Tryz.func112, Tryz.ntmps112
        go_wp2_with (first
          | (go_at_call 58; refine (c1 _).mono ?_; clear c1; rintro e w1 ⟨rfl, hr1, hk1⟩; obtain ⟨kc1, kf1⟩ := kcell hk1; have hz1 := hk1.size; simp only [World.size_alloc] at hz1; have hne : w.heap.size ≠ R := by omega)
          | (go_at_call 106; refine (c2 _ hr1).mono ?_; rintro e w2 ⟨rfl, hr2, hk2⟩; obtain ⟨kc2, kf2⟩ := kcell hk2; have hz2 := hk2.size))
        have hA : w2.cell? ⟨w.heap.size, 0, none⟩ = some (.int .i64 (fr : Int)) := by
          rw [kc2 _ _ (by omega) hne, kc1 _ _ (by simp) hne]; simp
        have hb : fr + n <= 128 := by omega
        have c4 : Calls Tryz.prog 58 #[.pointer (some ⟨R, 0, none⟩), .slice (some ⟨w2.heap.size, 0, none⟩) 1 1] (w2.alloc (.cells #[.string ⟨#[93]⟩] 9)).drew (PT R x o w2.drew (fun _ => .nilIface) id (.no c t)) := c3 w2.drew hr2
        clear kc1 kf1 kc2 kf2 c2 c3
        have hA3 : ∀ w3, Kb [R] w2.drew w3 -> w3.cell? ⟨w.heap.size, 0, none⟩ = some (.int .i64 (fr : Int)) := fun w3 h3 => (h3.undrew.cell (p := ⟨w.heap.size, 0, none⟩) (World.block_lt_of_cell? _ _ hA) (by simpa using hne)).trans hA
        have HA3 := hide hA3
        clear hA3
        have HA0 : Hid (∀ o, (w2.alloc o).drew.cell? ⟨w.heap.size, 0, none⟩ = some (.int .i64 (fr : Int))) := hide (fun o => ((bnew w2 o).cell (p := ⟨w.heap.size, 0, none⟩) (World.block_lt_of_cell? _ _ hA)).trans hA)
        go_region_held3 (fun W => W.cell? ⟨w.heap.size, 0, none⟩ = some (.int .i64 (fr : Int))) (first | exact hA | exact HA0.out _ | exact HA3.out _ (by assumption))
          (first | (go_at_call 58; refine c4.mono ?_; rintro e w3 ⟨rfl, hn3, hk3⟩))
        go_wp2_with fail
        go_ret2
        exact ⟨⟨_, rfl⟩, hn3, ((((Kb.refl _ _).alloc _).trans hk1).trans hk2).trans hk3.undrew⟩
      | ok u ts3 =>
        rw [h3] at c3
        have hw : IntKind.i64.wrap ((fr : Int) + (n : Int)) = ((fr + n : Nat) : Int) := by
          rw [show ((fr : Int) + (n : Int)) = ((fr + n : Nat) : Int) by omega]
          exact wrapN _ (by omega) (by omega)
        have Hw := hide hw
        clear hw
        go_enter Tryz.func112, Tryz.ntmps112
        go_wp2_with (first
          | (go_at_call 58; refine (c1 _).mono ?_; clear c1; rintro e w1 ⟨rfl, hr1, hk1⟩; obtain ⟨kc1, kf1⟩ := kcell hk1; have hz1 := hk1.size; simp only [World.size_alloc] at hz1; have hne : w.heap.size ≠ R := by omega)
          | (go_at_call 106; refine (c2 _ hr1).mono ?_; rintro e w2 ⟨rfl, hr2, hk2⟩; obtain ⟨kc2, kf2⟩ := kcell hk2; have hz2 := hk2.size))
        have hA : w2.cell? ⟨w.heap.size, 0, none⟩ = some (.int .i64 (fr : Int)) := by
          rw [kc2 _ _ (by omega) hne, kc1 _ _ (by simp) hne]; simp
        have c4 : Calls Tryz.prog 58 #[.pointer (some ⟨R, 0, none⟩), .slice (some ⟨w2.heap.size, 0, none⟩) 1 1] (w2.alloc (.cells #[.string ⟨#[93]⟩] 9)).drew (PT R x o w2.drew (fun _ => .nilIface) id (.ok u ts3)) := c3 w2.drew hr2
        clear kc1 kf1 kc2 kf2 c2 c3
        have hA3 : ∀ w3, Kb [R] w2.drew w3 -> w3.cell? ⟨w.heap.size, 0, none⟩ = some (.int .i64 (fr : Int)) := fun w3 h3 => (h3.undrew.cell (p := ⟨w.heap.size, 0, none⟩) (World.block_lt_of_cell? _ _ hA) (by simpa using hne)).trans hA
        have HA3 := hide hA3
        clear hA3
        have HA0 : Hid (∀ o, (w2.alloc o).drew.cell? ⟨w.heap.size, 0, none⟩ = some (.int .i64 (fr : Int))) := hide (fun o => ((bnew w2 o).cell (p := ⟨w.heap.size, 0, none⟩) (World.block_lt_of_cell? _ _ hA)).trans hA)
        go_region_held3 (fun W => W.cell? ⟨w.heap.size, 0, none⟩ = some (.int .i64 (fr : Int))) (first | exact hA | exact HA0.out _ | exact HA3.out _ (by assumption))
          (first | (go_at_call 58; refine c4.mono ?_; rintro e w3 ⟨rfl, hr3, hk3⟩))
        rw [Hw.out]
        go_wp2_with fail
        go_ret2
        exact ⟨rfl, hr3, ((((Kb.refl _ _).alloc _).trans hk1).trans hk2).trans hk3.undrew⟩
def agV (a : Ag) : Value := .agg #[.int .i64 (a.fr : Int), .int .i64 (a.sz : Int), .bool a.whole]
def bdA (er : Value) (e : Ending) : Prop := ∃ (a b : Int) (c : Bool), e = .returned (.tuple #[.agg #[.int .i64 a, .int .i64 b, .bool c], er])
theorem infoAg : (Tryz.prog.info? 184).map (·.size) = some 3 := by kernel_rfl
theorem allA (a b : Int) (c : Bool) : (#[Value.int .i64 a, .int .i64 b, .bool c]).all (·.oneCell') = true := by simp [Value.oneCell']
theorem cArg (R : Nat) (x : X) (o : Value) (ts : List T) (m : Nat) (n1 n2 : Int) (b : Bk) (hb : ∀ y r, b.find y = some r -> r.fr + r.sz <= 64) (w : World) (hR : Rt w R x o ts) (hm : m ≠ R) (hM : RM w m b.find) :
    Calls Tryz.prog 113 #[.pointer (some ⟨R, 0, none⟩), .agg #[.map (some m), .int .i64 n1, .int .i64 n2]] w (PX R x o w (fun a => .tuple #[agV a, .nilIface]) bdA (pArg b ts)) := by
  have c1 := fun o1 o2 => cRegOf R x o ts m n1 n2 b ((w.alloc o1).alloc o2) (hR.below ((bnew _ _).trans ((bnew _ _).mono (by simp)))) hm ((hM.below (bnew _ _)).below (bnew _ _))
  have hlt := hR.lt
  have hbt := hR.bt
  have eG := erG
  have eN := erN
  have hA : ((w.alloc (.cells #[.map (some m), .int .i64 n1, .int .i64 n2] 62)).alloc (.cells #[.int .i64 0, .int .i64 0, .bool false] 184)).heap[w.heap.size + 1]? = some (.cells #[.int .i64 0, .int .i64 0, .bool false] 184 (0, 0)) := by
    have := heap_alloc_new (w.alloc (.cells #[.map (some m), .int .i64 n1, .int .i64 n2] 62)) (.cells #[.int .i64 0, .int .i64 0, .bool false] 184)
    simpa using this
  unfold pArg
  cases h1 : pReg b ts with
  | no c t =>
    rw [h1] at c1
    simp only
    go_enter Tryz.func113, Tryz.ntmps113
    go_wp2_with (first
      | (go_at_call 111; refine (c1 _ _).mono ?_; rintro e w1 ⟨rfl, ⟨tn1, hn1⟩, hk1⟩; unfold rgV; have hz1 := hk1.size; have hA1 := (Below.heap_alloc w1 (.cells #[.int .i64 ((0 : Nat) : Int), .int .i64 ((0 : Nat) : Int)] 179) (w.heap.size + 1) (by simp at hz1; omega)).trans ((hk1.block (w.heap.size + 1) (by simp) (by simp; omega)).trans hA))
      | refine wpList_store_row rfl _ _ _ rfl (w.heap.size + 1) _ rfl rfl _ _ hA1 (by exact infoAg) (by rfl) (allA _ _ _) ?_)
    refine bodyPost_ret (results_ct rfl _ _ (w.heap.size + 1) _ _ _ _ rfl (setRow_heap _ _ _ _ _ _ hA1) Tryz.underlying184 rfl (by exact infoAg)) rfl ?_
    exact ⟨⟨_, _, _, rfl⟩, ⟨_, (hn1.below (bnew _ _)).row _ _ (by omega) (by omega)⟩, Kb.setRow ((((Kb.refl _ _).alloc _).alloc _ |>.trans hk1).alloc _) _ _ (.inr (by omega))⟩
  | ok r ts1 =>
    rw [h1] at c1
    simp only
    have hr : r.fr + r.sz <= 64 := by
      unfold pReg at h1
      split at h1
      . cases h1
      . split at h1
        . cases h1
        . rename_i hf
          simp only [Res.ok.injEq] at h1
          rw [← h1.1]
          exact hb _ _ hf
    obtain ⟨fr, sz⟩ := r
    have c2 := fun W (h : Rt W R x o ts1) => cStands R x o ts1 [91] W h
    have c3 := fun W (h : Rt W R x o ts1) => cIndex R x o ts1 ⟨fr, sz⟩ hr W h
    unfold rgV at c1 c3
    simp only at c1 c3 hr ⊢
    cases h2 : isT 5 [91] (hd ts1) with
    | false =>
      rw [h2] at c2
      simp only [Bool.false_eq_true, if_false]
      go_enter Tryz.func113, Tryz.ntmps113
      go_wp2_with (first
        | (go_at_call 111; refine (c1 _ _).mono ?_; rintro e w1 ⟨rfl, hr1, hk1⟩; have hz1 := hk1.size; have hA1 := (Below.heap_alloc w1 (.cells #[.int .i64 (fr : Int), .int .i64 (sz : Int)] 179) (w.heap.size + 1) (by simp at hz1; omega)).trans ((hk1.block (w.heap.size + 1) (by simp) (by simp; omega)).trans hA); have hr1' := hr1.below (bnew w1 (.cells #[.int .i64 (fr : Int), .int .i64 (sz : Int)] 179)))
        | (go_at_call 109; refine (c2 _ hr1').mono ?_; rintro e w2 ⟨rfl, hb2⟩; obtain ⟨hc2, hf2⟩ := bcell hb2; have hA2 := (hb2.block _ (by simp at hz1 ⊢; omega)).trans hA1)
        | refine wpList_store_row rfl _ _ _ rfl (w.heap.size + 1) _ rfl rfl _ _ hA2 (by exact infoAg) (by rfl) (allA _ _ _) ?_)
      refine bodyPost_ret (results_ct rfl _ _ (w.heap.size + 1) _ _ _ _ rfl (setRow_heap _ _ _ _ _ _ hA2) Tryz.underlying184 rfl (by exact infoAg)) rfl ?_
      exact ⟨rfl, (hr1'.below hb2).row _ _ (by omega) (by omega), Kb.setRow ((((Kb.refl _ _).alloc _).alloc _ |>.trans hk1).alloc _ |>.then_below hb2) _ _ (.inr (by omega))⟩
    | true =>
      rw [h2] at c2
      simp only [if_true]
      cases h3 : pIdx ⟨fr, sz⟩ ts1 with
      | no c t =>
        rw [h3] at c3
        go_enter Tryz.func113, Tryz.ntmps113
        go_wp2_with (first
          | (go_at_call 111; refine (c1 _ _).mono ?_; rintro e w1 ⟨rfl, hr1, hk1⟩; have hz1 := hk1.size; have hA1 := (Below.heap_alloc w1 (.cells #[.int .i64 (fr : Int), .int .i64 (sz : Int)] 179) (w.heap.size + 1) (by simp at hz1; omega)).trans ((hk1.block (w.heap.size + 1) (by simp) (by simp; omega)).trans hA); have hr1' := hr1.below (bnew w1 (.cells #[.int .i64 (fr : Int), .int .i64 (sz : Int)] 179)))
          | (go_at_call 109; refine (c2 _ hr1').mono ?_; rintro e w2 ⟨rfl, hb2⟩; obtain ⟨hc2, hf2⟩ := bcell hb2; have hz2 := hb2.size; have hA2 := (hb2.block _ (by simp at hz1 ⊢; omega)).trans hA1)
          | (go_at_call 112; refine (c3 _ (hr1'.below hb2)).mono ?_; rintro e w3 ⟨⟨z, rfl⟩, ⟨tn3, hn3⟩, hk3⟩; have hA3 := (hk3.block (w.heap.size + 1) (by simp at hz1 hz2; omega) (by simp; omega)).trans hA2)
          | refine wpList_store_row rfl _ _ _ rfl (w.heap.size + 1) _ rfl rfl _ _ hA3 (by exact infoAg) (by rfl) (allA _ _ _) ?_)
        refine bodyPost_ret (results_ct rfl _ _ (w.heap.size + 1) _ _ _ _ rfl (setRow_heap _ _ _ _ _ _ hA3) Tryz.underlying184 rfl (by exact infoAg)) rfl ?_
        exact ⟨⟨_, _, _, rfl⟩, ⟨_, hn3.row _ _ (by omega) (by omega)⟩, Kb.setRow (((((Kb.refl _ _).alloc _).alloc _ |>.trans hk1).alloc _ |>.then_below hb2).trans hk3) _ _ (.inr (by omega))⟩
      | ok i ts2 =>
        rw [h3] at c3
        go_enter Tryz.func113, Tryz.ntmps113
        go_wp2_with (first
          | (go_at_call 111; refine (c1 _ _).mono ?_; rintro e w1 ⟨rfl, hr1, hk1⟩; have hz1 := hk1.size; have hA1 := (Below.heap_alloc w1 (.cells #[.int .i64 (fr : Int), .int .i64 (sz : Int)] 179) (w.heap.size + 1) (by simp at hz1; omega)).trans ((hk1.block (w.heap.size + 1) (by simp) (by simp; omega)).trans hA); have hr1' := hr1.below (bnew w1 (.cells #[.int .i64 (fr : Int), .int .i64 (sz : Int)] 179)))
          | (go_at_call 109; refine (c2 _ hr1').mono ?_; rintro e w2 ⟨rfl, hb2⟩; obtain ⟨hc2, hf2⟩ := bcell hb2; have hz2 := hb2.size; have hA2 := (hb2.block _ (by simp at hz1 ⊢; omega)).trans hA1)
          | (go_at_call 112; refine (c3 _ (hr1'.below hb2)).mono ?_; rintro e w3 ⟨rfl, hr3, hk3⟩; have hA3 := (hk3.block (w.heap.size + 1) (by simp at hz1 hz2; omega) (by simp; omega)).trans hA2)
          | refine wpList_store_row rfl _ _ _ rfl (w.heap.size + 1) _ rfl rfl _ _ hA3 (by exact infoAg) (by rfl) (allA _ _ _) ?_)
        refine bodyPost_ret (results_ct rfl _ _ (w.heap.size + 1) _ _ _ _ rfl (setRow_heap _ _ _ _ _ _ hA3) Tryz.underlying184 rfl (by exact infoAg)) rfl ?_
        exact ⟨rfl, hr3.row _ _ (by omega) (by omega), Kb.setRow (((((Kb.refl _ _).alloc _).alloc _ |>.trans hk1).alloc _ |>.then_below hb2).trans hk3) _ _ (.inr (by omega))⟩
structure Ly where
  mq : Nat
  mb : Nat
  md : Nat
  bt : Nat
def xOf (L : Ly) (d : Dc) : X := ⟨.map (some L.mq), .int .i64 (d.q.size : Int), .int .i64 64, .map (some L.mb), .int .i64 (d.b.size : Int), .int .i64 64, .map (some L.md), L.bt⟩
structure DcOk (d : Dc) : Prop where
  q : d.q.size <= 64
  b : d.b.size <= 64
  rq : ∀ x r, d.q.find x = some r -> 1 <= r.sz /\ r.fr + r.sz <= d.q.size
  rb : ∀ x r, d.b.find x = some r -> 1 <= r.sz /\ r.fr + r.sz <= d.b.size
def RQ (w : World) (b : Nat) (k : Bk) : Prop := ∃ n, n <= k.size /\ Mp w b n (fun x => (k.find x).map rgV)
theorem RQ.rm {w : World} {b : Nat} {k : Bk} (h : RQ w b k) : RM w b k.find := by
  obtain ⟨n, _, h⟩ := h
  exact ⟨n, trivial, h⟩
theorem RQ.below {w w' : World} {b : Nat} {k : Bk} (h : RQ w b k) (hb : Below w.heap.size w w') : RQ w' b k := by
  obtain ⟨n, hn, h⟩ := h
  exact ⟨n, hn, h.below hb⟩
theorem RQ.kept {w w' : World} {b : Nat} {k : Bk} {M : List Nat} (h : RQ w b k) (hk : Kb M w w') (hm : b ∉ M) : RQ w' b k := by
  obtain ⟨n, hn, h⟩ := h
  exact ⟨n, hn, h.kept hk hm⟩
theorem RQ.ne {w : World} {b : Nat} {q : Bk} (h : RQ w b q) {k : Nat} {cs : Array Value} {t : TypeId} {fr : Nat × Nat} (hk : w.heap[k]? = some (.cells cs t fr)) : b ≠ k := by
  obtain ⟨n, _, h⟩ := h
  exact h.ne hk
theorem RQ.lt {w : World} {b : Nat} {k : Bk} (h : RQ w b k) : b < w.heap.size := by
  obtain ⟨n, _, h⟩ := h
  exact h.lt
structure Rdr (w0 w : World) (R : Nat) (L : Ly) (B N : Nat) (d : Dc) : Prop where
  ok : DcOk d
  mq : RQ w L.mq d.q
  mb : RQ w L.mb d.b
  md : DM w B L.md N d.defs
  hB : B <= w.heap.size
  bel : Below w0.heap.size w0 w
  T0 : Tb w0
  R0 : w0.heap.size <= R
  q0 : w0.heap.size <= L.mq /\ w0.heap.size <= L.mb /\ w0.heap.size <= L.md
  ne : L.mq ≠ L.mb /\ L.mq ≠ L.md /\ L.mb ≠ L.md
theorem RM.ne {w : World} {b : Nat} {f : Nm -> Option Rg} (h : RM w b f) {k : Nat} {cs : Array Value} {t : TypeId} {fr : Nat × Nat} (hk : w.heap[k]? = some (.cells cs t fr)) : b ≠ k := by
  obtain ⟨n, _, h⟩ := h
  exact h.ne hk
theorem DM.ne {w : World} {B b N : Nat} {f : Nm -> Option Df} (h : DM w B b N f) {k : Nat} {cs : Array Value} {t : TypeId} {fr : Nat × Nat} (hk : w.heap[k]? = some (.cells cs t fr)) : b ≠ k := by
  obtain ⟨vs, h, _⟩ := h
  exact h.ne hk
namespace Rdr
variable {w0 w w' : World} {R : Nat} {L : Ly} {B N : Nat} {d : Dc} {o : Value} {ts ts' : List T} {x : X}
theorem tb (h : Rdr w0 w R L B N d) : Tb w := h.T0.below h.bel
theorem below (h : Rdr w0 w R L B N d) (hb : Below w.heap.size w w') : Rdr w0 w' R L B N d :=
  ⟨h.ok, h.mq.below hb, h.mb.below hb, h.md.below hb, Nat.le_trans h.hB hb.size, h.bel.trans (hb.mono h.bel.size), h.T0, h.R0, h.q0, h.ne⟩
theorem kept {M : List Nat} (h : Rdr w0 w R L B N d) (hk : Kb M w w') (hs : Safe B M w) (h0 : ∀ m, m ∈ M -> w0.heap.size <= m) (h1 : L.mq ∉ M) (h2 : L.mb ∉ M) (h3 : L.md ∉ M) : Rdr w0 w' R L B N d :=
  ⟨h.ok, h.mq.kept hk h1, h.mb.kept hk h2, h.md.kept hk hs h3, Nat.le_trans h.hB hk.size, h.bel.trans (hk.below h.bel.size h0), h.T0, h.R0, h.q0, h.ne⟩
theorem safe (hR : Rt w R x o ts) : Safe B [R] w := by
  intro m hm cs t fr hg
  rw [List.mem_singleton] at hm
  subst hm
  obtain ⟨⟨v, hb, _⟩, _⟩ := hR
  unfold rbO at hb
  rw [hb] at hg
  simp only [Option.some.injEq, Obj.cells.injEq] at hg
  rw [← hg.2.1]
  exact ⟨fun e => absurd e (by decide), fun e => absurd e (by decide)⟩
theorem turn (h : Rdr w0 w R L B N d) (hR : Rt w R x o ts) (hk : Kb [R] w w') : Rdr w0 w' R L B N d := by
  obtain ⟨⟨v, hb, _⟩, _⟩ := id hR
  unfold rbO at hb
  exact h.kept hk (safe hR) (fun m hm => by rw [List.mem_singleton] at hm; subst hm; exact h.R0) (by simpa using h.mq.ne hb) (by simpa using h.mb.ne hb) (by simpa using h.md.ne hb)
theorem more {M : List Nat} (h : Rdr w0 w R L B N d) (hR : Rt w R x o ts) (hk : Kb (R :: M) w w') (hM : ∀ m, m ∈ M -> w0.heap.size <= m /\ ∃ cs t fr, w.heap[m]? = some (Obj.cells cs t fr) /\ (t = 3 -> B <= m) /\ (t = 222 -> B <= m)) : Rdr w0 w' R L B N d := by
  obtain ⟨⟨v, hb, _⟩, _⟩ := id hR
  unfold rbO at hb
  have key : ∀ b, (∀ k cs t fr, w.heap[k]? = some (Obj.cells cs t fr) -> b ≠ k) -> b ∉ R :: M := by
    intro b hh hm
    rcases List.mem_cons.1 hm with e | e
    . exact hh _ _ _ _ hb e
    . obtain ⟨_, cs, t, fr, hg, _⟩ := hM b e
      exact hh _ _ _ _ hg rfl
  refine h.kept hk ?_ ?_ (key _ fun k _ _ _ hg => h.mq.ne hg) (key _ fun k _ _ _ hg => h.mb.ne hg) (key _ fun k _ _ _ hg => h.md.ne hg)
  . intro m hm cs t fr hg
    rcases List.mem_cons.1 hm with e | e
    . exact safe (B := B) hR m (by rw [e]; simp) cs t fr hg
    . obtain ⟨_, cs', t', fr', hg', h1, h2⟩ := hM m e
      rw [hg] at hg'
      simp only [Option.some.injEq, Obj.cells.injEq] at hg'
      rw [hg'.2.1]
      exact ⟨h1, h2⟩
  . intro m hm
    rcases List.mem_cons.1 hm with e | e
    . rw [e]; exact h.R0
    . exact (hM m e).1
theorem mono {B' : Nat} (h : Rdr w0 w R L B N d) (hB : B <= B') (hw : B' <= w.heap.size) : Rdr w0 w R L B' N d :=
  ⟨h.ok, h.mq, h.mb, h.md.mono hB, hw, h.bel, h.T0, h.R0, h.q0, h.ne⟩
end Rdr
theorem Rt.cells {w : World} {R : Nat} {L : Ly} {d : Dc} {o : Value} {ts : List T} (h : Rt w R (xOf L d) o ts) : w.cell? ⟨R, 0, none⟩ = some (.map (some L.mq)) /\ w.cell? ⟨R, 1, none⟩ = some (.int .i64 (d.q.size : Int)) /\ w.cell? ⟨R, 2, none⟩ = some (.int .i64 64) /\
    w.cell? ⟨R, 3, none⟩ = some (.map (some L.mb)) /\ w.cell? ⟨R, 4, none⟩ = some (.int .i64 (d.b.size : Int)) /\ w.cell? ⟨R, 5, none⟩ = some (.int .i64 64) /\ w.cell? ⟨R, 6, none⟩ = some (.map (some L.md)) /\ w.cell? ⟨R, 8, none⟩ = some o := by
  obtain ⟨⟨v, hb, _⟩, _⟩ := h
  unfold rbO xOf at hb
  exact ⟨cell_of_row _ _ 0 _ _ _ hb, cell_of_row _ _ 1 _ _ _ hb, cell_of_row _ _ 2 _ _ _ hb, cell_of_row _ _ 3 _ _ _ hb, cell_of_row _ _ 4 _ _ _ hb, cell_of_row _ _ 5 _ _ _ hb, cell_of_row _ _ 6 _ _ _ hb, cell_of_row _ _ 8 _ _ _ hb⟩
theorem Rt.btB {w : World} {R : Nat} {x : X} {o : Value} {ts : List T} (h : Rt w R x o ts) : ∃ cs fr, w.heap[x.bt]? = some (Obj.cells cs 100 fr) := by
  obtain ⟨⟨v, hb, off, c, cs, fr, _, _, h3, _⟩, _⟩ := h
  exact ⟨cs, fr, h3⟩
theorem Rt.free {w : World} {R : Nat} {x : X} {o : Value} {ts : List T} (h : Rt w R x o ts) (j : Nat) : w.frozen? ⟨R, j, none⟩ = false := by
  obtain ⟨⟨v, hb, _⟩, _⟩ := h
  unfold rbO at hb
  simp [World.frozen?, hb]
theorem cNewName (w0 : World) (R : Nat) (L : Ly) (B N : Nat) (d : Dc) (o : Value) (ts : List T) (w : World) (hD : Rdr w0 w R L B N d) (hR : Rt w R (xOf L d) o ts) :
    Calls Tryz.prog 105 #[.pointer (some ⟨R, 0, none⟩)] w (PT R (xOf L d) o w (fun (y : Nm) => .tuple #[.string ⟨y.toArray⟩, .nilIface]) (fun e => .tuple #[.string ⟨#[]⟩, e]) (pNew d ts)) := by
  have c1 := cName R (xOf L d) o ts w hR
  have eG := erG
  have eN := erN
  have hTx := hR.fine.hd
  unfold pNew
  cases hP : pNam ts with
  | no c t =>
    rw [hP] at c1
    go_enter Tryz.func105, Tryz.ntmps105
    go_wp2_with (first
      | (go_at_call 128; refine c1.mono ?_; rintro e w1 ⟨rfl, ⟨tn1, hn1⟩, hk1⟩; unfold tkV))
    go_ret2
    exact ⟨rfl, ⟨_, hn1.below (bnew _ _)⟩, hk1.alloc _⟩
  | ok t ts' =>
    obtain ⟨rfl, rfl⟩ := pNam_ok hP
    rw [hP] at c1
    simp only
    generalize hd ts = t at *
    clear hP
    have c2 := fun W (h : Rdr w0 W R L B N d) (h' : Rt W R (xOf L d) o (tl ts)) => cTaken R B L.mq L.mb L.md N d t.text (by omega) W h.hB h.tb h'.cells.1 h'.cells.2.2.2.1 h'.cells.2.2.2.2.2.2.1 h.mq.rm h.mb.rm h.md
    have c3 := fun W => cRefuse 83 t W
    obtain ⟨kind, text, num, o', line, col⟩ := t
    unfold tkV at c1 c3
    simp only at c1 c2 c3 ⊢
    have hlt := hR.lt
    cases hT : taken d text with
    | true =>
      rw [hT] at c2
      simp only [if_true]
      go_enter Tryz.func105, Tryz.ntmps105
      go_wp2_with (first
        | (go_at_call 128; refine c1.mono ?_; rintro e w1 ⟨rfl, hr1, hk1⟩))
      have hD1 := hD.turn hR hk1
      have hW : Below w1.heap.size w1 (w1.alloc (.cells #[.int .i64 (kind : Int), .string ⟨text.toArray⟩, .int .i64 (num : Int), .int .i64 (o' : Int), .int .i64 (line : Int), .int .i64 (col : Int)] 100)) := bnew _ _
      have hA := heap_alloc_new w1 (.cells #[.int .i64 (kind : Int), .string ⟨text.toArray⟩, .int .i64 (num : Int), .int .i64 (o' : Int), .int .i64 (line : Int), .int .i64 (col : Int)] 100)
      generalize hWW : (w1.alloc (.cells #[.int .i64 (kind : Int), .string ⟨text.toArray⟩, .int .i64 (num : Int), .int .i64 (o' : Int), .int .i64 (line : Int), .int .i64 (col : Int)] 100)) = W at *
      have hlW : w1.heap.size < W.heap.size := (Array.getElem?_eq_some_iff.1 hA).1
      have hlR : R < W.heap.size := by have := hr1.lt; omega
      clear hWW
      have HD2 := hide (c2 W.drew (hD1.below hW.drew) (hr1.below hW.drew))
      have hA1 : W.cell? ⟨w1.heap.size, 1, none⟩ = some (.string ⟨text.toArray⟩) := cell_of_row _ _ 1 _ _ _ hA
      have HB1 : Hid (∀ W', Below W.drew.heap.size W.drew W' -> W'.cell? ⟨w1.heap.size, 1, none⟩ = some (.string ⟨text.toArray⟩)) := hide (fun W' h => (h.cell (p := ⟨w1.heap.size, 1, none⟩) hlW).trans hA1)
      go_region_held3 (fun V => V.cell? ⟨w1.heap.size, 1, none⟩ = some (.string ⟨text.toArray⟩)) (first | exact hA1 | exact HB1.out _ (by assumption))
        (first | (go_at_call 129; refine HD2.out.mono ?_; rintro e w2 ⟨rfl, hb2⟩))
      have g : w2.heap[w1.heap.size]? = _ := (hb2.block w1.heap.size hlW).trans hA
      have q0 : w2.cell? ⟨w1.heap.size, 0, none⟩ = some (.int .i64 (kind : Int)) := cell_of_row _ _ 0 _ _ _ g
      have q1 : w2.cell? ⟨w1.heap.size, 1, none⟩ = some (.string ⟨text.toArray⟩) := cell_of_row _ _ 1 _ _ _ g
      have q2 : w2.cell? ⟨w1.heap.size, 2, none⟩ = some (.int .i64 (num : Int)) := cell_of_row _ _ 2 _ _ _ g
      have q3 : w2.cell? ⟨w1.heap.size, 3, none⟩ = some (.int .i64 (o' : Int)) := cell_of_row _ _ 3 _ _ _ g
      have q4 : w2.cell? ⟨w1.heap.size, 4, none⟩ = some (.int .i64 (line : Int)) := cell_of_row _ _ 4 _ _ _ g
      have q5 : w2.cell? ⟨w1.heap.size, 5, none⟩ = some (.int .i64 (col : Int)) := cell_of_row _ _ 5 _ _ _ g
      go_wp2_with (first | (go_at_call 87; refine (c3 _).mono ?_; rintro e w3 ⟨rfl, hb3⟩))
      go_ret2
      exact ⟨rfl, ⟨_, (hr1.below (hW.trans (Below.mono ⟨hb2.os, hb2.tape, hb2.output, hb2.size, hb2.block⟩ (Nat.le_of_lt hlW)))).below hb3⟩, ((hk1.then_below hW).trans (Kb.of_below hb2).undrew).then_below hb3⟩
    | false =>
      rw [hT] at c2
      simp only [Bool.false_eq_true, if_false]
      go_enter Tryz.func105, Tryz.ntmps105
      go_wp2_with (first
        | (go_at_call 128; refine c1.mono ?_; rintro e w1 ⟨rfl, hr1, hk1⟩))
      have hD1 := hD.turn hR hk1
      have hW : Below w1.heap.size w1 (w1.alloc (.cells #[.int .i64 (kind : Int), .string ⟨text.toArray⟩, .int .i64 (num : Int), .int .i64 (o' : Int), .int .i64 (line : Int), .int .i64 (col : Int)] 100)) := bnew _ _
      have hA := heap_alloc_new w1 (.cells #[.int .i64 (kind : Int), .string ⟨text.toArray⟩, .int .i64 (num : Int), .int .i64 (o' : Int), .int .i64 (line : Int), .int .i64 (col : Int)] 100)
      generalize hWW : (w1.alloc (.cells #[.int .i64 (kind : Int), .string ⟨text.toArray⟩, .int .i64 (num : Int), .int .i64 (o' : Int), .int .i64 (line : Int), .int .i64 (col : Int)] 100)) = W at *
      have hlW : w1.heap.size < W.heap.size := (Array.getElem?_eq_some_iff.1 hA).1
      have hlR : R < W.heap.size := by have := hr1.lt; omega
      clear hWW
      have HD2 := hide (c2 W.drew (hD1.below hW.drew) (hr1.below hW.drew))
      have hA1 : W.cell? ⟨w1.heap.size, 1, none⟩ = some (.string ⟨text.toArray⟩) := cell_of_row _ _ 1 _ _ _ hA
      have HB1 : Hid (∀ W', Below W.drew.heap.size W.drew W' -> W'.cell? ⟨w1.heap.size, 1, none⟩ = some (.string ⟨text.toArray⟩)) := hide (fun W' h => (h.cell (p := ⟨w1.heap.size, 1, none⟩) hlW).trans hA1)
      go_region_held3 (fun V => V.cell? ⟨w1.heap.size, 1, none⟩ = some (.string ⟨text.toArray⟩)) (first | exact hA1 | exact HB1.out _ (by assumption))
        (first | (go_at_call 129; refine HD2.out.mono ?_; rintro e w2 ⟨rfl, hb2⟩))
      go_wp2_with fail
      go_ret2
      exact ⟨rfl, hr1.below (hW.trans (Below.mono ⟨hb2.os, hb2.tape, hb2.output, hb2.size, hb2.block⟩ (Nat.le_of_lt hlW))), (hk1.then_below hW).trans (Kb.of_below hb2).undrew⟩
end Go.Proofs.YtnghfdnlcnocjaaGreatDoor.Cir
