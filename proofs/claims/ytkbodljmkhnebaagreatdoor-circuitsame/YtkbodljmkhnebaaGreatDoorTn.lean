/- Args. -/
import Derived.Test.YtkbodljmkhnebaaGreatDoorTm
namespace Go.Proofs.YtkbodljmkhnebaaGreatDoor.Cir
open Go.RowKit Go.Shelf Go.Proofs.YtkbodljmkhnebaaGreatDoor.Oct Go.Proofs.YtkbodljmkhnebaaGreatDoor.Tok Go.Proofs.YtkbodljmkhnebaaGreatDoor.Gt

def agC (a : Ag) : List Value := [.int .i64 (a.fr : Int), .int .i64 (a.sz : Int), .bool a.whole]
theorem infoA : (Tryz.prog.info? 230).map (fun i => (i.zero, i.size, i.bytes)) = some (some (.agg #[.int .i64 0, .int .i64 0, .bool false]), 3, 24) := by kernel_rfl
/-- What lies in memory while args are read: W is the world at the beginning. -/
structure JA (w0 W : World) (R : Nat) (L : Ly) (B N : Nat) (d : Dc) (o : Value) (br bl : Nat) (acc : List Ag) (ts : List T) (w : World) : Prop where
  rt : Rt w R (xOf L d) o ts
  rd : Rdr w0 w R L B N d
  kb : Kb [R] W w
  box : w.heap[br]? = some (.cells #[.pointer (some ⟨R, 0, none⟩)] 142 (0, 0))
  row : ∃ ao c, w.heap[bl]? = some (.cells #[.slice ao acc.length c] 237 (0, 0)) ∧ w.ownsRow W.heap.size 230 3 (.slice ao acc.length c) acc.length (acc.flatMap agC)
  len : acc.length + ts.length ≤ 4398046511104 + 1
theorem own_kept {w w' : World} {B e size n : Nat} {ao : Option Addr} {m c : Nat} {xs : List Value} {R : Nat} (h : w.ownsRow B e size (.slice ao m c) n xs) (hk : Kb [R] w w') (hR : R < B) : w'.ownsRow B e size (.slice ao m c) n xs :=
  own_of_block h fun k hk' => hk.block k (own_lt h k hk').2 (by have := (own_lt h k hk').1; simp; omega)
theorem pMks_len : ∀ {ms : List Nm} {ts : List T} {u : Unit} {ts' : List T}, pMks ms ts = .ok u ts' → ts'.length ≤ ts.length
  | [], ts, u, ts', h => by simp only [pMks, Res.ok.injEq] at h; rw [h.2]; exact Nat.le_refl _
  | m :: r, ts, u, ts', h => by
    rw [pMks] at h
    split at h
    · exact Nat.le_trans (pMks_len h) (tl_length _)
    · cases h
theorem pNam_len {ts : List T} {t : T} {ts' : List T} (h : pNam ts = .ok t ts') : ts'.length ≤ ts.length := by
  rw [(pNam_ok h).2]
  exact tl_length _
theorem pNum_len {lo hi : Int} {ts : List T} {n : Nat} {ts' : List T} (h : pNum lo hi ts = .ok n ts') : ts'.length ≤ ts.length := by
  unfold pNum at h
  split at h
  · cases h
  · split at h
    · cases h
    · simp only [Res.ok.injEq] at h
      rw [← h.2]
      exact tl_length _
theorem pReg_len {b : Bk} {ts : List T} {r : Rg} {ts' : List T} (h : pReg b ts = .ok r ts') : ts'.length ≤ ts.length := by
  unfold pReg at h
  split at h
  · cases h
  · rename_i h1
    split at h
    · cases h
    · simp only [Res.ok.injEq] at h
      rw [← h.2]
      exact pNam_len h1
theorem pIdx_len {r : Rg} {ts : List T} {n : Nat} {ts' : List T} (h : pIdx r ts = .ok n ts') : ts'.length ≤ ts.length := by
  unfold pIdx at h
  split at h
  · cases h
  · rename_i h1
    split at h
    · cases h
    · rename_i h2
      split at h
      · cases h
      · rename_i h3
        simp only [Res.ok.injEq] at h
        rw [← h.2]
        exact Nat.le_trans (pMks_len h3) (Nat.le_trans (pNum_len h2) (pMks_len h1))
theorem pArg_len {b : Bk} {ts : List T} {a : Ag} {ts' : List T} (h : pArg b ts = .ok a ts') : ts'.length ≤ ts.length := by
  unfold pArg at h
  split at h
  · cases h
  · rename_i h1
    split at h
    · split at h
      · cases h
      · rename_i h2
        simp only [Res.ok.injEq] at h
        rw [← h.2]
        exact Nat.le_trans (pIdx_len h2) (pReg_len h1)
    · simp only [Res.ok.injEq] at h
      rw [← h.2]
      exact pReg_len h1
theorem pNam_lt {ts : List T} {t : T} {ts' : List T} (h : pNam ts = .ok t ts') : ts'.length < ts.length := by
  unfold pNam at h
  split at h
  · rename_i hn
    simp only [Res.ok.injEq] at h
    rw [← h.2]
    cases ts with
    | nil => simp [isN, hd, t0] at hn
    | cons a r =>
      rw [tl_cons, if_neg]
      · simp
      · intro e
        simp [isN, hd, e] at hn
  · cases h
theorem pReg_lt {b : Bk} {ts : List T} {r : Rg} {ts' : List T} (h : pReg b ts = .ok r ts') : ts'.length < ts.length := by
  unfold pReg at h
  split at h
  · cases h
  · rename_i h1
    split at h
    · cases h
    · simp only [Res.ok.injEq] at h
      rw [← h.2]
      exact pNam_lt h1
theorem pArg_lt {b : Bk} {ts : List T} {a : Ag} {ts' : List T} (h : pArg b ts = .ok a ts') : ts'.length < ts.length := by
  unfold pArg at h
  split at h
  · cases h
  · rename_i h1
    split at h
    · split at h
      · cases h
      · rename_i h2
        simp only [Res.ok.injEq] at h
        rw [← h.2]
        exact Nat.lt_of_le_of_lt (pIdx_len h2) (pReg_lt h1)
    · simp only [Res.ok.injEq] at h
      rw [← h.2]
      exact pReg_lt h1
theorem own_cells {w : World} {B e size n : Nat} {ao : Option Addr} {m c : Nat} {xs : List Value} (h : w.ownsRow B e size (.slice ao m c) n xs) {k : Nat} (hk : ob ao = some k) : ∃ cs fr, w.heap[k]? = some (Obj.cells cs e fr) := by
  rcases h.2 with h0 | ⟨g, cap, cur, hv, hbg, hg, h1⟩
  · simp only [Value.slice.injEq] at h0
    rw [h0.1.1] at hk
    cases hk
  · simp only [Value.slice.injEq] at hv
    rw [hv.1] at hk
    cases hk
    exact ⟨cur, (0, 0), hg⟩
/-- What is read where an arg is asked for. -/
abbrev SA (R br mq : Nat) (q : Int) (V : World) : Prop := V.cell? ⟨br, 0, none⟩ = some (.pointer (some ⟨R, 0, none⟩)) ∧ V.cell? ⟨R, 0, none⟩ = some (.map (some mq)) ∧ V.cell? ⟨R, 1, none⟩ = some (.int .i64 q) ∧ V.cell? ⟨R, 2, none⟩ = some (.int .i64 64)
theorem SA.alloc {R br mq : Nat} {q : Int} {V : World} (h : SA R br mq q V) (o : Obj) : SA R br mq q (V.alloc o) :=
  ⟨((bnew V o).cell (World.block_lt_of_cell? _ _ h.1)).trans h.1, ((bnew V o).cell (World.block_lt_of_cell? _ _ h.2.1)).trans h.2.1, ((bnew V o).cell (World.block_lt_of_cell? _ _ h.2.2.1)).trans h.2.2.1, ((bnew V o).cell (World.block_lt_of_cell? _ _ h.2.2.2)).trans h.2.2.2⟩
theorem SA.set {R br mq : Nat} {q : Int} {V : World} (h : SA R br mq q V) (g j : Nat) (u : Value) (h1 : br ≠ g) (h2 : R ≠ g) : SA R br mq q (V.setCell ⟨g, j, none⟩ u) :=
  ⟨(cell_far _ _ _ _ h1).trans h.1, (cell_far _ _ _ _ h2).trans h.2.1, (cell_far _ _ _ _ h2).trans h.2.2.1, (cell_far _ _ _ _ h2).trans h.2.2.2⟩
set_option maxRecDepth 100000 in
set_option maxHeartbeats 600000 in
theorem cArgs1 (w0 W : World) (R : Nat) (L : Ly) (B N : Nat) (d : Dc) (o : Value) (br bl : Nat) (hRW : R < W.heap.size) (h1 : W.heap.size ≤ br) (h2 : W.heap.size ≤ bl) (h3 : br ≠ bl) (acc : List Ag) (ts : List T) (w : World) (hJ : JA w0 W R L B N d o br bl acc ts w) :
    Calls Tryz.prog 207 #[.pointer (some ⟨br, 0, none⟩), .pointer (some ⟨bl, 0, none⟩)] w (P11 (JA w0 W R L B N d o br bl) (fun w' => Kb [R] W w') acc (pArg d.q ts)) := by
  obtain ⟨ao, c, hbl, hown⟩ := hJ.row
  have hc := hJ.rt.cells
  have hb0 : w.cell? ⟨br, 0, none⟩ = some (.pointer (some ⟨R, 0, none⟩)) := cell_of_row _ _ 0 _ _ _ hJ.box
  have hbl0 : w.cell? ⟨bl, 0, none⟩ = some (.slice ao acc.length c) := cell_of_row _ _ 0 _ _ _ hbl
  have c1 : ∀ V, Below w.heap.size w V → Calls Tryz.prog 176 #[.pointer (some ⟨R, 0, none⟩), .agg #[.map (some L.mq), .int .i64 (d.q.size : Int), .int .i64 64]] V (PX R (xOf L d) o V (fun a => .tuple #[agV a, .nilIface]) bdA (pArg d.q ts)) := fun V hV => by
    have hr := hJ.rd.below hV
    obtain ⟨⟨v, hbb, _⟩, _⟩ := id (hJ.rt.below hV)
    exact cArg R (xOf L d) o ts L.mq _ _ d.q (fun y r hy => by have := (hr.ok.rq y r hy).2; have := hr.ok.q; omega) V (hJ.rt.below hV) (hr.mq.ne hbb) hr.mq.rm
  have hlt := hJ.rt.lt
  have hltb : br < w.heap.size := (Array.getElem?_eq_some_iff.1 hJ.box).1
  have hltl : bl < w.heap.size := (Array.getElem?_eq_some_iff.1 hbl).1
  have hne : br ≠ R := by omega
  have hne2 : bl ≠ R := by omega
  have hneW : w.heap.size ≠ R := by omega
  obtain ⟨r0, r1, r2, _⟩ := hc
  have hS0 : SA R br L.mq (d.q.size : Int) w := ⟨hb0, r0, r1, r2⟩
  have HS0 : Hid (SA R br L.mq (d.q.size : Int) w.drew) := hide hS0
  have HS1 : Hid (∀ o', SA R br L.mq (d.q.size : Int) (w.alloc o').drew) := hide (fun o' => hS0.alloc o')
  have HS2 : Hid (∀ V w1, Below w.heap.size w V → Kb [R] V w1 → (∃ ts', Rt w1 R (xOf L d) o ts') → SA R br L.mq (d.q.size : Int) w1) :=
    hide (fun V w1 hV hk hr => by
      obtain ⟨ts', hr⟩ := hr
      have hc' := hr.cells
      exact ⟨(hk.cell (p := ⟨br, 0, none⟩) (Nat.lt_of_lt_of_le hltb hV.size) (by simpa using hne)).trans ((hV.cell (p := ⟨br, 0, none⟩) hltb).trans hb0), hc'.1, hc'.2.1, hc'.2.2.1⟩)
  have HS3 : Hid (∀ V u0 u1 u2, SA R br L.mq (d.q.size : Int) V → SA R br L.mq (d.q.size : Int) (((V.setCell ⟨w.heap.size, 0, none⟩ u0).setCell ⟨w.heap.size, 1, none⟩ u1).setCell ⟨w.heap.size, 2, none⟩ u2)) :=
    hide (fun V u0 u1 u2 h => (((h.set _ 0 u0 (by omega) (by omega)).set _ 1 u1 (by omega) (by omega)).set _ 2 u2 (by omega) (by omega)))
  have HS4 : Hid (∀ V o', SA R br L.mq (d.q.size : Int) V → SA R br L.mq (d.q.size : Int) (V.alloc o')) := hide (fun V o' h => h.alloc o')
  clear hS0
  have HA0 : Hid (Below w.heap.size w w.drew) := hide (Below.refl _ _).drew
  have HA1 : Hid (∀ o', Below w.heap.size w (w.alloc o').drew) := hide (fun o' => (bnew w o').drew)
  cases hP : pArg d.q ts with
  | no c' t =>
    rw [hP] at c1
    have HC := hide c1
    clear c1
    have hlc := hJ.len
    have hbt : L.bt < w.heap.size := hJ.rt.bt
    have hfl : ts ≠ [] := hJ.rt.fine.ends.ne
    have hfl2 : 0 < ts.length := List.length_pos_iff.2 hfl
    have hwW := hJ.kb.size
    go_enter Tryz.func207, Tryz.ntmps207
    go_wp2_with fail
    go_region_held3 (fun V => V.cell? ⟨br, 0, none⟩ = some (.pointer (some ⟨R, 0, none⟩)) ∧ V.cell? ⟨R, 0, none⟩ = some (.map (some L.mq)) ∧ V.cell? ⟨R, 1, none⟩ = some (.int .i64 (d.q.size : Int)) ∧ V.cell? ⟨R, 2, none⟩ = some (.int .i64 64))
      (first | (with_reducible exact HS0.out) | (with_reducible exact HS1.out _) | (with_reducible assumption) | (with_reducible exact HS3.out _ _ _ _ (by assumption)) | (with_reducible exact HS4.out _ _ (by assumption)))
      (first
        | (go_at_call 176; (with_reducible refine Calls.mono (HC.out _ (HA1.out _)) ?_); rintro e w1 ⟨⟨a', b', c'', rfl⟩, hn1, hk1⟩; have hS := HS2.out _ w1 (HA1.out _) hk1 hn1; have hkw := (HA1.out (.cells #[.int .i64 0, .int .i64 0, .bool false] 230)); have hz : w1.heap[w.heap.size]? = some (.cells #[.int .i64 0, .int .i64 0, .bool false] 230 (0, 0)) := (hk1.undrew.block w.heap.size (by simp) (by simpa using hneW)).trans (heap_alloc_new w _); have z0 : w1.cell? ⟨w.heap.size, 0, none⟩ = some (.int .i64 0) := cell_of_row _ _ 0 _ _ _ hz; have z1 : w1.cell? ⟨w.heap.size, 1, none⟩ = some (.int .i64 0) := cell_of_row _ _ 1 _ _ _ hz; have z2 : w1.cell? ⟨w.heap.size, 2, none⟩ = some (.bool false) := cell_of_row _ _ 2 _ _ _ hz; have zf : ∀ j, w1.frozen? ⟨w.heap.size, j, none⟩ = false := fun j => by simp [World.frozen?, hz])
        | (go_at_call 176; (with_reducible refine Calls.mono (HC.out _ HA0.out) ?_); rintro e w1 ⟨⟨a', b', c'', rfl⟩, hn1, hk1⟩; have hS := HS2.out _ w1 HA0.out hk1 hn1))
    · have hkw1 : Kb [R] w w1 := hk1.undrew
      have hVk : Kb [R] w (w1.alloc (.cells #[.int .i64 a', .int .i64 b', .bool c''] 230)) := hkw1.alloc _
      have hVg : (w1.alloc (.cells #[.int .i64 a', .int .i64 b', .bool c''] 230)).heap[w1.heap.size]? = some (.cells #[.int .i64 a', .int .i64 b', .bool c''] 230 (0, 0)) := heap_alloc_new _ _
      have hgs : w.heap.size ≤ w1.heap.size := hkw1.size
      generalize (w1.alloc (.cells #[.int .i64 a', .int .i64 b', .bool c''] 230)) = V at *
      generalize w1.heap.size = g at *
      have hVs := hVk.size
      have hVb := (hVk.block bl hltl (by simpa using hne2)).trans hbl
      have hVo := own_kept hown hVk (by omega)
      clear hS hk1 hkw1
      have v0 : V.cell? ⟨bl, 0, none⟩ = some (.slice ao acc.length c) := cell_of_row _ _ 0 _ _ _ hVb
      have g0 : V.cell? ⟨g, 0, none⟩ = some (.int .i64 a') := cell_of_row _ _ 0 _ _ _ hVg
      have g1 : V.cell? ⟨g, 1, none⟩ = some (.int .i64 b') := cell_of_row _ _ 1 _ _ _ hVg
      have g2 : V.cell? ⟨g, 2, none⟩ = some (.bool c'') := cell_of_row _ _ 2 _ _ _ hVg
      have hbV : bl < V.heap.size := World.block_lt_of_cell? _ _ v0
      have hsV : W.heap.size ≤ V.heap.size := by omega
      go_wp2_with (at_builtin; refine push rfl _ _ 237 rfl 230 Tryz.underlying237 _ 3 24 infoA rfl (by decide) W.heap.size ao acc.length c _ rfl hVo [.int .i64 a', .int .i64 b', .bool c''] _ rfl rfl (by simp [Value.oneCell']) _ rfl rfl (by omega) (by omega) hsV ?_)
      intro g6 cap w6 hown6 hgrow6 hat6
      have hneb : some bl ≠ ob ao := (own_ne hown hbl (by decide)).symm
      have h6 := (hgrow6.block bl hbV hneb).trans hVb
      have e0 : w6.cell? ⟨bl, 0, none⟩ = some (.slice ao acc.length c) := cell_of_row _ _ 0 _ _ _ h6
      have ef : w6.frozen? ⟨bl, 0, none⟩ = false := by simp [World.frozen?, h6]
      clear v0 g0 g1 g2
      go_wp2_with fail
      go_ret
      refine ⟨rfl, ?_⟩
      exact ((hJ.kb.trans hVk).grown hgrow6 (fun k hk => .inr (own_lt hVo k hk).1)).setCell (.inr h2) _
    · have hkw1 : Kb [R] w w1 := ((Kb.refl _ _).alloc _).trans hk1.undrew
      have hVk : Kb [R] w (((w1.setCell ⟨w.heap.size, 0, none⟩ (.int .i64 a')).setCell ⟨w.heap.size, 1, none⟩ (.int .i64 b')).setCell ⟨w.heap.size, 2, none⟩ (.bool c'')) := ((hkw1.setCell (.inr (Nat.le_refl _)) _).setCell (.inr (Nat.le_refl _)) _).setCell (.inr (Nat.le_refl _)) _
      have hVg : (((w1.setCell ⟨w.heap.size, 0, none⟩ (.int .i64 a')).setCell ⟨w.heap.size, 1, none⟩ (.int .i64 b')).setCell ⟨w.heap.size, 2, none⟩ (.bool c'')).heap[w.heap.size]? = some (.cells #[.int .i64 a', .int .i64 b', .bool c''] 230 (0, 0)) := by
        rw [setCell_eq_setRow w1 _ 0 _ _ _ _ hz, setCell_eq_setRow _ _ 1 _ _ _ _ (setRow_heap _ _ _ _ _ _ hz), setRow_setRow, setCell_eq_setRow _ _ 2 _ _ _ _ (setRow_heap _ _ _ _ _ _ hz), setRow_setRow]
        exact setRow_heap _ _ _ _ _ _ hz
      have hgs : w.heap.size ≤ w.heap.size := Nat.le_refl _
      generalize (((w1.setCell ⟨w.heap.size, 0, none⟩ (.int .i64 a')).setCell ⟨w.heap.size, 1, none⟩ (.int .i64 b')).setCell ⟨w.heap.size, 2, none⟩ (.bool c'')) = V at *
      generalize hgg : w.heap.size = g at hVg hgs ⊢
      have Hgg := hide hgg
      clear hgg
      have hVs := hVk.size
      have hVb := (hVk.block bl hltl (by simpa using hne2)).trans hbl
      have hVo := own_kept hown hVk (by omega)
      clear z0 z1 z2 zf hz hS hk1 hkw1
      have v0 : V.cell? ⟨bl, 0, none⟩ = some (.slice ao acc.length c) := cell_of_row _ _ 0 _ _ _ hVb
      have g0 : V.cell? ⟨g, 0, none⟩ = some (.int .i64 a') := cell_of_row _ _ 0 _ _ _ hVg
      have g1 : V.cell? ⟨g, 1, none⟩ = some (.int .i64 b') := cell_of_row _ _ 1 _ _ _ hVg
      have g2 : V.cell? ⟨g, 2, none⟩ = some (.bool c'') := cell_of_row _ _ 2 _ _ _ hVg
      have hbV : bl < V.heap.size := World.block_lt_of_cell? _ _ v0
      have hsV : W.heap.size ≤ V.heap.size := by omega
      go_wp2_with (at_builtin; refine push rfl _ _ 237 rfl 230 Tryz.underlying237 _ 3 24 infoA rfl (by decide) W.heap.size ao acc.length c _ rfl hVo [.int .i64 a', .int .i64 b', .bool c''] _ rfl rfl (by simp [Value.oneCell']) _ rfl rfl (by omega) (by omega) hsV ?_)
      intro g6 cap w6 hown6 hgrow6 hat6
      have hneb : some bl ≠ ob ao := (own_ne hown hbl (by decide)).symm
      have h6 := (hgrow6.block bl hbV hneb).trans hVb
      have e0 : w6.cell? ⟨bl, 0, none⟩ = some (.slice ao acc.length c) := cell_of_row _ _ 0 _ _ _ h6
      have ef : w6.frozen? ⟨bl, 0, none⟩ = false := by simp [World.frozen?, h6]
      clear v0 g0 g1 g2
      go_wp2_with fail
      go_ret
      refine ⟨rfl, ?_⟩
      exact ((hJ.kb.trans hVk).grown hgrow6 (fun k hk => .inr (own_lt hVo k hk).1)).setCell (.inr h2) _
  | ok a ts1 =>
    have hlen1 : ts1.length < ts.length := pArg_lt hP
    rw [hP] at c1
    unfold agV at c1
    have HC := hide c1
    clear c1
    have hlc := hJ.len
    have hbt : L.bt < w.heap.size := hJ.rt.bt
    have hfl : ts ≠ [] := hJ.rt.fine.ends.ne
    have hfl2 : 0 < ts.length := List.length_pos_iff.2 hfl
    have hwW := hJ.kb.size
    go_enter Tryz.func207, Tryz.ntmps207
    go_wp2_with fail
    go_region_held3 (fun V => V.cell? ⟨br, 0, none⟩ = some (.pointer (some ⟨R, 0, none⟩)) ∧ V.cell? ⟨R, 0, none⟩ = some (.map (some L.mq)) ∧ V.cell? ⟨R, 1, none⟩ = some (.int .i64 (d.q.size : Int)) ∧ V.cell? ⟨R, 2, none⟩ = some (.int .i64 64))
      (first | (with_reducible exact HS0.out) | (with_reducible exact HS1.out _) | (with_reducible assumption) | (with_reducible exact HS3.out _ _ _ _ (by assumption)) | (with_reducible exact HS4.out _ _ (by assumption)))
      (first
        | (go_at_call 176; (with_reducible refine Calls.mono (HC.out _ (HA1.out _)) ?_); rintro e w1 ⟨rfl, hr1, hk1⟩; have hS := HS2.out _ w1 (HA1.out _) hk1 ⟨_, hr1⟩; have hkw := (HA1.out (.cells #[.int .i64 0, .int .i64 0, .bool false] 230)); have hz : w1.heap[w.heap.size]? = some (.cells #[.int .i64 0, .int .i64 0, .bool false] 230 (0, 0)) := (hk1.undrew.block w.heap.size (by simp) (by simpa using hneW)).trans (heap_alloc_new w _); have z0 : w1.cell? ⟨w.heap.size, 0, none⟩ = some (.int .i64 0) := cell_of_row _ _ 0 _ _ _ hz; have z1 : w1.cell? ⟨w.heap.size, 1, none⟩ = some (.int .i64 0) := cell_of_row _ _ 1 _ _ _ hz; have z2 : w1.cell? ⟨w.heap.size, 2, none⟩ = some (.bool false) := cell_of_row _ _ 2 _ _ _ hz; have zf : ∀ j, w1.frozen? ⟨w.heap.size, j, none⟩ = false := fun j => by simp [World.frozen?, hz])
        | (go_at_call 176; (with_reducible refine Calls.mono (HC.out _ HA0.out) ?_); rintro e w1 ⟨rfl, hr1, hk1⟩; have hS := HS2.out _ w1 HA0.out hk1 ⟨_, hr1⟩))
    · have hkw1 : Kb [R] w w1 := hk1.undrew
      have hVk : Kb [R] w (w1.alloc (.cells #[.int .i64 (a.fr : Int), .int .i64 (a.sz : Int), .bool a.whole] 230)) := hkw1.alloc _
      have hVg : (w1.alloc (.cells #[.int .i64 (a.fr : Int), .int .i64 (a.sz : Int), .bool a.whole] 230)).heap[w1.heap.size]? = some (.cells #[.int .i64 (a.fr : Int), .int .i64 (a.sz : Int), .bool a.whole] 230 (0, 0)) := heap_alloc_new _ _
      have hVr := hr1.below (bnew w1 (.cells #[.int .i64 (a.fr : Int), .int .i64 (a.sz : Int), .bool a.whole] 230))
      have hgs : w.heap.size ≤ w1.heap.size := hkw1.size
      generalize (w1.alloc (.cells #[.int .i64 (a.fr : Int), .int .i64 (a.sz : Int), .bool a.whole] 230)) = V at *
      generalize w1.heap.size = g at *
      have hVs := hVk.size
      have hVb := (hVk.block bl hltl (by simpa using hne2)).trans hbl
      have hVo := own_kept hown hVk (by omega)
      clear hS hk1 hkw1
      have v0 : V.cell? ⟨bl, 0, none⟩ = some (.slice ao acc.length c) := cell_of_row _ _ 0 _ _ _ hVb
      have g0 : V.cell? ⟨g, 0, none⟩ = some (.int .i64 (a.fr : Int)) := cell_of_row _ _ 0 _ _ _ hVg
      have g1 : V.cell? ⟨g, 1, none⟩ = some (.int .i64 (a.sz : Int)) := cell_of_row _ _ 1 _ _ _ hVg
      have g2 : V.cell? ⟨g, 2, none⟩ = some (.bool a.whole) := cell_of_row _ _ 2 _ _ _ hVg
      have hbV : bl < V.heap.size := World.block_lt_of_cell? _ _ v0
      have hsV : W.heap.size ≤ V.heap.size := by omega
      go_wp2_with (at_builtin; refine push rfl _ _ 237 rfl 230 Tryz.underlying237 _ 3 24 infoA rfl (by decide) W.heap.size ao acc.length c _ rfl hVo [.int .i64 (a.fr : Int), .int .i64 (a.sz : Int), .bool a.whole] _ rfl rfl (by simp [Value.oneCell']) _ rfl rfl (by omega) (by omega) hsV ?_)
      intro g6 cap w6 hown6 hgrow6 hat6
      have hneb : some bl ≠ ob ao := (own_ne hown hbl (by decide)).symm
      have h6 := (hgrow6.block bl hbV hneb).trans hVb
      have e0 : w6.cell? ⟨bl, 0, none⟩ = some (.slice ao acc.length c) := cell_of_row _ _ 0 _ _ _ h6
      have ef : w6.frozen? ⟨bl, 0, none⟩ = false := by simp [World.frozen?, h6]
      clear v0 g0 g1 g2
      go_wp2_with fail
      go_ret
      have hne6 : g6 ≠ bl := fun e => by
        have := own_ne hown6 h6 (by decide)
        exact this (by rw [e]; rfl)
      have hR6 : some R ≠ ob ao := fun e => by have := (own_lt hVo R e.symm).1; omega
      obtain ⟨tcs, tfr, htb⟩ := hVr.btB
      have hB6 : some L.bt ≠ ob ao := (own_ne hVo htb (by decide)).symm
      have hBb : L.bt ≠ bl := fun e => by
        rw [show (xOf L d).bt = bl from e, hVb] at htb
        simp at htb
      have hRt : Rt (w6.setCell ⟨bl, 0, none⟩ (.slice (some ⟨g6, 0, none⟩) (acc.length + 1) cap)) R (xOf L d) o ts1 :=
        hVr.kept ((Below.heap_setCell _ _ _ _ (by simp; omega)).trans (hgrow6.block R hVr.lt hR6)) ((Below.heap_setCell _ _ _ _ hBb).trans (hgrow6.block L.bt hVr.bt hB6))
      refine ⟨rfl, hRt, ?_, ((hJ.kb.trans hVk).grown hgrow6 (fun k hk => .inr (own_lt hVo k hk).1)).setCell (.inr h2) _, ?_, ⟨some ⟨g6, 0, none⟩, cap, ?_, ?_⟩, ?_⟩
      · refine hJ.rd.more (M := bl :: (ob ao).toList) hJ.rt ((hVk.mono (by simp)).grown hgrow6 (fun k hk => .inl (by simp [hk])) |>.setCell (.inl (by simp)) _) ?_
        intro m hm
        have h0R := hJ.rd.R0
        rcases List.mem_cons.1 hm with e | e
        · subst e
          exact ⟨by omega, _, _, _, hbl, fun e => absurd e (by decide), fun e => absurd e (by decide)⟩
        · have hk : ob ao = some m := by simpa using e
          obtain ⟨cs, fr, hg⟩ := own_cells hown hk
          exact ⟨by have := (own_lt hown m hk).1; omega, cs, _, fr, hg, fun e => absurd e (by decide), fun e => absurd e (by decide)⟩
      · refine (Below.heap_setCell _ _ _ _ h3).trans ((hgrow6.block br (by omega) (own_ne hown hJ.box (by decide)).symm).trans ((hVk.block br hltb (by simpa using hne)).trans hJ.box))
      · rw [List.length_append, setCell_eq_setRow _ _ 0 _ _ _ _ h6]
        exact setRow_heap _ _ _ _ _ _ h6
      · rw [List.length_append, List.flatMap_append]
        exact own_of_block (by simpa [agC] using hown6) (fun k hk => Below.heap_setCell _ _ _ _ (by simp [ob] at hk; subst hk; exact hne6))
      · rw [List.length_append]; simp; omega
    · have hkw1 : Kb [R] w w1 := ((Kb.refl _ _).alloc _).trans hk1.undrew
      have hVk : Kb [R] w (((w1.setCell ⟨w.heap.size, 0, none⟩ (.int .i64 (a.fr : Int))).setCell ⟨w.heap.size, 1, none⟩ (.int .i64 (a.sz : Int))).setCell ⟨w.heap.size, 2, none⟩ (.bool a.whole)) := ((hkw1.setCell (.inr (Nat.le_refl _)) _).setCell (.inr (Nat.le_refl _)) _).setCell (.inr (Nat.le_refl _)) _
      have hVg : (((w1.setCell ⟨w.heap.size, 0, none⟩ (.int .i64 (a.fr : Int))).setCell ⟨w.heap.size, 1, none⟩ (.int .i64 (a.sz : Int))).setCell ⟨w.heap.size, 2, none⟩ (.bool a.whole)).heap[w.heap.size]? = some (.cells #[.int .i64 (a.fr : Int), .int .i64 (a.sz : Int), .bool a.whole] 230 (0, 0)) := by
        rw [setCell_eq_setRow w1 _ 0 _ _ _ _ hz, setCell_eq_setRow _ _ 1 _ _ _ _ (setRow_heap _ _ _ _ _ _ hz), setRow_setRow, setCell_eq_setRow _ _ 2 _ _ _ _ (setRow_heap _ _ _ _ _ _ hz), setRow_setRow]
        exact setRow_heap _ _ _ _ _ _ hz
      have hVr : Rt (((w1.setCell ⟨w.heap.size, 0, none⟩ (.int .i64 (a.fr : Int))).setCell ⟨w.heap.size, 1, none⟩ (.int .i64 (a.sz : Int))).setCell ⟨w.heap.size, 2, none⟩ (.bool a.whole)) R (xOf L d) o ts1 := hr1.kept ((Below.heap_setCell _ _ _ _ (by simp; omega)).trans ((Below.heap_setCell _ _ _ _ (by simp; omega)).trans (Below.heap_setCell _ _ _ _ (by simp; omega)))) ((Below.heap_setCell _ _ _ _ (fun e => by have e' : L.bt = w.heap.size := e; omega)).trans ((Below.heap_setCell _ _ _ _ (fun e => by have e' : L.bt = w.heap.size := e; omega)).trans (Below.heap_setCell _ _ _ _ (fun e => by have e' : L.bt = w.heap.size := e; omega))))
      have hgs : w.heap.size ≤ w.heap.size := Nat.le_refl _
      generalize (((w1.setCell ⟨w.heap.size, 0, none⟩ (.int .i64 (a.fr : Int))).setCell ⟨w.heap.size, 1, none⟩ (.int .i64 (a.sz : Int))).setCell ⟨w.heap.size, 2, none⟩ (.bool a.whole)) = V at *
      generalize hgg : w.heap.size = g at hVg hgs ⊢
      have Hgg := hide hgg
      clear hgg
      have hVs := hVk.size
      have hVb := (hVk.block bl hltl (by simpa using hne2)).trans hbl
      have hVo := own_kept hown hVk (by omega)
      clear z0 z1 z2 zf hz hS hk1 hkw1
      have v0 : V.cell? ⟨bl, 0, none⟩ = some (.slice ao acc.length c) := cell_of_row _ _ 0 _ _ _ hVb
      have g0 : V.cell? ⟨g, 0, none⟩ = some (.int .i64 (a.fr : Int)) := cell_of_row _ _ 0 _ _ _ hVg
      have g1 : V.cell? ⟨g, 1, none⟩ = some (.int .i64 (a.sz : Int)) := cell_of_row _ _ 1 _ _ _ hVg
      have g2 : V.cell? ⟨g, 2, none⟩ = some (.bool a.whole) := cell_of_row _ _ 2 _ _ _ hVg
      have hbV : bl < V.heap.size := World.block_lt_of_cell? _ _ v0
      have hsV : W.heap.size ≤ V.heap.size := by omega
      go_wp2_with (at_builtin; refine push rfl _ _ 237 rfl 230 Tryz.underlying237 _ 3 24 infoA rfl (by decide) W.heap.size ao acc.length c _ rfl hVo [.int .i64 (a.fr : Int), .int .i64 (a.sz : Int), .bool a.whole] _ rfl rfl (by simp [Value.oneCell']) _ rfl rfl (by omega) (by omega) hsV ?_)
      intro g6 cap w6 hown6 hgrow6 hat6
      have hneb : some bl ≠ ob ao := (own_ne hown hbl (by decide)).symm
      have h6 := (hgrow6.block bl hbV hneb).trans hVb
      have e0 : w6.cell? ⟨bl, 0, none⟩ = some (.slice ao acc.length c) := cell_of_row _ _ 0 _ _ _ h6
      have ef : w6.frozen? ⟨bl, 0, none⟩ = false := by simp [World.frozen?, h6]
      clear v0 g0 g1 g2
      go_wp2_with fail
      go_ret
      have hne6 : g6 ≠ bl := fun e => by
        have := own_ne hown6 h6 (by decide)
        exact this (by rw [e]; rfl)
      have hR6 : some R ≠ ob ao := fun e => by have := (own_lt hVo R e.symm).1; omega
      obtain ⟨tcs, tfr, htb⟩ := hVr.btB
      have hB6 : some L.bt ≠ ob ao := (own_ne hVo htb (by decide)).symm
      have hBb : L.bt ≠ bl := fun e => by
        rw [show (xOf L d).bt = bl from e, hVb] at htb
        simp at htb
      have hRt : Rt (w6.setCell ⟨bl, 0, none⟩ (.slice (some ⟨g6, 0, none⟩) (acc.length + 1) cap)) R (xOf L d) o ts1 :=
        hVr.kept ((Below.heap_setCell _ _ _ _ (by simp; omega)).trans (hgrow6.block R hVr.lt hR6)) ((Below.heap_setCell _ _ _ _ hBb).trans (hgrow6.block L.bt hVr.bt hB6))
      refine ⟨rfl, hRt, ?_, ((hJ.kb.trans hVk).grown hgrow6 (fun k hk => .inr (own_lt hVo k hk).1)).setCell (.inr h2) _, ?_, ⟨some ⟨g6, 0, none⟩, cap, ?_, ?_⟩, ?_⟩
      · refine hJ.rd.more (M := bl :: (ob ao).toList) hJ.rt ((hVk.mono (by simp)).grown hgrow6 (fun k hk => .inl (by simp [hk])) |>.setCell (.inl (by simp)) _) ?_
        intro m hm
        have h0R := hJ.rd.R0
        rcases List.mem_cons.1 hm with e | e
        · subst e
          exact ⟨by omega, _, _, _, hbl, fun e => absurd e (by decide), fun e => absurd e (by decide)⟩
        · have hk : ob ao = some m := by simpa using e
          obtain ⟨cs, fr, hg⟩ := own_cells hown hk
          exact ⟨by have := (own_lt hown m hk).1; omega, cs, _, fr, hg, fun e => absurd e (by decide), fun e => absurd e (by decide)⟩
      · refine (Below.heap_setCell _ _ _ _ h3).trans ((hgrow6.block br (by omega) (own_ne hown hJ.box (by decide)).symm).trans ((hVk.block br hltb (by simpa using hne)).trans hJ.box))
      · rw [List.length_append, setCell_eq_setRow _ _ 0 _ _ _ _ h6]
        exact setRow_heap _ _ _ _ _ _ h6
      · rw [List.length_append, List.flatMap_append]
        exact own_of_block (by simpa [agC] using hown6) (fun k hk => Below.heap_setCell _ _ _ _ (by simp [ob] at hk; subst hk; exact hne6))
      · rw [List.length_append]; simp; omega
end Go.Proofs.YtkbodljmkhnebaaGreatDoor.Cir
