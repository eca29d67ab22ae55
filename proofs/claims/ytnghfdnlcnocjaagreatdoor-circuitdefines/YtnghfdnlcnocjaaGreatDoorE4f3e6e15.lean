import Derived.Test.YtnghfdnlcnocjaaGreatDoorEf627d219
set_option maxRecDepth 100000
set_option maxHeartbeats 600000
namespace Go.Proofs.YtnghfdnlcnocjaaGreatDoor.Cir
open Go.RowKit Go.Shelf Go.Proofs.YtnghfdnlcnocjaaGreatDoor.Oct Go.Proofs.YtnghfdnlcnocjaaGreatDoor.Tok Go.Proofs.YtnghfdnlcnocjaaGreatDoor.Gt
def lenAt (w : World) (R : Nat) : Nat := match w.cell? ⟨R, 7, none⟩ with
  | some (.slice _ n _) => n
  | _ => 0
theorem lenAt_eq {w : World} {R : Nat} {x : X} {o : Value} {ts : List T} (h : Rt w R x o ts) : lenAt w R = ts.length := by
  obtain ⟨⟨v, hb, off, c, cs, fr, rfl, _⟩, _⟩ := h
  unfold lenAt rbO at *
  rw [cell_of_row w R 7 _ _ _ hb]
  rfl
theorem tl_lt {ts : List T} (h : isT 5 [44] (hd ts) = true) : (tl ts).length < ts.length := by
  cases ts with
  | nil => simp [isT, hd, t0] at h
  | cons t r =>
    rw [tl_cons, if_neg]
    . simp
    . intro e
      simp [isT, hd, e] at h
def PR1 {α : Type} (J : List α -> List T -> World -> Prop) (Jx : World -> Prop) (P : Res (List α)) (e : Ending) (w' : World) : Prop := match P with
  | .ok l ts' => e = .returned .nilIface /\ J l ts' w'
  | .no c t => e = .returned (erV c t) /\ Jx w'
def P11 {α : Type} (J : List α -> List T -> World -> Prop) (Jx : World -> Prop) (acc : List α) (P : Res α) (e : Ending) (w' : World) : Prop := match P with
  | .ok a ts' => e = .returned .nilIface /\ J (acc ++ [a]) ts' w'
  | .no c t => e = .returned (erV c t) /\ Jx w'
theorem cRow {α : Type} (R : Nat) (x : X) (o : Value) (f : Nat) (caps : Array Value) (he : ∀ args w, (callFunc f args).run Tryz.prog w = .ok (.enter f args) w) (one : List α -> List T -> Res α) (J : List α -> List T -> World -> Prop) (Jx : World -> Prop)
    (h1 : ∀ acc ts w, J acc ts w -> Calls Tryz.prog f caps w (P11 J Jx acc (one acc ts)))
    (hJ : ∀ acc ts w, J acc ts w -> Rt w R x o ts) (hJt : ∀ acc ts ts' w w', J acc ts w -> ts'.length <= ts.length -> Kb [R] w w' -> Rt w' R x o ts' -> J acc ts' w')
    (hl : ∀ acc ts a ts', one acc ts = .ok a ts' -> ts'.length <= ts.length) (ts : List T) (w : World) (h0 : J [] ts w) :
    Calls Tryz.prog 130 #[.pointer (some ⟨R, 0, none⟩), .func (.func f) #[] caps] w (PR1 J Jx (pRow one (ts.length + 1) [] ts)) := by
  have HS : Hid (pRow one (ts.length + 1) [] ts = pRow one (ts.length + 1) [] ts) := hide rfl
  have eG := erG
  have eN := erN
  generalize hP : pRow one (ts.length + 1) [] ts = P
  have HP := hide hP
  clear hP
  go_enter Tryz.func130, Tryz.ntmps130
  go_wp2_with fail
  go_loopw [4] (fun _ wr => ∃ (n : Nat) (acc : List α) (ts' : List T), ts'.length < n /\ Hid (pRow one n acc ts' = P) /\ J acc ts' wr) (fun _ wr => lenAt wr R)
  case atStart => exact ⟨_, [], ts, by omega, HP, h0⟩
  case round =>
    clear HS HP h0
    obtain ⟨n, acc, ts', hn, HP, hj⟩ := hrel
    obtain ⟨n, rfl⟩ : ∃ n', n = n' + 1 := ⟨n - 1, by omega⟩
    have hR := hJ _ _ _ hj
    have hle := lenAt_eq hR
    have c1 := h1 acc ts' wr hj
    have hP := HP.out
    rw [pRow] at hP
    cases h2 : one acc ts' with
    | no c t =>
      rw [h2] at c1 hP
      have HP2 := hide hP
      clear hP HP
      go_wp2_with fail
      refine c1.mono ?_
      rintro e w1 ⟨rfl, hx⟩
      go_wp2_with fail
      go_ret
      rw [← HP2.out]
      exact ⟨rfl, hx⟩
    | ok a ts1 =>
      rw [h2] at c1 hP
      simp only at hP
      have hl1 := hl _ _ _ _ h2
      have c2 := fun W (h : Rt W R x o ts1) => cStands R x o ts1 [44] W h
      have c3 := fun W (h : Rt W R x o ts1) => cTake R x o ts1 W h
      cases h3 : isT 5 [44] (hd ts1) with
      | false =>
        rw [h3] at c2 hP
        simp only [Bool.false_eq_true, if_false] at hP
        have HP2 := hide hP
        clear hP HP
        go_wp2_with fail
        refine c1.mono ?_
        rintro e w1 ⟨rfl, hj1⟩
        have hr1 := hJ _ _ _ hj1
        go_wp2_with (first | (go_at_call 109; refine (c2 _ hr1).mono ?_; rintro e w2 ⟨rfl, hb2⟩))
        go_ret
        rw [← HP2.out]
        exact ⟨rfl, hJt _ _ _ _ _ hj1 (Nat.le_refl _) (Kb.of_below hb2) (hr1.below hb2)⟩
      | true =>
        rw [h3] at c2 hP
        simp only [if_true] at hP
        have HP2 := hide hP
        have hlt := tl_lt h3
        clear hP HP
        go_wp2_with fail
        refine c1.mono ?_
        rintro e w1 ⟨rfl, hj1⟩
        have hr1 := hJ _ _ _ hj1
        go_wp2_with (first
          | (go_at_call 109; refine (c2 _ hr1).mono ?_; rintro e w2 ⟨rfl, hb2⟩)
          | (go_at_call 85; refine (c3 _ (hr1.below hb2)).mono ?_; rintro e w3 ⟨rfl, hr3, hk3⟩))
        go_roundw
        case rel => exact ⟨n, acc ++ [a], tl ts1, by omega, HP2, hJt _ _ _ _ _ hj1 (tl_length _) ((Kb.of_below hb2).trans hk3) hr3⟩
        case measure => rw [lenAt_eq hr3, hle]; omega
def agC (a : Ag) : List Value := [.int .i64 (a.fr : Int), .int .i64 (a.sz : Int), .bool a.whole]
theorem infoA : (Tryz.prog.info? 184).map (fun i => (i.zero, i.size, i.bytes)) = some (some (.agg #[.int .i64 0, .int .i64 0, .bool false]), 3, 24) := by kernel_rfl
structure JA (w0 W : World) (R : Nat) (L : Ly) (B N : Nat) (d : Dc) (o : Value) (br bl : Nat) (acc : List Ag) (ts : List T) (w : World) : Prop where
  rt : Rt w R (xOf L d) o ts
  rd : Rdr w0 w R L B N d
  kb : Kb [R] W w
  box : w.heap[br]? = some (.cells #[.pointer (some ⟨R, 0, none⟩)] 115 (0, 0))
  row : ∃ ao c, w.heap[bl]? = some (.cells #[.slice ao acc.length c] 191 (0, 0)) /\ w.ownsRow W.heap.size 184 3 (.slice ao acc.length c) acc.length (acc.flatMap agC)
  len : acc.length + ts.length <= 4398046511104 + 1
theorem own_kept {w w' : World} {B e size n : Nat} {ao : Option Addr} {m c : Nat} {xs : List Value} {R : Nat} (h : w.ownsRow B e size (.slice ao m c) n xs) (hk : Kb [R] w w') (hR : R < B) : w'.ownsRow B e size (.slice ao m c) n xs :=
  own_of_block h fun k hk' => hk.block k (own_lt h k hk').2 (by have := (own_lt h k hk').1; simp; omega)
theorem pMks_len : ∀ {ms : List Nm} {ts : List T} {u : Unit} {ts' : List T}, pMks ms ts = .ok u ts' -> ts'.length <= ts.length
  | [], ts, u, ts', h => by simp only [pMks, Res.ok.injEq] at h; rw [h.2]; exact Nat.le_refl _
  | m :: r, ts, u, ts', h => by
    rw [pMks] at h
    split at h
    . exact Nat.le_trans (pMks_len h) (tl_length _)
    . cases h
theorem pNum_len {lo hi : Int} {ts : List T} {n : Nat} {ts' : List T} (h : pNum lo hi ts = .ok n ts') : ts'.length <= ts.length := by
  unfold pNum at h
  split at h
  . cases h
  . split at h
    . cases h
    . simp only [Res.ok.injEq] at h
      rw [← h.2]
      exact tl_length _
theorem pIdx_len {r : Rg} {ts : List T} {n : Nat} {ts' : List T} (h : pIdx r ts = .ok n ts') : ts'.length <= ts.length := by
  unfold pIdx at h
  split at h
  . cases h
  . rename_i h1
    split at h
    . cases h
    . rename_i h2
      split at h
      . cases h
      . rename_i h3
        simp only [Res.ok.injEq] at h
        rw [← h.2]
        exact Nat.le_trans (pMks_len h3) (Nat.le_trans (pNum_len h2) (pMks_len h1))
theorem pNam_lt {ts : List T} {t : T} {ts' : List T} (h : pNam ts = .ok t ts') : ts'.length < ts.length := by
  unfold pNam at h
  split at h
  . rename_i hn
    simp only [Res.ok.injEq] at h
    rw [← h.2]
    cases ts with
    | nil => simp [isN, hd, t0] at hn
    | cons a r =>
      rw [tl_cons, if_neg]
      . simp
      . intro e
        simp [isN, hd, e] at hn
  . cases h
theorem pReg_lt {b : Bk} {ts : List T} {r : Rg} {ts' : List T} (h : pReg b ts = .ok r ts') : ts'.length < ts.length := by
  unfold pReg at h
  split at h
  . cases h
  . rename_i h1
    split at h
    . cases h
    . simp only [Res.ok.injEq] at h
      rw [← h.2]
      exact pNam_lt h1
theorem pArg_lt {b : Bk} {ts : List T} {a : Ag} {ts' : List T} (h : pArg b ts = .ok a ts') : ts'.length < ts.length := by
  unfold pArg at h
  split at h
  . cases h
  . rename_i h1
    split at h
    . split at h
      . cases h
      . rename_i h2
        simp only [Res.ok.injEq] at h
        rw [← h.2]
        exact Nat.lt_of_le_of_lt (pIdx_len h2) (pReg_lt h1)
    . simp only [Res.ok.injEq] at h
      rw [← h.2]
      exact pReg_lt h1
theorem own_cells {w : World} {B e size n : Nat} {ao : Option Addr} {m c : Nat} {xs : List Value} (h : w.ownsRow B e size (.slice ao m c) n xs) {k : Nat} (hk : ob ao = some k) : ∃ cs fr, w.heap[k]? = some (Obj.cells cs e fr) := by
  rcases h.2 with h0 | ⟨g, cap, cur, hv, hbg, hg, h1⟩
  . simp only [Value.slice.injEq] at h0
    rw [h0.1.1] at hk
    cases hk
  . simp only [Value.slice.injEq] at hv
    rw [hv.1] at hk
    cases hk
    exact ⟨cur, (0, 0), hg⟩
abbrev SA (R br mq : Nat) (q : Int) (V : World) : Prop := V.cell? ⟨br, 0, none⟩ = some (.pointer (some ⟨R, 0, none⟩)) /\ V.cell? ⟨R, 0, none⟩ = some (.map (some mq)) /\ V.cell? ⟨R, 1, none⟩ = some (.int .i64 q) /\ V.cell? ⟨R, 2, none⟩ = some (.int .i64 64)
theorem SA.alloc {R br mq : Nat} {q : Int} {V : World} (h : SA R br mq q V) (o : Obj) : SA R br mq q (V.alloc o) :=
  ⟨((bnew V o).cell (World.block_lt_of_cell? _ _ h.1)).trans h.1, ((bnew V o).cell (World.block_lt_of_cell? _ _ h.2.1)).trans h.2.1, ((bnew V o).cell (World.block_lt_of_cell? _ _ h.2.2.1)).trans h.2.2.1, ((bnew V o).cell (World.block_lt_of_cell? _ _ h.2.2.2)).trans h.2.2.2⟩
theorem SA.set {R br mq : Nat} {q : Int} {V : World} (h : SA R br mq q V) (g j : Nat) (u : Value) (h1 : br ≠ g) (h2 : R ≠ g) : SA R br mq q (V.setCell ⟨g, j, none⟩ u) :=
  ⟨(cell_far _ _ _ _ h1).trans h.1, (cell_far _ _ _ _ h2).trans h.2.1, (cell_far _ _ _ _ h2).trans h.2.2.1, (cell_far _ _ _ _ h2).trans h.2.2.2⟩
theorem cArgs1 (w0 W : World) (R : Nat) (L : Ly) (B N : Nat) (d : Dc) (o : Value) (br bl : Nat) (hRW : R < W.heap.size) (h1 : W.heap.size <= br) (h2 : W.heap.size <= bl) (h3 : br ≠ bl) (acc : List Ag) (ts : List T) (w : World) (hJ : JA w0 W R L B N d o br bl acc ts w) :
    Calls Tryz.prog 138 #[.pointer (some ⟨br, 0, none⟩), .pointer (some ⟨bl, 0, none⟩)] w (P11 (JA w0 W R L B N d o br bl) (fun w' => Kb [R] W w') acc (pArg d.q ts)) := by
  obtain ⟨ao, c, hbl, hown⟩ := hJ.row
  have hc := hJ.rt.cells
  have hb0 : w.cell? ⟨br, 0, none⟩ = some (.pointer (some ⟨R, 0, none⟩)) := cell_of_row _ _ 0 _ _ _ hJ.box
  have hbl0 : w.cell? ⟨bl, 0, none⟩ = some (.slice ao acc.length c) := cell_of_row _ _ 0 _ _ _ hbl
  have c1 : ∀ V, Below w.heap.size w V -> Calls Tryz.prog 113 #[.pointer (some ⟨R, 0, none⟩), .agg #[.map (some L.mq), .int .i64 (d.q.size : Int), .int .i64 64]] V (PX R (xOf L d) o V (fun a => .tuple #[agV a, .nilIface]) bdA (pArg d.q ts)) := fun V hV => by
    have hr := hJ.rd.below hV
    obtain ⟨⟨v, hbb, _⟩, _⟩ := id (hJ.rt.below hV)
    exact cArg R (xOf L d) o ts L.mq _ _ d.q (fun y r hy => by have := (hr.ok.rq y r hy).2; have := hr.ok.q; omega) V (hJ.rt.below hV) (hr.mq.ne hbb) hr.mq.rm
  have hlt := hJ.rt.lt
  have hltb : br < w.heap.size := (Array.getElem?_eq_some_iff.1 hJ.box).1
  have hltl : bl < w.heap.size := (Array.getElem?_eq_some_iff.1 hbl).1
  have hne : br ≠ R := by omega
  have hne2 : bl ≠ R := by omega
  have hneW : w.heap.size ≠ R := by omega
  obtain ⟨r0, r1, r2, _⟩ := hc
  have hS0 : SA R br L.mq (d.q.size : Int) w := ⟨hb0, r0, r1, r2⟩
  have HS0 : Hid (SA R br L.mq (d.q.size : Int) w.drew) := hide hS0
  have HS1 : Hid (∀ o', SA R br L.mq (d.q.size : Int) (w.alloc o').drew) := hide (fun o' => hS0.alloc o')
  have HS2 : Hid (∀ V w1, Below w.heap.size w V -> Kb [R] V w1 -> (∃ ts', Rt w1 R (xOf L d) o ts') -> SA R br L.mq (d.q.size : Int) w1) :=
    hide (fun V w1 hV hk hr => by
      obtain ⟨ts', hr⟩ := hr
      have hc' := hr.cells
      exact ⟨(hk.cell (p := ⟨br, 0, none⟩) (Nat.lt_of_lt_of_le hltb hV.size) (by simpa using hne)).trans ((hV.cell (p := ⟨br, 0, none⟩) hltb).trans hb0), hc'.1, hc'.2.1, hc'.2.2.1⟩)
  have HS3 : Hid (∀ V u0 u1 u2, SA R br L.mq (d.q.size : Int) V -> SA R br L.mq (d.q.size : Int) (((V.setCell ⟨w.heap.size, 0, none⟩ u0).setCell ⟨w.heap.size, 1, none⟩ u1).setCell ⟨w.heap.size, 2, none⟩ u2)) :=
    hide (fun V u0 u1 u2 h => (((h.set _ 0 u0 (by omega) (by omega)).set _ 1 u1 (by omega) (by omega)).set _ 2 u2 (by omega) (by omega)))
  have HS4 : Hid (∀ V o', SA R br L.mq (d.q.size : Int) V -> SA R br L.mq (d.q.size : Int) (V.alloc o')) := hide (fun V o' h => h.alloc o')
  clear hS0
  have HA0 : Hid (Below w.heap.size w w.drew) := hide (Below.refl _ _).drew
  have HA1 : Hid (∀ o', Below w.heap.size w (w.alloc o').drew) := hide (fun o' => (bnew w o').drew)
  cases hP : pArg d.q ts with
  | no c' t =>
    rw [hP] at c1
    have HC := hide c1
    clear c1
    have hlc := hJ.len
    have hbt : L.bt < w.heap.size := hJ.rt.bt
    have hfl : ts ≠ [] := hJ.rt.fine.ends.ne
    have hfl2 : 0 < ts.length := List.length_pos_iff.2 hfl
    have hwW := hJ.kb.size
    go_enter Tryz.func138, Tryz.ntmps138
    go_wp2_with fail
    go_region_held3 (fun V => V.cell? ⟨br, 0, none⟩ = some (.pointer (some ⟨R, 0, none⟩)) /\ V.cell? ⟨R, 0, none⟩ = some (.map (some L.mq)) /\ V.cell? ⟨R, 1, none⟩ = some (.int .i64 (d.q.size : Int)) /\ V.cell? ⟨R, 2, none⟩ = some (.int .i64 64))
      (first | (with_reducible exact HS0.out) | (with_reducible exact HS1.out _) | (with_reducible assumption) | (with_reducible exact HS3.out _ _ _ _ (by assumption)) | (with_reducible exact HS4.out _ _ (by assumption)))
      (first
        | (go_at_call 113; (with_reducible refine Calls.mono (HC.out _ (HA1.out _)) ?_); rintro e w1 ⟨⟨a', b', c'', rfl⟩, hn1, hk1⟩; have hS := HS2.out _ w1 (HA1.out _) hk1 hn1; have hkw := (HA1.out (.cells #[.int .i64 0, .int .i64 0, .bool false] 184)); have hz : w1.heap[w.heap.size]? = some (.cells #[.int .i64 0, .int .i64 0, .bool false] 184 (0, 0)) := (hk1.undrew.block w.heap.size (by simp) (by simpa using hneW)).trans (heap_alloc_new w _); have z0 : w1.cell? ⟨w.heap.size, 0, none⟩ = some (.int .i64 0) := cell_of_row _ _ 0 _ _ _ hz; have z1 : w1.cell? ⟨w.heap.size, 1, none⟩ = some (.int .i64 0) := cell_of_row _ _ 1 _ _ _ hz; have z2 : w1.cell? ⟨w.heap.size, 2, none⟩ = some (.bool false) := cell_of_row _ _ 2 _ _ _ hz; have zf : ∀ j, w1.frozen? ⟨w.heap.size, j, none⟩ = false := fun j => by simp [World.frozen?, hz])
        | (go_at_call 113; (with_reducible refine Calls.mono (HC.out _ HA0.out) ?_); rintro e w1 ⟨⟨a', b', c'', rfl⟩, hn1, hk1⟩; have hS := HS2.out _ w1 HA0.out hk1 hn1))
    . have hkw1 : Kb [R] w w1 := hk1.undrew
      have hVk : Kb [R] w (w1.alloc (.cells #[.int .i64 a', .int .i64 b', .bool c''] 184)) := hkw1.alloc _
      have hVg : (w1.alloc (.cells #[.int .i64 a', .int .i64 b', .bool c''] 184)).heap[w1.heap.size]? = some (.cells #[.int .i64 a', .int .i64 b', .bool c''] 184 (0, 0)) := heap_alloc_new _ _
      have hgs : w.heap.size <= w1.heap.size := hkw1.size
      generalize (w1.alloc (.cells #[.int .i64 a', .int .i64 b', .bool c''] 184)) = V at *
      generalize w1.heap.size = g at *
      have hVs := hVk.size
      have hVb := (hVk.block bl hltl (by simpa using hne2)).trans hbl
      have hVo := own_kept hown hVk (by omega)
      clear hS hk1 hkw1
      have v0 : V.cell? ⟨bl, 0, none⟩ = some (.slice ao acc.length c) := cell_of_row _ _ 0 _ _ _ hVb
      have g0 : V.cell? ⟨g, 0, none⟩ = some (.int .i64 a') := cell_of_row _ _ 0 _ _ _ hVg
      have g1 : V.cell? ⟨g, 1, none⟩ = some (.int .i64 b') := cell_of_row _ _ 1 _ _ _ hVg
      have g2 : V.cell? ⟨g, 2, none⟩ = some (.bool c'') := cell_of_row _ _ 2 _ _ _ hVg
      have hbV : bl < V.heap.size := World.block_lt_of_cell? _ _ v0
      have hsV : W.heap.size <= V.heap.size := by omega
      go_wp2_with (at_builtin; refine push rfl _ _ 191 rfl 184 Tryz.underlying191 _ 3 24 infoA rfl (by decide) W.heap.size ao acc.length c _ rfl hVo [.int .i64 a', .int .i64 b', .bool c''] _ rfl rfl (by simp [Value.oneCell']) _ rfl rfl (by omega) (by omega) hsV ?_)
      intro g6 cap w6 hown6 hgrow6 hat6
      have hneb : some bl ≠ ob ao := (own_ne hown hbl (by decide)).symm
      have h6 := (hgrow6.block bl hbV hneb).trans hVb
      have e0 : w6.cell? ⟨bl, 0, none⟩ = some (.slice ao acc.length c) := cell_of_row _ _ 0 _ _ _ h6
      have ef : w6.frozen? ⟨bl, 0, none⟩ = false := by simp [World.frozen?, h6]
      clear v0 g0 g1 g2
      go_wp2_with fail
      go_ret
      refine ⟨rfl, ?_⟩
      exact ((hJ.kb.trans hVk).grown hgrow6 (fun k hk => .inr (own_lt hVo k hk).1)).setCell (.inr h2) _
    . have hkw1 : Kb [R] w w1 := ((Kb.refl _ _).alloc _).trans hk1.undrew
      have hVk : Kb [R] w (((w1.setCell ⟨w.heap.size, 0, none⟩ (.int .i64 a')).setCell ⟨w.heap.size, 1, none⟩ (.int .i64 b')).setCell ⟨w.heap.size, 2, none⟩ (.bool c'')) := ((hkw1.setCell (.inr (Nat.le_refl _)) _).setCell (.inr (Nat.le_refl _)) _).setCell (.inr (Nat.le_refl _)) _
      have hVg : (((w1.setCell ⟨w.heap.size, 0, none⟩ (.int .i64 a')).setCell ⟨w.heap.size, 1, none⟩ (.int .i64 b')).setCell ⟨w.heap.size, 2, none⟩ (.bool c'')).heap[w.heap.size]? = some (.cells #[.int .i64 a', .int .i64 b', .bool c''] 184 (0, 0)) := by
        rw [setCell_eq_setRow w1 _ 0 _ _ _ _ hz, setCell_eq_setRow _ _ 1 _ _ _ _ (setRow_heap _ _ _ _ _ _ hz), setRow_setRow, setCell_eq_setRow _ _ 2 _ _ _ _ (setRow_heap _ _ _ _ _ _ hz), setRow_setRow]
        exact setRow_heap _ _ _ _ _ _ hz
      have hgs : w.heap.size <= w.heap.size := Nat.le_refl _
      generalize (((w1.setCell ⟨w.heap.size, 0, none⟩ (.int .i64 a')).setCell ⟨w.heap.size, 1, none⟩ (.int .i64 b')).setCell ⟨w.heap.size, 2, none⟩ (.bool c'')) = V at *
      generalize hgg : w.heap.size = g at hVg hgs ⊢
      have Hgg := hide hgg
      clear hgg
      have hVs := hVk.size
      have hVb := (hVk.block bl hltl (by simpa using hne2)).trans hbl
      have hVo := own_kept hown hVk (by omega)
      clear z0 z1 z2 zf hz hS hk1 hkw1
      have v0 : V.cell? ⟨bl, 0, none⟩ = some (.slice ao acc.length c) := cell_of_row _ _ 0 _ _ _ hVb
      have g0 : V.cell? ⟨g, 0, none⟩ = some (.int .i64 a') := cell_of_row _ _ 0 _ _ _ hVg
      have g1 : V.cell? ⟨g, 1, none⟩ = some (.int .i64 b') := cell_of_row _ _ 1 _ _ _ hVg
      have g2 : V.cell? ⟨g, 2, none⟩ = some (.bool c'') := cell_of_row _ _ 2 _ _ _ hVg
      have hbV : bl < V.heap.size := World.block_lt_of_cell? _ _ v0
      have hsV : W.heap.size <= V.heap.size := by omega
      go_wp2_with (at_builtin; refine push rfl _ _ 191 rfl 184 Tryz.underlying191 _ 3 24 infoA rfl (by decide) W.heap.size ao acc.length c _ rfl hVo [.int .i64 a', .int .i64 b', .bool c''] _ rfl rfl (by simp [Value.oneCell']) _ rfl rfl (by omega) (by omega) hsV ?_)
      intro g6 cap w6 hown6 hgrow6 hat6
      have hneb : some bl ≠ ob ao := (own_ne hown hbl (by decide)).symm
      have h6 := (hgrow6.block bl hbV hneb).trans hVb
      have e0 : w6.cell? ⟨bl, 0, none⟩ = some (.slice ao acc.length c) := cell_of_row _ _ 0 _ _ _ h6
      have ef : w6.frozen? ⟨bl, 0, none⟩ = false := by simp [World.frozen?, h6]
      clear v0 g0 g1 g2
      go_wp2_with fail
      go_ret
      refine ⟨rfl, ?_⟩
      exact ((hJ.kb.trans hVk).grown hgrow6 (fun k hk => .inr (own_lt hVo k hk).1)).setCell (.inr h2) _
  | ok a ts1 =>
    have hlen1 : ts1.length < ts.length := pArg_lt hP
    rw [hP] at c1
    unfold agV at c1
    have HC := hide c1
    clear c1
    have hlc := hJ.len
    have hbt : L.bt < w.heap.size := hJ.rt.bt
    have hfl : ts ≠ [] := hJ.rt.fine.ends.ne
    have hfl2 : 0 < ts.length := List.length_pos_iff.2 hfl
    have hwW := hJ.kb.size
    go_enter Tryz.func138, Tryz.ntmps138
    go_wp2_with fail
    go_region_held3 (fun V => V.cell? ⟨br, 0, none⟩ = some (.pointer (some ⟨R, 0, none⟩)) /\ V.cell? ⟨R, 0, none⟩ = some (.map (some L.mq)) /\ V.cell? ⟨R, 1, none⟩ = some (.int .i64 (d.q.size : Int)) /\ V.cell? ⟨R, 2, none⟩ = some (.int .i64 64))
      (first | (with_reducible exact HS0.out) | (with_reducible exact HS1.out _) | (with_reducible assumption) | (with_reducible exact HS3.out _ _ _ _ (by assumption)) | (with_reducible exact HS4.out _ _ (by assumption)))
      (first
        | (go_at_call 113; (with_reducible refine Calls.mono (HC.out _ (HA1.out _)) ?_); rintro e w1 ⟨rfl, hr1, hk1⟩; have hS := HS2.out _ w1 (HA1.out _) hk1 ⟨_, hr1⟩; have hkw := (HA1.out (.cells #[.int .i64 0, .int .i64 0, .bool false] 184)); have hz : w1.heap[w.heap.size]? = some (.cells #[.int .i64 0, .int .i64 0, .bool false] 184 (0, 0)) := (hk1.undrew.block w.heap.size (by simp) (by simpa using hneW)).trans (heap_alloc_new w _); have z0 : w1.cell? ⟨w.heap.size, 0, none⟩ = some (.int .i64 0) := cell_of_row _ _ 0 _ _ _ hz; have z1 : w1.cell? ⟨w.heap.size, 1, none⟩ = some (.int .i64 0) := cell_of_row _ _ 1 _ _ _ hz; have z2 : w1.cell? ⟨w.heap.size, 2, none⟩ = some (.bool false) := cell_of_row _ _ 2 _ _ _ hz; have zf : ∀ j, w1.frozen? ⟨w.heap.size, j, none⟩ = false := fun j => by simp [World.frozen?, hz])
        | (go_at_call 113; (with_reducible refine Calls.mono (HC.out _ HA0.out) ?_); rintro e w1 ⟨rfl, hr1, hk1⟩; have hS := HS2.out _ w1 HA0.out hk1 ⟨_, hr1⟩))
    . have hkw1 : Kb [R] w w1 := hk1.undrew
      have hVk : Kb [R] w (w1.alloc (.cells #[.int .i64 (a.fr : Int), .int .i64 (a.sz : Int), .bool a.whole] 184)) := hkw1.alloc _
      have hVg : (w1.alloc (.cells #[.int .i64 (a.fr : Int), .int .i64 (a.sz : Int), .bool a.whole] 184)).heap[w1.heap.size]? = some (.cells #[.int .i64 (a.fr : Int), .int .i64 (a.sz : Int), .bool a.whole] 184 (0, 0)) := heap_alloc_new _ _
      have hVr := hr1.below (bnew w1 (.cells #[.int .i64 (a.fr : Int), .int .i64 (a.sz : Int), .bool a.whole] 184))
      have hgs : w.heap.size <= w1.heap.size := hkw1.size
      generalize (w1.alloc (.cells #[.int .i64 (a.fr : Int), .int .i64 (a.sz : Int), .bool a.whole] 184)) = V at *
      generalize w1.heap.size = g at *
      have hVs := hVk.size
      have hVb := (hVk.block bl hltl (by simpa using hne2)).trans hbl
      have hVo := own_kept hown hVk (by omega)
      clear hS hk1 hkw1
      have v0 : V.cell? ⟨bl, 0, none⟩ = some (.slice ao acc.length c) := cell_of_row _ _ 0 _ _ _ hVb
      have g0 : V.cell? ⟨g, 0, none⟩ = some (.int .i64 (a.fr : Int)) := cell_of_row _ _ 0 _ _ _ hVg
      have g1 : V.cell? ⟨g, 1, none⟩ = some (.int .i64 (a.sz : Int)) := cell_of_row _ _ 1 _ _ _ hVg
      have g2 : V.cell? ⟨g, 2, none⟩ = some (.bool a.whole) := cell_of_row _ _ 2 _ _ _ hVg
      have hbV : bl < V.heap.size := World.block_lt_of_cell? _ _ v0
      have hsV : W.heap.size <= V.heap.size := by omega
      go_wp2_with (at_builtin; refine push rfl _ _ 191 rfl 184 Tryz.underlying191 _ 3 24 infoA rfl (by decide) W.heap.size ao acc.length c _ rfl hVo [.int .i64 (a.fr : Int), .int .i64 (a.sz : Int), .bool a.whole] _ rfl rfl (by simp [Value.oneCell']) _ rfl rfl (by omega) (by omega) hsV ?_)
      intro g6 cap w6 hown6 hgrow6 hat6
      have hneb : some bl ≠ ob ao := (own_ne hown hbl (by decide)).symm
      have h6 := (hgrow6.block bl hbV hneb).trans hVb
      have e0 : w6.cell? ⟨bl, 0, none⟩ = some (.slice ao acc.length c) := cell_of_row _ _ 0 _ _ _ h6
      have ef : w6.frozen? ⟨bl, 0, none⟩ = false := by simp [World.frozen?, h6]
      clear v0 g0 g1 g2
      go_wp2_with fail
      go_ret
      have hne6 : g6 ≠ bl := fun e => by
        have := own_ne hown6 h6 (by decide)
        exact this (by rw [e]; rfl)
      have hR6 : some R ≠ ob ao := fun e => by have := (own_lt hVo R e.symm).1; omega
      obtain ⟨tcs, tfr, htb⟩ := hVr.btB
      have hB6 : some L.bt ≠ ob ao := (own_ne hVo htb (by decide)).symm
      have hBb : L.bt ≠ bl := fun e => by
        rw [show (xOf L d).bt = bl from e, hVb] at htb
        simp at htb
      have hRt : Rt (w6.setCell ⟨bl, 0, none⟩ (.slice (some ⟨g6, 0, none⟩) (acc.length + 1) cap)) R (xOf L d) o ts1 :=
        hVr.kept ((Below.heap_setCell _ _ _ _ (by simp; omega)).trans (hgrow6.block R hVr.lt hR6)) ((Below.heap_setCell _ _ _ _ hBb).trans (hgrow6.block L.bt hVr.bt hB6))
      refine ⟨rfl, hRt, ?_, ((hJ.kb.trans hVk).grown hgrow6 (fun k hk => .inr (own_lt hVo k hk).1)).setCell (.inr h2) _, ?_, ⟨some ⟨g6, 0, none⟩, cap, ?_, ?_⟩, ?_⟩
      . refine hJ.rd.more (M := bl :: (ob ao).toList) hJ.rt ((hVk.mono (by simp)).grown hgrow6 (fun k hk => .inl (by simp [hk])) |>.setCell (.inl (by simp)) _) ?_
        intro m hm
        have h0R := hJ.rd.R0
        rcases List.mem_cons.1 hm with e | e
        . subst e
          exact ⟨by omega, _, _, _, hbl, fun e => absurd e (by decide), fun e => absurd e (by decide)⟩
        . have hk : ob ao = some m := by simpa using e
          obtain ⟨cs, fr, hg⟩ := own_cells hown hk
          exact ⟨by have := (own_lt hown m hk).1; omega, cs, _, fr, hg, fun e => absurd e (by decide), fun e => absurd e (by decide)⟩
      . refine (Below.heap_setCell _ _ _ _ h3).trans ((hgrow6.block br (by omega) (own_ne hown hJ.box (by decide)).symm).trans ((hVk.block br hltb (by simpa using hne)).trans hJ.box))
      . rw [List.length_append, setCell_eq_setRow _ _ 0 _ _ _ _ h6]
        exact setRow_heap _ _ _ _ _ _ h6
      . rw [List.length_append, List.flatMap_append]
        exact own_of_block (by simpa [agC] using hown6) (fun k hk => Below.heap_setCell _ _ _ _ (by simp [ob] at hk; subst hk; exact hne6))
      . rw [List.length_append]; simp; omega
    . have hkw1 : Kb [R] w w1 := ((Kb.refl _ _).alloc _).trans hk1.undrew
      have hVk : Kb [R] w (((w1.setCell ⟨w.heap.size, 0, none⟩ (.int .i64 (a.fr : Int))).setCell ⟨w.heap.size, 1, none⟩ (.int .i64 (a.sz : Int))).setCell ⟨w.heap.size, 2, none⟩ (.bool a.whole)) := ((hkw1.setCell (.inr (Nat.le_refl _)) _).setCell (.inr (Nat.le_refl _)) _).setCell (.inr (Nat.le_refl _)) _
      have hVg : (((w1.setCell ⟨w.heap.size, 0, none⟩ (.int .i64 (a.fr : Int))).setCell ⟨w.heap.size, 1, none⟩ (.int .i64 (a.sz : Int))).setCell ⟨w.heap.size, 2, none⟩ (.bool a.whole)).heap[w.heap.size]? = some (.cells #[.int .i64 (a.fr : Int), .int .i64 (a.sz : Int), .bool a.whole] 184 (0, 0)) := by
        rw [setCell_eq_setRow w1 _ 0 _ _ _ _ hz, setCell_eq_setRow _ _ 1 _ _ _ _ (setRow_heap _ _ _ _ _ _ hz), setRow_setRow, setCell_eq_setRow _ _ 2 _ _ _ _ (setRow_heap _ _ _ _ _ _ hz), setRow_setRow]
        exact setRow_heap _ _ _ _ _ _ hz
      have hVr : Rt (((w1.setCell ⟨w.heap.size, 0, none⟩ (.int .i64 (a.fr : Int))).setCell ⟨w.heap.size, 1, none⟩ (.int .i64 (a.sz : Int))).setCell ⟨w.heap.size, 2, none⟩ (.bool a.whole)) R (xOf L d) o ts1 := hr1.kept ((Below.heap_setCell _ _ _ _ (by simp; omega)).trans ((Below.heap_setCell _ _ _ _ (by simp; omega)).trans (Below.heap_setCell _ _ _ _ (by simp; omega)))) ((Below.heap_setCell _ _ _ _ (fun e => by have e' : L.bt = w.heap.size := e; omega)).trans ((Below.heap_setCell _ _ _ _ (fun e => by have e' : L.bt = w.heap.size := e; omega)).trans (Below.heap_setCell _ _ _ _ (fun e => by have e' : L.bt = w.heap.size := e; omega))))
      have hgs : w.heap.size <= w.heap.size := Nat.le_refl _
      generalize (((w1.setCell ⟨w.heap.size, 0, none⟩ (.int .i64 (a.fr : Int))).setCell ⟨w.heap.size, 1, none⟩ (.int .i64 (a.sz : Int))).setCell ⟨w.heap.size, 2, none⟩ (.bool a.whole)) = V at *
      generalize hgg : w.heap.size = g at hVg hgs ⊢
      have Hgg := hide hgg
      clear hgg
      have hVs := hVk.size
      have hVb := (hVk.block bl hltl (by simpa using hne2)).trans hbl
      have hVo := own_kept hown hVk (by omega)
      clear z0 z1 z2 zf hz hS hk1 hkw1
      have v0 : V.cell? ⟨bl, 0, none⟩ = some (.slice ao acc.length c) := cell_of_row _ _ 0 _ _ _ hVb
      have g0 : V.cell? ⟨g, 0, none⟩ = some (.int .i64 (a.fr : Int)) := cell_of_row _ _ 0 _ _ _ hVg
      have g1 : V.cell? ⟨g, 1, none⟩ = some (.int .i64 (a.sz : Int)) := cell_of_row _ _ 1 _ _ _ hVg
      have g2 : V.cell? ⟨g, 2, none⟩ = some (.bool a.whole) := cell_of_row _ _ 2 _ _ _ hVg
      have hbV : bl < V.heap.size := World.block_lt_of_cell? _ _ v0
      have hsV : W.heap.size <= V.heap.size := by omega
      go_wp2_with (at_builtin; refine push rfl _ _ 191 rfl 184 Tryz.underlying191 _ 3 24 infoA rfl (by decide) W.heap.size ao acc.length c _ rfl hVo [.int .i64 (a.fr : Int), .int .i64 (a.sz : Int), .bool a.whole] _ rfl rfl (by simp [Value.oneCell']) _ rfl rfl (by omega) (by omega) hsV ?_)
      intro g6 cap w6 hown6 hgrow6 hat6
      have hneb : some bl ≠ ob ao := (own_ne hown hbl (by decide)).symm
      have h6 := (hgrow6.block bl hbV hneb).trans hVb
      have e0 : w6.cell? ⟨bl, 0, none⟩ = some (.slice ao acc.length c) := cell_of_row _ _ 0 _ _ _ h6
      have ef : w6.frozen? ⟨bl, 0, none⟩ = false := by simp [World.frozen?, h6]
      clear v0 g0 g1 g2
      go_wp2_with fail
      go_ret
      have hne6 : g6 ≠ bl := fun e => by
        have := own_ne hown6 h6 (by decide)
        exact this (by rw [e]; rfl)
      have hR6 : some R ≠ ob ao := fun e => by have := (own_lt hVo R e.symm).1; omega
      obtain ⟨tcs, tfr, htb⟩ := hVr.btB
      have hB6 : some L.bt ≠ ob ao := (own_ne hVo htb (by decide)).symm
      have hBb : L.bt ≠ bl := fun e => by
        rw [show (xOf L d).bt = bl from e, hVb] at htb
        simp at htb
      have hRt : Rt (w6.setCell ⟨bl, 0, none⟩ (.slice (some ⟨g6, 0, none⟩) (acc.length + 1) cap)) R (xOf L d) o ts1 :=
        hVr.kept ((Below.heap_setCell _ _ _ _ (by simp; omega)).trans (hgrow6.block R hVr.lt hR6)) ((Below.heap_setCell _ _ _ _ hBb).trans (hgrow6.block L.bt hVr.bt hB6))
      refine ⟨rfl, hRt, ?_, ((hJ.kb.trans hVk).grown hgrow6 (fun k hk => .inr (own_lt hVo k hk).1)).setCell (.inr h2) _, ?_, ⟨some ⟨g6, 0, none⟩, cap, ?_, ?_⟩, ?_⟩
      . refine hJ.rd.more (M := bl :: (ob ao).toList) hJ.rt ((hVk.mono (by simp)).grown hgrow6 (fun k hk => .inl (by simp [hk])) |>.setCell (.inl (by simp)) _) ?_
        intro m hm
        have h0R := hJ.rd.R0
        rcases List.mem_cons.1 hm with e | e
        . subst e
          exact ⟨by omega, _, _, _, hbl, fun e => absurd e (by decide), fun e => absurd e (by decide)⟩
        . have hk : ob ao = some m := by simpa using e
          obtain ⟨cs, fr, hg⟩ := own_cells hown hk
          exact ⟨by have := (own_lt hown m hk).1; omega, cs, _, fr, hg, fun e => absurd e (by decide), fun e => absurd e (by decide)⟩
      . refine (Below.heap_setCell _ _ _ _ h3).trans ((hgrow6.block br (by omega) (own_ne hown hJ.box (by decide)).symm).trans ((hVk.block br hltb (by simpa using hne)).trans hJ.box))
      . rw [List.length_append, setCell_eq_setRow _ _ 0 _ _ _ _ h6]
        exact setRow_heap _ _ _ _ _ _ h6
      . rw [List.length_append, List.flatMap_append]
        exact own_of_block (by simpa [agC] using hown6) (fun k hk => Below.heap_setCell _ _ _ _ (by simp [ob] at hk; subst hk; exact hne6))
      . rw [List.length_append]; simp; omega
theorem eArgs1 : ∀ args w, (callFunc 138 args).run Tryz.prog w = .ok (.enter 138 args) w := enters_of Tryz.func138 (by kernel_rfl) rfl
def PA (R : Nat) (x : X) (o : Value) (w : World) (P : Res (List Ag)) (e : Ending) (w' : World) : Prop := match P with
  | .ok l ts' => ∃ ao c, e = .returned (.tuple #[.slice ao l.length c, .nilIface]) /\ w'.ownsRow w.heap.size 184 3 (.slice ao l.length c) l.length (l.flatMap agC) /\ l.length <= 4398046511104 /\ Rt w' R x o ts' /\ Kb [R] w w'
  | .no c t => (∃ ao n c', e = .returned (.tuple #[.slice ao n c', erV c t])) /\ Kb [R] w w'
abbrev SB (R br bl : Nat) (u : Value) (V : World) : Prop := V.cell? ⟨bl, 0, none⟩ = some u /\ V.cell? ⟨br, 0, none⟩ = some (.pointer (some ⟨R, 0, none⟩))
theorem cArgs (w0 : World) (R : Nat) (L : Ly) (B N : Nat) (d : Dc) (o : Value) (ts : List T) (w : World) (hD : Rdr w0 w R L B N d) (hR : Rt w R (xOf L d) o ts) :
    Calls Tryz.prog 117 #[.pointer (some ⟨R, 0, none⟩)] w (PA R (xOf L d) o w (pArgs d ts)) := by
  have hlt := hR.lt
  have eG := erG
  have eN := erN
  have hb2 : Below w.heap.size w ((w.alloc (.cells #[.pointer (some ⟨R, 0, none⟩)] 115)).alloc (.cells #[.slice none 0 0] 191)) := (bnew _ _).trans ((bnew _ _).mono (by simp))
  have hJ0 : JA w0 w R L B N d o w.heap.size (w.heap.size + 1) [] ts ((w.alloc (.cells #[.pointer (some ⟨R, 0, none⟩)] 115)).alloc (.cells #[.slice none 0 0] 191)) := by
    refine ⟨hR.below hb2, hD.below hb2, Kb.of_below hb2, (Below.heap_alloc _ _ _ (by simp)).trans (heap_alloc_new _ _), ⟨none, 0, ?_, World.ownsRow_nil _ _ _ _⟩, ?_⟩
    . have := heap_alloc_new (w.alloc (.cells #[.pointer (some ⟨R, 0, none⟩)] 115)) (.cells #[.slice none 0 0] 191)
      simpa using this
    . have := hR.fine.len
      simp
      omega
  have c1 := cRow R (xOf L d) o 138 #[.pointer (some ⟨w.heap.size, 0, none⟩), .pointer (some ⟨w.heap.size + 1, 0, none⟩)] eArgs1 (fun _ => pArg d.q) (JA w0 w R L B N d o w.heap.size (w.heap.size + 1)) (fun w' => Kb [R] w w')
    (fun acc ts w1 h => cArgs1 w0 w R L B N d o _ _ hlt (Nat.le_refl _) (by omega) (by omega) acc ts w1 h) (fun acc ts w1 h => h.rt)
    (fun acc ts ts' w1 w2 h hle hk hr => by
      obtain ⟨ao, c, h1, h2⟩ := h.row
      have l1 := (Array.getElem?_eq_some_iff.1 h.box).1
      have l2 := (Array.getElem?_eq_some_iff.1 h1).1
      refine ⟨hr, h.rd.turn h.rt hk, h.kb.trans hk, (hk.block _ l1 (by simp; omega)).trans h.box, ⟨ao, c, (hk.block _ l2 (by simp; omega)).trans h1, own_kept h2 hk hlt⟩, ?_⟩
      have := h.len
      omega)
    (fun _ _ _ _ h => Nat.le_of_lt (pArg_lt h)) ts _ hJ0
  unfold pArgs
  cases h1 : pRow (fun _ => pArg d.q) (ts.length + 1) [] ts with
  | no c t =>
    rw [h1] at c1
    go_enter Tryz.func117, Tryz.ntmps117
    go_wp2_with (first | (go_at_call 130; refine c1.mono ?_; rintro e w1 ⟨rfl, hk1⟩))
    go_ret2
    exact ⟨⟨_, _, _, rfl⟩, hk1⟩
  | ok l ts1 =>
    rw [h1] at c1
    simp only
    have c3 := fun W (h : Rt W R (xOf L d) o ts1) => cMark1 R (xOf L d) o ts1 [59] W h
    cases h2 : pMks [[59]] ts1 with
    | no c t =>
      rw [h2] at c3
      go_enter Tryz.func117, Tryz.ntmps117
      go_wp2_with (first | (go_at_call 130; refine c1.mono ?_; rintro e w1 ⟨rfl, hj1⟩; obtain ⟨ao, cc, hbl, hown⟩ := hj1.row; have hbr := hj1.box; have c4 : Calls Tryz.prog 58 #[.pointer (some ⟨R, 0, none⟩), .slice (some ⟨w1.heap.size, 0, none⟩) 1 1] (w1.alloc (.cells #[.string ⟨#[59]⟩] 9)).drew (PT R (xOf L d) o w1.drew (fun _ => .nilIface) id (.no c t)) := c3 w1.drew hj1.rt))
      have hl1 := (Array.getElem?_eq_some_iff.1 hbr).1
      have hl2 := (Array.getElem?_eq_some_iff.1 hbl).1
      have hS0 : SB R w.heap.size (w.heap.size + 1) (.slice ao l.length cc) w1 := ⟨cell_of_row _ _ 0 _ _ _ hbl, cell_of_row _ _ 0 _ _ _ hbr⟩
      have HS0 : Hid (SB R w.heap.size (w.heap.size + 1) (.slice ao l.length cc) w1.drew) := hide hS0
      have HS1 : Hid (∀ o', SB R w.heap.size (w.heap.size + 1) (.slice ao l.length cc) (w1.alloc o').drew) := hide (fun o' => ⟨((bnew w1 o').cell (p := ⟨w.heap.size + 1, 0, none⟩) hl2).trans hS0.1, ((bnew w1 o').cell (p := ⟨w.heap.size, 0, none⟩) hl1).trans hS0.2⟩)
      have HS2 : Hid (∀ w2, Kb [R] w1.drew w2 -> SB R w.heap.size (w.heap.size + 1) (.slice ao l.length cc) w2) := hide (fun w2 hk => ⟨(hk.undrew.cell (p := ⟨w.heap.size + 1, 0, none⟩) hl2 (by simp; omega)).trans hS0.1, (hk.undrew.cell (p := ⟨w.heap.size, 0, none⟩) hl1 (by simp; omega)).trans hS0.2⟩)
      clear hS0
      go_region_held3 (fun V => V.cell? ⟨w.heap.size + 1, 0, none⟩ = some (.slice ao l.length cc) /\ V.cell? ⟨w.heap.size, 0, none⟩ = some (.pointer (some ⟨R, 0, none⟩)))
        (first | (with_reducible exact HS0.out) | (with_reducible exact HS1.out _) | (with_reducible assumption))
        (first | (go_at_call 58; (with_reducible refine Calls.mono c4 ?_); rintro e w2 ⟨rfl, hn2, hk2⟩; have hS := HS2.out w2 hk2))
      go_wp2_with fail
      go_ret2
      exact ⟨⟨_, _, _, rfl⟩, hj1.kb.trans hk2.undrew⟩
    | ok u ts2 =>
      rw [h2] at c3
      go_enter Tryz.func117, Tryz.ntmps117
      go_wp2_with (first | (go_at_call 130; refine c1.mono ?_; rintro e w1 ⟨rfl, hj1⟩; obtain ⟨ao, cc, hbl, hown⟩ := hj1.row; have hbr := hj1.box; have c4 : Calls Tryz.prog 58 #[.pointer (some ⟨R, 0, none⟩), .slice (some ⟨w1.heap.size, 0, none⟩) 1 1] (w1.alloc (.cells #[.string ⟨#[59]⟩] 9)).drew (PT R (xOf L d) o w1.drew (fun _ => .nilIface) id (.ok u ts2)) := c3 w1.drew hj1.rt))
      have hl1 := (Array.getElem?_eq_some_iff.1 hbr).1
      have hl2 := (Array.getElem?_eq_some_iff.1 hbl).1
      have hS0 : SB R w.heap.size (w.heap.size + 1) (.slice ao l.length cc) w1 := ⟨cell_of_row _ _ 0 _ _ _ hbl, cell_of_row _ _ 0 _ _ _ hbr⟩
      have HS0 : Hid (SB R w.heap.size (w.heap.size + 1) (.slice ao l.length cc) w1.drew) := hide hS0
      have HS1 : Hid (∀ o', SB R w.heap.size (w.heap.size + 1) (.slice ao l.length cc) (w1.alloc o').drew) := hide (fun o' => ⟨((bnew w1 o').cell (p := ⟨w.heap.size + 1, 0, none⟩) hl2).trans hS0.1, ((bnew w1 o').cell (p := ⟨w.heap.size, 0, none⟩) hl1).trans hS0.2⟩)
      have HS2 : Hid (∀ w2, Kb [R] w1.drew w2 -> SB R w.heap.size (w.heap.size + 1) (.slice ao l.length cc) w2) := hide (fun w2 hk => ⟨(hk.undrew.cell (p := ⟨w.heap.size + 1, 0, none⟩) hl2 (by simp; omega)).trans hS0.1, (hk.undrew.cell (p := ⟨w.heap.size, 0, none⟩) hl1 (by simp; omega)).trans hS0.2⟩)
      clear hS0
      go_region_held3 (fun V => V.cell? ⟨w.heap.size + 1, 0, none⟩ = some (.slice ao l.length cc) /\ V.cell? ⟨w.heap.size, 0, none⟩ = some (.pointer (some ⟨R, 0, none⟩)))
        (first | (with_reducible exact HS0.out) | (with_reducible exact HS1.out _) | (with_reducible assumption))
        (first | (go_at_call 58; (with_reducible refine Calls.mono c4 ?_); rintro e w2 ⟨rfl, hr2, hk2⟩; have hS := HS2.out w2 hk2))
      go_wp2_with fail
      go_ret2
      exact ⟨ao, cc, rfl, own_kept hown hk2.undrew hlt, by have := hj1.len; have := List.length_pos_iff.2 hj1.rt.fine.ends.ne; omega, hr2, hj1.kb.trans hk2.undrew⟩
end Go.Proofs.YtnghfdnlcnocjaaGreatDoor.Cir
