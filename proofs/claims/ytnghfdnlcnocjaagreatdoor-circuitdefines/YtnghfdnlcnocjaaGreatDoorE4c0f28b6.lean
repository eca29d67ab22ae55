import Derived.Test.YtnghfdnlcnocjaaGreatDoorEc2b8ad7b
import Derived.Test.YtnghfdnlcnocjaaGreatDoorE40c825da
import Derived.Deep.CutRange
set_option maxRecDepth 100000
set_option maxHeartbeats 4000000
namespace Go.Proofs.YtnghfdnlcnocjaaGreatDoor.Cir
open Go.RowKit Go.Shelf Go.Proofs.YtnghfdnlcnocjaaGreatDoor.Oct Go.Proofs.YtnghfdnlcnocjaaGreatDoor.Tok Go.Proofs.YtnghfdnlcnocjaaGreatDoor.Gt
def SR (w : World) (R : Nat) (x : X) (o : Value) (tb : Obj) (V : World) : Prop := (∃ ts', Rt V R x o ts') /\ V.heap[w.heap.size]? = some (.cells #[.pointer (some ⟨R, 0, none⟩)] 115) /\ V.heap[w.heap.size + 1]? = some tb /\ Kb [R] w V /\ R < w.heap.size /\ x.bt < w.heap.size
theorem cell_oneR {w : World} {g : Nat} {v : Value} {t : TypeId} (h : w.heap[g]? = some (.cells #[v] t (0, 0))) : w.cell? ⟨g, 0, none⟩ = some v := by simp [World.cell?, h]
theorem frozen_cR {w : World} {g : Nat} {cs : Array Value} {t : TypeId} (h : w.heap[g]? = some (.cells cs t)) (i : Nat) : w.frozen? ⟨g, i, none⟩ = false := by simp [World.frozen?, h]
theorem c3_setR (w : World) (g : Nat) (a b c a' b' c' : Value) (t : TypeId) (h : w.heap[g]? = some (.cells #[a, b, c] t (0, 0))) : ((w.setCell ⟨g, 0, none⟩ a').setCell ⟨g, 1, none⟩ b').setCell ⟨g, 2, none⟩ c' = w.setRow g #[a', b', c'] := by
  rw [setCell_eq_setRow w g 0 _ t _ _ h, setCell_eq_setRow _ g 1 _ t _ _ (setRow_heap w g _ _ t _ h), setRow_setRow, setCell_eq_setRow _ g 2 _ t _ _ (setRow_heap w g _ _ t _ h), setRow_setRow]
  rfl
theorem SR.alloc {w : World} {R : Nat} {x : X} {o : Value} {tb : Obj} {V : World} (h : SR w R x o tb V) (b : Obj) : SR w R x o tb (V.alloc b) := by
  obtain ⟨⟨ts', h1⟩, h2, h3, h4, h5, h6⟩ := h
  exact ⟨⟨ts', h1.below (bnew _ _)⟩, (Below.heap_alloc _ _ _ (Array.getElem?_eq_some_iff.1 h2).1).trans h2, (Below.heap_alloc _ _ _ (Array.getElem?_eq_some_iff.1 h3).1).trans h3, h4.alloc _, h5, h6⟩
theorem SR.call {w : World} {R : Nat} {x : X} {o : Value} {tb : Obj} {V V' : World} {ts : List T} (h : SR w R x o tb V) (hr : Rt V' R x o ts) (hk : Kb [R] V V') : SR w R x o tb V' := by
  obtain ⟨-, h2, h3, h4, h5, h6⟩ := h
  exact ⟨⟨ts, hr⟩, (hk.block _ (Array.getElem?_eq_some_iff.1 h2).1 (by simp; omega)).trans h2, (hk.block _ (Array.getElem?_eq_some_iff.1 h3).1 (by simp; omega)).trans h3, h4.trans hk, h5, h6⟩
theorem SR.row {w : World} {R : Nat} {x : X} {o : Value} {tb : Obj} {V : World} (h : SR w R x o tb V) (cs : Array Value) {g : Nat} (hg : w.heap.size + 2 <= g) : SR w R x o tb (V.setRow g cs) := by
  obtain ⟨⟨ts', h1⟩, h2, h3, h4, h5, h6⟩ := h
  exact ⟨⟨ts', h1.row g cs (by omega) (by omega)⟩, (setRow_other _ _ _ _ (by omega)).trans h2, (setRow_other _ _ _ _ (by omega)).trans h3, h4.setRow g cs (.inr (by omega)), h5, h6⟩
theorem cReset_no (w0 : World) (R : Nat) (L : Ly) (B N : Nat) (d : Dc) (ao : Option Addr) (no co : Nat) (ops : List COp) (t : T) (ts : List T) (w : World) (hC : Cx w0 w R L B N d ao no co ops ts) (c' : Nat) (t' : T) (hP : pReset d ops t ts = .no c' t') : Calls Tryz.prog 93 #[.pointer (some ⟨R, 0, none⟩), tkV t] w (PC R L d w0.heap.size ao w (.no c' t')) := by
  obtain ⟨hD, hR, hO, hno⟩ := hC
  have hlt := hR.lt
  have eG := erG
  have eN := erN
  have HD := hide hD
  have HR := hide hR
  have HO := hide hO
  have HLN := hide hO.len
  have c4 := fun (V : World) (ts2 : List T) (n : Nat) (hn : no + n <= 4611686018427387904) (hr : Rt V R (xOf L d) (.slice ao no co) ts2) => cRoom R L d ao no co n t ts2 hn V hr
  unfold pReset at hP
  obtain ⟨kind, text, num, o0, line, col⟩ := t
  unfold tkV at c4 ⊢
  simp only at c4 ⊢
  have hS0 : SR w R (xOf L d) (.slice ao no co) (.cells #[.int .i64 (kind : Int), .string ⟨text.toArray⟩, .int .i64 (num : Int), .int .i64 (o0 : Int), .int .i64 (line : Int), .int .i64 (col : Int)] 100) ((w.alloc (.cells #[.pointer (some ⟨R, 0, none⟩)] 115)).alloc (.cells #[.int .i64 (kind : Int), .string ⟨text.toArray⟩, .int .i64 (num : Int), .int .i64 (o0 : Int), .int .i64 (line : Int), .int .i64 (col : Int)] 100)).drew := ⟨⟨ts, ((hR.below (bnew _ _)).below (bnew _ _)).below (Below.refl _ _).drew⟩, (Below.heap_alloc _ _ _ (by simp)).trans (heap_alloc_new _ _), (by have h := heap_alloc_new (w.alloc (.cells #[.pointer (some ⟨R, 0, none⟩)] 115)) (.cells #[.int .i64 (kind : Int), .string ⟨text.toArray⟩, .int .i64 (num : Int), .int .i64 (o0 : Int), .int .i64 (line : Int), .int .i64 (col : Int)] 100); rw [World.size_alloc] at h; exact h), Kb.of_below (((bnew _ _).trans ((bnew _ _).mono (by simp))).drew), hlt, hR.bt⟩
  have hRd : Rt ((w.alloc (.cells #[.pointer (some ⟨R, 0, none⟩)] 115)).alloc (.cells #[.int .i64 (kind : Int), .string ⟨text.toArray⟩, .int .i64 (num : Int), .int .i64 (o0 : Int), .int .i64 (line : Int), .int .i64 (col : Int)] 100)).drew R (xOf L d) (.slice ao no co) ts := ((hR.below (bnew _ _)).below (bnew _ _)).below (Below.refl _ _).drew
  generalize hW0 : ((w.alloc (.cells #[.pointer (some ⟨R, 0, none⟩)] 115)).alloc (.cells #[.int .i64 (kind : Int), .string ⟨text.toArray⟩, .int .i64 (num : Int), .int .i64 (o0 : Int), .int .i64 (line : Int), .int .i64 (col : Int)] 100)) = W0 at hS0 hRd
  have HZ := hide hW0
  have M1 : Hid (∀ V, Rt V R (xOf L d) (.slice ao no co) ts -> Kb [R] w V -> Calls Tryz.prog 113 #[.pointer (some ⟨R, 0, none⟩), .agg #[.map (some L.mq), .int .i64 (d.q.size : Int), .int .i64 64]] V (PX R (xOf L d) (.slice ao no co) V (fun a => .tuple #[agV a, .nilIface]) bdA (pArg d.q ts))) := hide (fun V h hk => cArg R (xOf L d) (.slice ao no co) ts L.mq (d.q.size : Int) 64 d.q (fun y r hf => Nat.le_trans (HD.out.ok.rq y r hf).2 HD.out.ok.q) V h (by
    obtain ⟨⟨v, hb, _⟩, _⟩ := id h
    unfold rbO at hb
    exact (HD.out.turn HR.out hk).mq.ne hb) (HD.out.turn HR.out hk).mq.rm)
  clear hW0 hO hR
  cases h1 : pArg d.q ts with
  | no c t =>
    rw [h1] at M1 hP
    simp only [Res.no.injEq] at hP
    obtain ⟨rfl, rfl⟩ := hP
    go_enter Tryz.func93, Tryz.ntmps93
    go_upto_region 1 with fail
    rw [HZ.out]
    go_cut [6] from 10 (fun s6 wc => s6 = erV c t /\ Kb [R] w wc)
    case first =>
      refine wp_region_held_drew (S := SR w R (xOf L d) (.slice ao no co) (.cells #[.int .i64 (kind : Int), .string ⟨text.toArray⟩, .int .i64 (num : Int), .int .i64 (o0 : Int), .int .i64 (line : Int), .int .i64 (col : Int)] 100)) (by kernel_rfl) hS0 (fun hHeld => ?_)
      refine take_to (i := 0) (d := 11) (v := ?_) rfl rfl (by kernel_rfl) (by kernel_rfl) (by kernel_rfl) (fun _ _ _ h => h) (Or.inl ⟨by rfl, ?_⟩) (by assumption) ?_
      rotate_left 1
      . intro W hSw
        obtain ⟨⟨tt, hrt⟩, g1, g2, -⟩ := hSw
        obtain ⟨s0, s1, s2, -⟩ := hrt.cells
        have s3 := cell_oneR g1
        have s4 := hrt.lt
        have s5 := (Array.getElem?_eq_some_iff.1 g1).1
        go_simp
        with_reducible rfl
      simp only [Act.put, List.setIfInBounds_toArray, List.set_cons_zero, List.set_cons_succ]
      refine take_to (i := 1) (d := 12) (v := ?_) rfl rfl (by kernel_rfl) (by kernel_rfl) (by kernel_rfl) (fun _ _ _ h => h) (Or.inl ⟨by rfl, ?_⟩) (by assumption) ?_
      rotate_left 1
      . intro W hSw
        obtain ⟨⟨tt, hrt⟩, g1, g2, -⟩ := hSw
        obtain ⟨s0, s1, s2, -⟩ := hrt.cells
        have s3 := cell_oneR g1
        have s4 := hrt.lt
        have s5 := (Array.getElem?_eq_some_iff.1 g1).1
        go_simp
        with_reducible rfl
      simp only [Act.put, List.setIfInBounds_toArray, List.set_cons_zero, List.set_cons_succ]
      refine take_to (i := 2) (d := 13) (v := ?_) rfl rfl (by kernel_rfl) (by kernel_rfl) (by kernel_rfl) (fun _ _ _ h => h) (Or.inl ⟨by rfl, ?_⟩) (by assumption) ?_
      rotate_left 1
      . intro W hSw
        obtain ⟨⟨tt, hrt⟩, g1, g2, -⟩ := hSw
        obtain ⟨s0, s1, s2, -⟩ := hrt.cells
        have s3 := cell_oneR g1
        have s4 := hrt.lt
        have s5 := (Array.getElem?_eq_some_iff.1 g1).1
        go_simp
        with_reducible rfl
      simp only [Act.put, List.setIfInBounds_toArray, List.set_cons_zero, List.set_cons_succ]
      refine take_to (i := 3) (d := 14) (v := ?_) rfl rfl (by kernel_rfl) (by kernel_rfl) (by kernel_rfl) (fun _ _ _ h => h) (Or.inl ⟨by rfl, ?_⟩) (by assumption) ?_
      rotate_left 1
      . intro W hSw
        obtain ⟨⟨tt, hrt⟩, g1, g2, -⟩ := hSw
        obtain ⟨s0, s1, s2, -⟩ := hrt.cells
        have s3 := cell_oneR g1
        have s4 := hrt.lt
        have s5 := (Array.getElem?_eq_some_iff.1 g1).1
        go_simp
        with_reducible rfl
      simp only [Act.put, List.setIfInBounds_toArray, List.set_cons_zero, List.set_cons_succ]
      refine take_to (i := 4) (d := 15) (v := ?_) rfl rfl (by kernel_rfl) (by kernel_rfl) (by kernel_rfl) (fun _ _ _ h => h) (Or.inl ⟨by rfl, ?_⟩) (by assumption) ?_
      rotate_left 1
      . intro W hSw
        obtain ⟨⟨tt, hrt⟩, g1, g2, -⟩ := hSw
        obtain ⟨s0, s1, s2, -⟩ := hrt.cells
        have s3 := cell_oneR g1
        have s4 := hrt.lt
        have s5 := (Array.getElem?_eq_some_iff.1 g1).1
        go_simp
        with_reducible rfl
      simp only [Act.put, List.setIfInBounds_toArray, List.set_cons_zero, List.set_cons_succ]
      refine take_to (i := 5) (d := 16) (v := ?_) rfl rfl (by kernel_rfl) (by kernel_rfl) (by kernel_rfl) (fun _ _ _ h => h) (Or.inl ⟨by rfl, ?_⟩) (by assumption) ?_
      rotate_left 1
      . intro W hSw
        obtain ⟨⟨tt, hrt⟩, g1, g2, -⟩ := hSw
        obtain ⟨s0, s1, s2, -⟩ := hrt.cells
        have s3 := cell_oneR g1
        have s4 := hrt.lt
        have s5 := (Array.getElem?_eq_some_iff.1 g1).1
        go_simp
        with_reducible rfl
      simp only [Act.put, List.setIfInBounds_toArray, List.set_cons_zero, List.set_cons_succ]
      refine wpAnyH_ready (rs := [6, 10]) (by kernel_rfl) (by simp) ?_
      refine AllReadyH.cons (o := { dst := some 17, op := Op.call { callee := Callee.value (Operand.func 113), args := #[Operand.tmp 11, Operand.tmp 16], argTypes := #[115, 62] }, type := 185, pos := "action.go:159", after := #[{ on := 0, ground := Ground.data }, { on := 5, ground := Ground.data }], guard := none }) rfl (fun K hK => ?_) (AllReadyH.cons (o := { dst := some 5, op := Op.alloc 184, type := 0, pos := "action.go:159", after := #[], guard := none }) rfl (fun K hK => ?_) AllReadyH.nil)
      . go_simp
        go_at_call 113
        refine Calls.mono (M1.out _ hRd hS0.2.2.2.1) ?_
        rintro e w1 ⟨⟨za, zb, zc, rfl⟩, ⟨tsx, hr1⟩, hk1⟩
        go_wp2_with fail
        have hS1 := hS0.call hr1 hk1
        refine hK.out _ _ hS1 (fun hHeld => ?_)
        clear hK K
        refine take_to (i := 7) (d := 10) (v := ?_) rfl rfl (by kernel_rfl) (by kernel_rfl) (by kernel_rfl) (fun _ _ _ h => h) (Or.inl ⟨by rfl, ?_⟩) (by assumption) ?_
        rotate_left 1
        . intro W hSw
          clear hSw
          go_simp
          with_reducible rfl
        simp only [Act.put, List.setIfInBounds_toArray, List.set_cons_zero, List.set_cons_succ]
        refine take_to (i := 8) (d := 18) (v := ?_) rfl rfl (by kernel_rfl) (by kernel_rfl) (by kernel_rfl) (fun _ _ _ h => h) (Or.inl ⟨by rfl, ?_⟩) (by assumption) ?_
        rotate_left 1
        . intro W hSw
          clear hSw
          go_simp
          with_reducible rfl
        simp only [Act.put, List.setIfInBounds_toArray, List.set_cons_zero, List.set_cons_succ]
        refine take_to (i := 9) (d := 19) (v := ?_) rfl rfl (by kernel_rfl) (by kernel_rfl) (by kernel_rfl) (fun _ _ _ h => h) (Or.inl ⟨by rfl, ?_⟩) (by assumption) ?_
        rotate_left 1
        . intro W hSw
          clear hSw
          go_simp
          with_reducible rfl
        simp only [Act.put, List.setIfInBounds_toArray, List.set_cons_zero, List.set_cons_succ]
        refine wpAnyH_ready (rs := [10]) (by kernel_rfl) (by simp) ?_
        refine AllReadyH.cons (o := { dst := some 5, op := Op.alloc 184, type := 0, pos := "action.go:159", after := #[], guard := none }) rfl (fun K hK => ?_) AllReadyH.nil
        go_simp
        refine hK.out _ _ (hS1.alloc _) (fun hHeld => ?_)
        clear hK K
        try simp only [Act.put, List.setIfInBounds_toArray, List.set_cons_zero, List.set_cons_succ]
        have hzb := heap_alloc_new w1 (.cells #[.int .i64 0, .int .i64 0, .bool false] 184)
        have hSV := hS1.alloc (.cells #[.int .i64 0, .int .i64 0, .bool false] 184)
        have hrV := hr1.below (bnew w1 (.cells #[.int .i64 0, .int .i64 0, .bool false] 184))
        have hgA : w.heap.size + 2 <= w1.heap.size := by have := (Array.getElem?_eq_some_iff.1 hS1.2.2.1).1; omega
        obtain ⟨u0, u1, u2, u3⟩ := def_cells hzb
        have uf := fun i => frozen_cR hzb i
        refine wpAnyH_ready (rs := [11]) (by kernel_rfl) (by simp) ?_
        refine AllReadyH.cons (o := { dst := none, op := Op.store 184 (Operand.tmp 5) (Operand.tmp 18), type := 0, pos := "action.go:159", after := #[{ on := 10, ground := Ground.data }, { on := 8, ground := Ground.data }, { on := 6, ground := Ground.chain }, { on := 0, ground := Ground.phase }, { on := 1, ground := Ground.phase }, { on := 2, ground := Ground.phase }, { on := 3, ground := Ground.phase }, { on := 4, ground := Ground.phase }, { on := 5, ground := Ground.phase }, { on := 6, ground := Ground.phase }, { on := 7, ground := Ground.phase }, { on := 8, ground := Ground.phase }, { on := 9, ground := Ground.textOnly Departure.lateStores }, { on := 10, ground := Ground.phase }], guard := none }) rfl (fun K hK => ?_) AllReadyH.nil
        go_simp
        have hSF := hS1.alloc (.cells #[.int .i64 za, .int .i64 zb, .bool zc] 184)
        refine hK.out _ _ hSF (fun hHeld => ?_)
        clear hK K
        refine take_to (i := 12) (d := 6) (v := ?_) rfl rfl (by kernel_rfl) (by kernel_rfl) (by kernel_rfl) (fun _ _ _ h => h) (Or.inl ⟨by rfl, ?_⟩) (by assumption) ?_
        rotate_left 1
        . intro W hSw
          clear hSw
          go_simp
          with_reducible rfl
        simp only [Act.put, List.setIfInBounds_toArray, List.set_cons_zero, List.set_cons_succ]
        refine wpAnyH_done (by kernel_rfl) ?_ _
        go_wp2_with fail
        go_meet
        case rel => exact ⟨rfl, hSF.2.2.2.1⟩
      . go_simp
        refine hK.out _ _ (hS0.alloc _) (fun hHeld => ?_)
        clear hK K
        try simp only [Act.put, List.setIfInBounds_toArray, List.set_cons_zero, List.set_cons_succ]
        have hgA : w.heap.size + 2 <= W0.heap.size := by have : w.heap.size + 1 < W0.heap.size := (Array.getElem?_eq_some_iff.1 hS0.2.2.1).1; omega
        have hzb0 : (W0.drew.alloc (.cells #[.int .i64 0, .int .i64 0, .bool false] 184)).heap[W0.heap.size]? = some (.cells #[.int .i64 0, .int .i64 0, .bool false] 184) := heap_alloc_new W0.drew (.cells #[.int .i64 0, .int .i64 0, .bool false] 184)
        refine wpAnyH_ready (rs := [6]) (by kernel_rfl) (by simp) ?_
        refine AllReadyH.cons (o := { dst := some 17, op := Op.call { callee := Callee.value (Operand.func 113), args := #[Operand.tmp 11, Operand.tmp 16], argTypes := #[115, 62] }, type := 185, pos := "action.go:159", after := #[{ on := 0, ground := Ground.data }, { on := 5, ground := Ground.data }], guard := none }) rfl (fun K hK => ?_) AllReadyH.nil
        go_simp
        go_at_call 113
        refine Calls.mono (M1.out _ (hRd.below (bnew _ _)) (hS0.alloc _).2.2.2.1) ?_
        rintro e w1 ⟨⟨za, zb, zc, rfl⟩, ⟨tsx, hr1⟩, hk1⟩
        go_wp2_with fail
        have hSV := (hS0.alloc (.cells #[.int .i64 0, .int .i64 0, .bool false] 184)).call hr1 hk1
        have hrV := hr1
        have hzb := (hk1.block _ (Array.getElem?_eq_some_iff.1 hzb0).1 (by have := hS0.2.2.2.2.1; simp; omega)).trans hzb0
        refine hK.out _ _ hSV (fun hHeld => ?_)
        clear hK K
        refine take_to (i := 7) (d := 10) (v := ?_) rfl rfl (by kernel_rfl) (by kernel_rfl) (by kernel_rfl) (fun _ _ _ h => h) (Or.inl ⟨by rfl, ?_⟩) (by assumption) ?_
        rotate_left 1
        . intro W hSw
          clear hSw
          go_simp
          with_reducible rfl
        simp only [Act.put, List.setIfInBounds_toArray, List.set_cons_zero, List.set_cons_succ]
        refine take_to (i := 8) (d := 18) (v := ?_) rfl rfl (by kernel_rfl) (by kernel_rfl) (by kernel_rfl) (fun _ _ _ h => h) (Or.inl ⟨by rfl, ?_⟩) (by assumption) ?_
        rotate_left 1
        . intro W hSw
          clear hSw
          go_simp
          with_reducible rfl
        simp only [Act.put, List.setIfInBounds_toArray, List.set_cons_zero, List.set_cons_succ]
        refine take_to (i := 9) (d := 19) (v := ?_) rfl rfl (by kernel_rfl) (by kernel_rfl) (by kernel_rfl) (fun _ _ _ h => h) (Or.inl ⟨by rfl, ?_⟩) (by assumption) ?_
        rotate_left 1
        . intro W hSw
          clear hSw
          go_simp
          with_reducible rfl
        simp only [Act.put, List.setIfInBounds_toArray, List.set_cons_zero, List.set_cons_succ]
        obtain ⟨u0, u1, u2, u3⟩ := def_cells hzb
        have uf := fun i => frozen_cR hzb i
        refine wpAnyH_ready (rs := [11]) (by kernel_rfl) (by simp) ?_
        refine AllReadyH.cons (o := { dst := none, op := Op.store 184 (Operand.tmp 5) (Operand.tmp 18), type := 0, pos := "action.go:159", after := #[{ on := 10, ground := Ground.data }, { on := 8, ground := Ground.data }, { on := 6, ground := Ground.chain }, { on := 0, ground := Ground.phase }, { on := 1, ground := Ground.phase }, { on := 2, ground := Ground.phase }, { on := 3, ground := Ground.phase }, { on := 4, ground := Ground.phase }, { on := 5, ground := Ground.phase }, { on := 6, ground := Ground.phase }, { on := 7, ground := Ground.phase }, { on := 8, ground := Ground.phase }, { on := 9, ground := Ground.textOnly Departure.lateStores }, { on := 10, ground := Ground.phase }], guard := none }) rfl (fun K hK => ?_) AllReadyH.nil
        go_simp
        rw [c3_setR _ _ _ _ _ _ _ _ _ hzb]
        have hSF := hSV.row #[.int .i64 za, .int .i64 zb, .bool zc] hgA
        refine hK.out _ _ hSF (fun hHeld => ?_)
        clear hK K
        refine take_to (i := 12) (d := 6) (v := ?_) rfl rfl (by kernel_rfl) (by kernel_rfl) (by kernel_rfl) (fun _ _ _ h => h) (Or.inl ⟨by rfl, ?_⟩) (by assumption) ?_
        rotate_left 1
        . intro W hSw
          clear hSw
          go_simp
          with_reducible rfl
        simp only [Act.put, List.setIfInBounds_toArray, List.set_cons_zero, List.set_cons_succ]
        refine wpAnyH_done (by kernel_rfl) ?_ _
        go_wp2_with fail
        go_meet
        case rel => exact ⟨rfl, hSF.2.2.2.1⟩
    case rest =>
      obtain ⟨rfl, hkc⟩ := hcut
      go_wp2_with fail
      go_ret
      exact ⟨rfl, hkc.mono (by simp)⟩
  | ok a ts1 =>
  rw [h1] at M1 hP
  simp only at hP
  have ha64 := pArg_bd hD.ok.rq hD.ok.q h1
  obtain ⟨fa, sa, wa⟩ := a
  replace ha64 : fa + sa <= 64 /\ 1 <= sa := ha64
  unfold agV at M1
  have M2 : Hid (∀ V, Rt V R (xOf L d) (.slice ao no co) ts1 -> Calls Tryz.prog 58 #[.pointer (some ⟨R, 0, none⟩), .slice (some ⟨V.heap.size, 0, none⟩) 1 1] (V.alloc (.cells #[.string ⟨#[59]⟩] 9)) (PT R (xOf L d) (.slice ao no co) V (fun _ => .nilIface) id (pMks [[59]] ts1))) := hide (fun V h => cMark1 R (xOf L d) (.slice ao no co) ts1 [59] V h)
  cases h2 : pMks [[59]] ts1 with
  | no c t =>
    rw [h2] at M2 hP
    simp only [Res.no.injEq] at hP
    obtain ⟨rfl, rfl⟩ := hP
    go_enter Tryz.func93, Tryz.ntmps93
    go_upto_region 1 with fail
    rw [HZ.out]
    go_cut [5, 6] from 10 (fun s5 s6 wc => ∃ gA : Nat, s5 = .pointer (some ⟨gA, 0, none⟩) /\ s6 = .nilIface /\ Rt wc R (xOf L d) (.slice ao no co) ts1 /\ wc.heap[gA]? = some (.cells #[.int .i64 (fa : Int), .int .i64 (sa : Int), .bool wa] 184) /\ wc.heap[w.heap.size]? = some (.cells #[.pointer (some ⟨R, 0, none⟩)] 115) /\ wc.heap[w.heap.size + 1]? = some (.cells #[.int .i64 (kind : Int), .string ⟨text.toArray⟩, .int .i64 (num : Int), .int .i64 (o0 : Int), .int .i64 (line : Int), .int .i64 (col : Int)] 100) /\ Kb [R] w wc /\ w.heap.size + 2 <= gA)
    case first =>
      refine wp_region_held_drew (S := SR w R (xOf L d) (.slice ao no co) (.cells #[.int .i64 (kind : Int), .string ⟨text.toArray⟩, .int .i64 (num : Int), .int .i64 (o0 : Int), .int .i64 (line : Int), .int .i64 (col : Int)] 100)) (by kernel_rfl) hS0 (fun hHeld => ?_)
      refine take_to (i := 0) (d := 11) (v := ?_) rfl rfl (by kernel_rfl) (by kernel_rfl) (by kernel_rfl) (fun _ _ _ h => h) (Or.inl ⟨by rfl, ?_⟩) (by assumption) ?_
      rotate_left 1
      . intro W hSw
        obtain ⟨⟨tt, hrt⟩, g1, g2, -⟩ := hSw
        obtain ⟨s0, s1, s2, -⟩ := hrt.cells
        have s3 := cell_oneR g1
        have s4 := hrt.lt
        have s5 := (Array.getElem?_eq_some_iff.1 g1).1
        go_simp
        with_reducible rfl
      simp only [Act.put, List.setIfInBounds_toArray, List.set_cons_zero, List.set_cons_succ]
      refine take_to (i := 1) (d := 12) (v := ?_) rfl rfl (by kernel_rfl) (by kernel_rfl) (by kernel_rfl) (fun _ _ _ h => h) (Or.inl ⟨by rfl, ?_⟩) (by assumption) ?_
      rotate_left 1
      . intro W hSw
        obtain ⟨⟨tt, hrt⟩, g1, g2, -⟩ := hSw
        obtain ⟨s0, s1, s2, -⟩ := hrt.cells
        have s3 := cell_oneR g1
        have s4 := hrt.lt
        have s5 := (Array.getElem?_eq_some_iff.1 g1).1
        go_simp
        with_reducible rfl
      simp only [Act.put, List.setIfInBounds_toArray, List.set_cons_zero, List.set_cons_succ]
      refine take_to (i := 2) (d := 13) (v := ?_) rfl rfl (by kernel_rfl) (by kernel_rfl) (by kernel_rfl) (fun _ _ _ h => h) (Or.inl ⟨by rfl, ?_⟩) (by assumption) ?_
      rotate_left 1
      . intro W hSw
        obtain ⟨⟨tt, hrt⟩, g1, g2, -⟩ := hSw
        obtain ⟨s0, s1, s2, -⟩ := hrt.cells
        have s3 := cell_oneR g1
        have s4 := hrt.lt
        have s5 := (Array.getElem?_eq_some_iff.1 g1).1
        go_simp
        with_reducible rfl
      simp only [Act.put, List.setIfInBounds_toArray, List.set_cons_zero, List.set_cons_succ]
      refine take_to (i := 3) (d := 14) (v := ?_) rfl rfl (by kernel_rfl) (by kernel_rfl) (by kernel_rfl) (fun _ _ _ h => h) (Or.inl ⟨by rfl, ?_⟩) (by assumption) ?_
      rotate_left 1
      . intro W hSw
        obtain ⟨⟨tt, hrt⟩, g1, g2, -⟩ := hSw
        obtain ⟨s0, s1, s2, -⟩ := hrt.cells
        have s3 := cell_oneR g1
        have s4 := hrt.lt
        have s5 := (Array.getElem?_eq_some_iff.1 g1).1
        go_simp
        with_reducible rfl
      simp only [Act.put, List.setIfInBounds_toArray, List.set_cons_zero, List.set_cons_succ]
      refine take_to (i := 4) (d := 15) (v := ?_) rfl rfl (by kernel_rfl) (by kernel_rfl) (by kernel_rfl) (fun _ _ _ h => h) (Or.inl ⟨by rfl, ?_⟩) (by assumption) ?_
      rotate_left 1
      . intro W hSw
        obtain ⟨⟨tt, hrt⟩, g1, g2, -⟩ := hSw
        obtain ⟨s0, s1, s2, -⟩ := hrt.cells
        have s3 := cell_oneR g1
        have s4 := hrt.lt
        have s5 := (Array.getElem?_eq_some_iff.1 g1).1
        go_simp
        with_reducible rfl
      simp only [Act.put, List.setIfInBounds_toArray, List.set_cons_zero, List.set_cons_succ]
      refine take_to (i := 5) (d := 16) (v := ?_) rfl rfl (by kernel_rfl) (by kernel_rfl) (by kernel_rfl) (fun _ _ _ h => h) (Or.inl ⟨by rfl, ?_⟩) (by assumption) ?_
      rotate_left 1
      . intro W hSw
        obtain ⟨⟨tt, hrt⟩, g1, g2, -⟩ := hSw
        obtain ⟨s0, s1, s2, -⟩ := hrt.cells
        have s3 := cell_oneR g1
        have s4 := hrt.lt
        have s5 := (Array.getElem?_eq_some_iff.1 g1).1
        go_simp
        with_reducible rfl
      simp only [Act.put, List.setIfInBounds_toArray, List.set_cons_zero, List.set_cons_succ]
      refine wpAnyH_ready (rs := [6, 10]) (by kernel_rfl) (by simp) ?_
      refine AllReadyH.cons (o := { dst := some 17, op := Op.call { callee := Callee.value (Operand.func 113), args := #[Operand.tmp 11, Operand.tmp 16], argTypes := #[115, 62] }, type := 185, pos := "action.go:159", after := #[{ on := 0, ground := Ground.data }, { on := 5, ground := Ground.data }], guard := none }) rfl (fun K hK => ?_) (AllReadyH.cons (o := { dst := some 5, op := Op.alloc 184, type := 0, pos := "action.go:159", after := #[], guard := none }) rfl (fun K hK => ?_) AllReadyH.nil)
      . go_simp
        go_at_call 113
        refine Calls.mono (M1.out _ hRd hS0.2.2.2.1) ?_
        rintro e w1 ⟨rfl, hr1, hk1⟩
        go_wp2_with fail
        have hS1 := hS0.call hr1 hk1
        refine hK.out _ _ hS1 (fun hHeld => ?_)
        clear hK K
        refine take_to (i := 7) (d := 10) (v := ?_) rfl rfl (by kernel_rfl) (by kernel_rfl) (by kernel_rfl) (fun _ _ _ h => h) (Or.inl ⟨by rfl, ?_⟩) (by assumption) ?_
        rotate_left 1
        . intro W hSw
          clear hSw
          go_simp
          with_reducible rfl
        simp only [Act.put, List.setIfInBounds_toArray, List.set_cons_zero, List.set_cons_succ]
        refine take_to (i := 8) (d := 18) (v := ?_) rfl rfl (by kernel_rfl) (by kernel_rfl) (by kernel_rfl) (fun _ _ _ h => h) (Or.inl ⟨by rfl, ?_⟩) (by assumption) ?_
        rotate_left 1
        . intro W hSw
          clear hSw
          go_simp
          with_reducible rfl
        simp only [Act.put, List.setIfInBounds_toArray, List.set_cons_zero, List.set_cons_succ]
        refine take_to (i := 9) (d := 19) (v := ?_) rfl rfl (by kernel_rfl) (by kernel_rfl) (by kernel_rfl) (fun _ _ _ h => h) (Or.inl ⟨by rfl, ?_⟩) (by assumption) ?_
        rotate_left 1
        . intro W hSw
          clear hSw
          go_simp
          with_reducible rfl
        simp only [Act.put, List.setIfInBounds_toArray, List.set_cons_zero, List.set_cons_succ]
        refine wpAnyH_ready (rs := [10]) (by kernel_rfl) (by simp) ?_
        refine AllReadyH.cons (o := { dst := some 5, op := Op.alloc 184, type := 0, pos := "action.go:159", after := #[], guard := none }) rfl (fun K hK => ?_) AllReadyH.nil
        go_simp
        refine hK.out _ _ (hS1.alloc _) (fun hHeld => ?_)
        clear hK K
        try simp only [Act.put, List.setIfInBounds_toArray, List.set_cons_zero, List.set_cons_succ]
        have hzb := heap_alloc_new w1 (.cells #[.int .i64 0, .int .i64 0, .bool false] 184)
        have hSV := hS1.alloc (.cells #[.int .i64 0, .int .i64 0, .bool false] 184)
        have hrV := hr1.below (bnew w1 (.cells #[.int .i64 0, .int .i64 0, .bool false] 184))
        have hgA : w.heap.size + 2 <= w1.heap.size := by have := (Array.getElem?_eq_some_iff.1 hS1.2.2.1).1; omega
        obtain ⟨u0, u1, u2, u3⟩ := def_cells hzb
        have uf := fun i => frozen_cR hzb i
        refine wpAnyH_ready (rs := [11]) (by kernel_rfl) (by simp) ?_
        refine AllReadyH.cons (o := { dst := none, op := Op.store 184 (Operand.tmp 5) (Operand.tmp 18), type := 0, pos := "action.go:159", after := #[{ on := 10, ground := Ground.data }, { on := 8, ground := Ground.data }, { on := 6, ground := Ground.chain }, { on := 0, ground := Ground.phase }, { on := 1, ground := Ground.phase }, { on := 2, ground := Ground.phase }, { on := 3, ground := Ground.phase }, { on := 4, ground := Ground.phase }, { on := 5, ground := Ground.phase }, { on := 6, ground := Ground.phase }, { on := 7, ground := Ground.phase }, { on := 8, ground := Ground.phase }, { on := 9, ground := Ground.textOnly Departure.lateStores }, { on := 10, ground := Ground.phase }], guard := none }) rfl (fun K hK => ?_) AllReadyH.nil
        go_simp
        have hSF := hS1.alloc (.cells #[.int .i64 (fa : Int), .int .i64 (sa : Int), .bool wa] 184)
        refine hK.out _ _ hSF (fun hHeld => ?_)
        clear hK K
        refine take_to (i := 12) (d := 6) (v := ?_) rfl rfl (by kernel_rfl) (by kernel_rfl) (by kernel_rfl) (fun _ _ _ h => h) (Or.inl ⟨by rfl, ?_⟩) (by assumption) ?_
        rotate_left 1
        . intro W hSw
          clear hSw
          go_simp
          with_reducible rfl
        simp only [Act.put, List.setIfInBounds_toArray, List.set_cons_zero, List.set_cons_succ]
        refine wpAnyH_done (by kernel_rfl) ?_ _
        go_wp2_with fail
        go_meet
        case rel => exact ⟨_, rfl, rfl, hr1.below (bnew _ _), heap_alloc_new _ _, hSF.2.1, hSF.2.2.1, hSF.2.2.2.1, hgA⟩
      . go_simp
        refine hK.out _ _ (hS0.alloc _) (fun hHeld => ?_)
        clear hK K
        try simp only [Act.put, List.setIfInBounds_toArray, List.set_cons_zero, List.set_cons_succ]
        have hgA : w.heap.size + 2 <= W0.heap.size := by have : w.heap.size + 1 < W0.heap.size := (Array.getElem?_eq_some_iff.1 hS0.2.2.1).1; omega
        have hzb0 : (W0.drew.alloc (.cells #[.int .i64 0, .int .i64 0, .bool false] 184)).heap[W0.heap.size]? = some (.cells #[.int .i64 0, .int .i64 0, .bool false] 184) := heap_alloc_new W0.drew (.cells #[.int .i64 0, .int .i64 0, .bool false] 184)
        refine wpAnyH_ready (rs := [6]) (by kernel_rfl) (by simp) ?_
        refine AllReadyH.cons (o := { dst := some 17, op := Op.call { callee := Callee.value (Operand.func 113), args := #[Operand.tmp 11, Operand.tmp 16], argTypes := #[115, 62] }, type := 185, pos := "action.go:159", after := #[{ on := 0, ground := Ground.data }, { on := 5, ground := Ground.data }], guard := none }) rfl (fun K hK => ?_) AllReadyH.nil
        go_simp
        go_at_call 113
        refine Calls.mono (M1.out _ (hRd.below (bnew _ _)) (hS0.alloc _).2.2.2.1) ?_
        rintro e w1 ⟨rfl, hr1, hk1⟩
        go_wp2_with fail
        have hSV := (hS0.alloc (.cells #[.int .i64 0, .int .i64 0, .bool false] 184)).call hr1 hk1
        have hrV := hr1
        have hzb := (hk1.block _ (Array.getElem?_eq_some_iff.1 hzb0).1 (by have := hS0.2.2.2.2.1; simp; omega)).trans hzb0
        refine hK.out _ _ hSV (fun hHeld => ?_)
        clear hK K
        refine take_to (i := 7) (d := 10) (v := ?_) rfl rfl (by kernel_rfl) (by kernel_rfl) (by kernel_rfl) (fun _ _ _ h => h) (Or.inl ⟨by rfl, ?_⟩) (by assumption) ?_
        rotate_left 1
        . intro W hSw
          clear hSw
          go_simp
          with_reducible rfl
        simp only [Act.put, List.setIfInBounds_toArray, List.set_cons_zero, List.set_cons_succ]
        refine take_to (i := 8) (d := 18) (v := ?_) rfl rfl (by kernel_rfl) (by kernel_rfl) (by kernel_rfl) (fun _ _ _ h => h) (Or.inl ⟨by rfl, ?_⟩) (by assumption) ?_
        rotate_left 1
        . intro W hSw
          clear hSw
          go_simp
          with_reducible rfl
        simp only [Act.put, List.setIfInBounds_toArray, List.set_cons_zero, List.set_cons_succ]
        refine take_to (i := 9) (d := 19) (v := ?_) rfl rfl (by kernel_rfl) (by kernel_rfl) (by kernel_rfl) (fun _ _ _ h => h) (Or.inl ⟨by rfl, ?_⟩) (by assumption) ?_
        rotate_left 1
        . intro W hSw
          clear hSw
          go_simp
          with_reducible rfl
        simp only [Act.put, List.setIfInBounds_toArray, List.set_cons_zero, List.set_cons_succ]
        obtain ⟨u0, u1, u2, u3⟩ := def_cells hzb
        have uf := fun i => frozen_cR hzb i
        refine wpAnyH_ready (rs := [11]) (by kernel_rfl) (by simp) ?_
        refine AllReadyH.cons (o := { dst := none, op := Op.store 184 (Operand.tmp 5) (Operand.tmp 18), type := 0, pos := "action.go:159", after := #[{ on := 10, ground := Ground.data }, { on := 8, ground := Ground.data }, { on := 6, ground := Ground.chain }, { on := 0, ground := Ground.phase }, { on := 1, ground := Ground.phase }, { on := 2, ground := Ground.phase }, { on := 3, ground := Ground.phase }, { on := 4, ground := Ground.phase }, { on := 5, ground := Ground.phase }, { on := 6, ground := Ground.phase }, { on := 7, ground := Ground.phase }, { on := 8, ground := Ground.phase }, { on := 9, ground := Ground.textOnly Departure.lateStores }, { on := 10, ground := Ground.phase }], guard := none }) rfl (fun K hK => ?_) AllReadyH.nil
        go_simp
        rw [c3_setR _ _ _ _ _ _ _ _ _ hzb]
        have hSF := hSV.row #[.int .i64 (fa : Int), .int .i64 (sa : Int), .bool wa] hgA
        refine hK.out _ _ hSF (fun hHeld => ?_)
        clear hK K
        refine take_to (i := 12) (d := 6) (v := ?_) rfl rfl (by kernel_rfl) (by kernel_rfl) (by kernel_rfl) (fun _ _ _ h => h) (Or.inl ⟨by rfl, ?_⟩) (by assumption) ?_
        rotate_left 1
        . intro W hSw
          clear hSw
          go_simp
          with_reducible rfl
        simp only [Act.put, List.setIfInBounds_toArray, List.set_cons_zero, List.set_cons_succ]
        refine wpAnyH_done (by kernel_rfl) ?_ _
        go_wp2_with fail
        go_meet
        case rel => exact ⟨_, rfl, rfl, hrV.row _ _ (by have := hSV.2.2.2.2.1; omega) (by have := hSV.2.2.2.2.2; omega), setRow_heap _ _ _ _ _ _ hzb, hSF.2.1, hSF.2.2.1, hSF.2.2.2.1, hgA⟩
    case rest =>
      obtain ⟨gA, rfl, rfl, hr1, hcA, hrb, htb, hkc, hgA⟩ := hcut
      have q0 := cell_oneR hrb
      have q1 := (Array.getElem?_eq_some_iff.1 hrb).1
      go_wp2_with (go_at_call 58; (with_reducible refine Calls.mono (M2.out wc hr1) ?_);  rintro e w2 ⟨rfl, hn2, hk2⟩)
      go_ret
      exact ⟨rfl, (hkc.trans hk2).mono (by simp)⟩
  | ok u2 ts2 =>
  rw [h2] at M2 hP
  simp only at hP
  have hno2 : no <= 4096 := by rw [HLN.out]; exact hno
  by_cases h6 : 4096 < ops.length + sa
  . rw [if_pos h6] at hP
    simp only [Res.no.injEq] at hP
    obtain ⟨rfl, rfl⟩ := hP
    have H5 : Hid (4096 < no + sa) := hide (by rw [HLN.out]; exact h6)
    go_enter Tryz.func93, Tryz.ntmps93
    go_upto_region 1 with fail
    rw [HZ.out]
    go_cut [5, 6] from 10 (fun s5 s6 wc => ∃ gA : Nat, s5 = .pointer (some ⟨gA, 0, none⟩) /\ s6 = .nilIface /\ Rt wc R (xOf L d) (.slice ao no co) ts1 /\ wc.heap[gA]? = some (.cells #[.int .i64 (fa : Int), .int .i64 (sa : Int), .bool wa] 184) /\ wc.heap[w.heap.size]? = some (.cells #[.pointer (some ⟨R, 0, none⟩)] 115) /\ wc.heap[w.heap.size + 1]? = some (.cells #[.int .i64 (kind : Int), .string ⟨text.toArray⟩, .int .i64 (num : Int), .int .i64 (o0 : Int), .int .i64 (line : Int), .int .i64 (col : Int)] 100) /\ Kb [R] w wc /\ w.heap.size + 2 <= gA)
    case first =>
      refine wp_region_held_drew (S := SR w R (xOf L d) (.slice ao no co) (.cells #[.int .i64 (kind : Int), .string ⟨text.toArray⟩, .int .i64 (num : Int), .int .i64 (o0 : Int), .int .i64 (line : Int), .int .i64 (col : Int)] 100)) (by kernel_rfl) hS0 (fun hHeld => ?_)
      refine take_to (i := 0) (d := 11) (v := ?_) rfl rfl (by kernel_rfl) (by kernel_rfl) (by kernel_rfl) (fun _ _ _ h => h) (Or.inl ⟨by rfl, ?_⟩) (by assumption) ?_
      rotate_left 1
      . intro W hSw
        obtain ⟨⟨tt, hrt⟩, g1, g2, -⟩ := hSw
        obtain ⟨s0, s1, s2, -⟩ := hrt.cells
        have s3 := cell_oneR g1
        have s4 := hrt.lt
        have s5 := (Array.getElem?_eq_some_iff.1 g1).1
        go_simp
        with_reducible rfl
      simp only [Act.put, List.setIfInBounds_toArray, List.set_cons_zero, List.set_cons_succ]
      refine take_to (i := 1) (d := 12) (v := ?_) rfl rfl (by kernel_rfl) (by kernel_rfl) (by kernel_rfl) (fun _ _ _ h => h) (Or.inl ⟨by rfl, ?_⟩) (by assumption) ?_
      rotate_left 1
      . intro W hSw
        obtain ⟨⟨tt, hrt⟩, g1, g2, -⟩ := hSw
        obtain ⟨s0, s1, s2, -⟩ := hrt.cells
        have s3 := cell_oneR g1
        have s4 := hrt.lt
        have s5 := (Array.getElem?_eq_some_iff.1 g1).1
        go_simp
        with_reducible rfl
      simp only [Act.put, List.setIfInBounds_toArray, List.set_cons_zero, List.set_cons_succ]
      refine take_to (i := 2) (d := 13) (v := ?_) rfl rfl (by kernel_rfl) (by kernel_rfl) (by kernel_rfl) (fun _ _ _ h => h) (Or.inl ⟨by rfl, ?_⟩) (by assumption) ?_
      rotate_left 1
      . intro W hSw
        obtain ⟨⟨tt, hrt⟩, g1, g2, -⟩ := hSw
        obtain ⟨s0, s1, s2, -⟩ := hrt.cells
        have s3 := cell_oneR g1
        have s4 := hrt.lt
        have s5 := (Array.getElem?_eq_some_iff.1 g1).1
        go_simp
        with_reducible rfl
      simp only [Act.put, List.setIfInBounds_toArray, List.set_cons_zero, List.set_cons_succ]
      refine take_to (i := 3) (d := 14) (v := ?_) rfl rfl (by kernel_rfl) (by kernel_rfl) (by kernel_rfl) (fun _ _ _ h => h) (Or.inl ⟨by rfl, ?_⟩) (by assumption) ?_
      rotate_left 1
      . intro W hSw
        obtain ⟨⟨tt, hrt⟩, g1, g2, -⟩ := hSw
        obtain ⟨s0, s1, s2, -⟩ := hrt.cells
        have s3 := cell_oneR g1
        have s4 := hrt.lt
        have s5 := (Array.getElem?_eq_some_iff.1 g1).1
        go_simp
        with_reducible rfl
      simp only [Act.put, List.setIfInBounds_toArray, List.set_cons_zero, List.set_cons_succ]
      refine take_to (i := 4) (d := 15) (v := ?_) rfl rfl (by kernel_rfl) (by kernel_rfl) (by kernel_rfl) (fun _ _ _ h => h) (Or.inl ⟨by rfl, ?_⟩) (by assumption) ?_
      rotate_left 1
      . intro W hSw
        obtain ⟨⟨tt, hrt⟩, g1, g2, -⟩ := hSw
        obtain ⟨s0, s1, s2, -⟩ := hrt.cells
        have s3 := cell_oneR g1
        have s4 := hrt.lt
        have s5 := (Array.getElem?_eq_some_iff.1 g1).1
        go_simp
        with_reducible rfl
      simp only [Act.put, List.setIfInBounds_toArray, List.set_cons_zero, List.set_cons_succ]
      refine take_to (i := 5) (d := 16) (v := ?_) rfl rfl (by kernel_rfl) (by kernel_rfl) (by kernel_rfl) (fun _ _ _ h => h) (Or.inl ⟨by rfl, ?_⟩) (by assumption) ?_
      rotate_left 1
      . intro W hSw
        obtain ⟨⟨tt, hrt⟩, g1, g2, -⟩ := hSw
        obtain ⟨s0, s1, s2, -⟩ := hrt.cells
        have s3 := cell_oneR g1
        have s4 := hrt.lt
        have s5 := (Array.getElem?_eq_some_iff.1 g1).1
        go_simp
        with_reducible rfl
      simp only [Act.put, List.setIfInBounds_toArray, List.set_cons_zero, List.set_cons_succ]
      refine wpAnyH_ready (rs := [6, 10]) (by kernel_rfl) (by simp) ?_
      refine AllReadyH.cons (o := { dst := some 17, op := Op.call { callee := Callee.value (Operand.func 113), args := #[Operand.tmp 11, Operand.tmp 16], argTypes := #[115, 62] }, type := 185, pos := "action.go:159", after := #[{ on := 0, ground := Ground.data }, { on := 5, ground := Ground.data }], guard := none }) rfl (fun K hK => ?_) (AllReadyH.cons (o := { dst := some 5, op := Op.alloc 184, type := 0, pos := "action.go:159", after := #[], guard := none }) rfl (fun K hK => ?_) AllReadyH.nil)
      . go_simp
        go_at_call 113
        refine Calls.mono (M1.out _ hRd hS0.2.2.2.1) ?_
        rintro e w1 ⟨rfl, hr1, hk1⟩
        go_wp2_with fail
        have hS1 := hS0.call hr1 hk1
        refine hK.out _ _ hS1 (fun hHeld => ?_)
        clear hK K
        refine take_to (i := 7) (d := 10) (v := ?_) rfl rfl (by kernel_rfl) (by kernel_rfl) (by kernel_rfl) (fun _ _ _ h => h) (Or.inl ⟨by rfl, ?_⟩) (by assumption) ?_
        rotate_left 1
        . intro W hSw
          clear hSw
          go_simp
          with_reducible rfl
        simp only [Act.put, List.setIfInBounds_toArray, List.set_cons_zero, List.set_cons_succ]
        refine take_to (i := 8) (d := 18) (v := ?_) rfl rfl (by kernel_rfl) (by kernel_rfl) (by kernel_rfl) (fun _ _ _ h => h) (Or.inl ⟨by rfl, ?_⟩) (by assumption) ?_
        rotate_left 1
        . intro W hSw
          clear hSw
          go_simp
          with_reducible rfl
        simp only [Act.put, List.setIfInBounds_toArray, List.set_cons_zero, List.set_cons_succ]
        refine take_to (i := 9) (d := 19) (v := ?_) rfl rfl (by kernel_rfl) (by kernel_rfl) (by kernel_rfl) (fun _ _ _ h => h) (Or.inl ⟨by rfl, ?_⟩) (by assumption) ?_
        rotate_left 1
        . intro W hSw
          clear hSw
          go_simp
          with_reducible rfl
        simp only [Act.put, List.setIfInBounds_toArray, List.set_cons_zero, List.set_cons_succ]
        refine wpAnyH_ready (rs := [10]) (by kernel_rfl) (by simp) ?_
        refine AllReadyH.cons (o := { dst := some 5, op := Op.alloc 184, type := 0, pos := "action.go:159", after := #[], guard := none }) rfl (fun K hK => ?_) AllReadyH.nil
        go_simp
        refine hK.out _ _ (hS1.alloc _) (fun hHeld => ?_)
        clear hK K
        try simp only [Act.put, List.setIfInBounds_toArray, List.set_cons_zero, List.set_cons_succ]
        have hzb := heap_alloc_new w1 (.cells #[.int .i64 0, .int .i64 0, .bool false] 184)
        have hSV := hS1.alloc (.cells #[.int .i64 0, .int .i64 0, .bool false] 184)
        have hrV := hr1.below (bnew w1 (.cells #[.int .i64 0, .int .i64 0, .bool false] 184))
        have hgA : w.heap.size + 2 <= w1.heap.size := by have := (Array.getElem?_eq_some_iff.1 hS1.2.2.1).1; omega
        obtain ⟨u0, u1, u2, u3⟩ := def_cells hzb
        have uf := fun i => frozen_cR hzb i
        refine wpAnyH_ready (rs := [11]) (by kernel_rfl) (by simp) ?_
        refine AllReadyH.cons (o := { dst := none, op := Op.store 184 (Operand.tmp 5) (Operand.tmp 18), type := 0, pos := "action.go:159", after := #[{ on := 10, ground := Ground.data }, { on := 8, ground := Ground.data }, { on := 6, ground := Ground.chain }, { on := 0, ground := Ground.phase }, { on := 1, ground := Ground.phase }, { on := 2, ground := Ground.phase }, { on := 3, ground := Ground.phase }, { on := 4, ground := Ground.phase }, { on := 5, ground := Ground.phase }, { on := 6, ground := Ground.phase }, { on := 7, ground := Ground.phase }, { on := 8, ground := Ground.phase }, { on := 9, ground := Ground.textOnly Departure.lateStores }, { on := 10, ground := Ground.phase }], guard := none }) rfl (fun K hK => ?_) AllReadyH.nil
        go_simp
        have hSF := hS1.alloc (.cells #[.int .i64 (fa : Int), .int .i64 (sa : Int), .bool wa] 184)
        refine hK.out _ _ hSF (fun hHeld => ?_)
        clear hK K
        refine take_to (i := 12) (d := 6) (v := ?_) rfl rfl (by kernel_rfl) (by kernel_rfl) (by kernel_rfl) (fun _ _ _ h => h) (Or.inl ⟨by rfl, ?_⟩) (by assumption) ?_
        rotate_left 1
        . intro W hSw
          clear hSw
          go_simp
          with_reducible rfl
        simp only [Act.put, List.setIfInBounds_toArray, List.set_cons_zero, List.set_cons_succ]
        refine wpAnyH_done (by kernel_rfl) ?_ _
        go_wp2_with fail
        go_meet
        case rel => exact ⟨_, rfl, rfl, hr1.below (bnew _ _), heap_alloc_new _ _, hSF.2.1, hSF.2.2.1, hSF.2.2.2.1, hgA⟩
      . go_simp
        refine hK.out _ _ (hS0.alloc _) (fun hHeld => ?_)
        clear hK K
        try simp only [Act.put, List.setIfInBounds_toArray, List.set_cons_zero, List.set_cons_succ]
        have hgA : w.heap.size + 2 <= W0.heap.size := by have : w.heap.size + 1 < W0.heap.size := (Array.getElem?_eq_some_iff.1 hS0.2.2.1).1; omega
        have hzb0 : (W0.drew.alloc (.cells #[.int .i64 0, .int .i64 0, .bool false] 184)).heap[W0.heap.size]? = some (.cells #[.int .i64 0, .int .i64 0, .bool false] 184) := heap_alloc_new W0.drew (.cells #[.int .i64 0, .int .i64 0, .bool false] 184)
        refine wpAnyH_ready (rs := [6]) (by kernel_rfl) (by simp) ?_
        refine AllReadyH.cons (o := { dst := some 17, op := Op.call { callee := Callee.value (Operand.func 113), args := #[Operand.tmp 11, Operand.tmp 16], argTypes := #[115, 62] }, type := 185, pos := "action.go:159", after := #[{ on := 0, ground := Ground.data }, { on := 5, ground := Ground.data }], guard := none }) rfl (fun K hK => ?_) AllReadyH.nil
        go_simp
        go_at_call 113
        refine Calls.mono (M1.out _ (hRd.below (bnew _ _)) (hS0.alloc _).2.2.2.1) ?_
        rintro e w1 ⟨rfl, hr1, hk1⟩
        go_wp2_with fail
        have hSV := (hS0.alloc (.cells #[.int .i64 0, .int .i64 0, .bool false] 184)).call hr1 hk1
        have hrV := hr1
        have hzb := (hk1.block _ (Array.getElem?_eq_some_iff.1 hzb0).1 (by have := hS0.2.2.2.2.1; simp; omega)).trans hzb0
        refine hK.out _ _ hSV (fun hHeld => ?_)
        clear hK K
        refine take_to (i := 7) (d := 10) (v := ?_) rfl rfl (by kernel_rfl) (by kernel_rfl) (by kernel_rfl) (fun _ _ _ h => h) (Or.inl ⟨by rfl, ?_⟩) (by assumption) ?_
        rotate_left 1
        . intro W hSw
          clear hSw
          go_simp
          with_reducible rfl
        simp only [Act.put, List.setIfInBounds_toArray, List.set_cons_zero, List.set_cons_succ]
        refine take_to (i := 8) (d := 18) (v := ?_) rfl rfl (by kernel_rfl) (by kernel_rfl) (by kernel_rfl) (fun _ _ _ h => h) (Or.inl ⟨by rfl, ?_⟩) (by assumption) ?_
        rotate_left 1
        . intro W hSw
          clear hSw
          go_simp
          with_reducible rfl
        simp only [Act.put, List.setIfInBounds_toArray, List.set_cons_zero, List.set_cons_succ]
        refine take_to (i := 9) (d := 19) (v := ?_) rfl rfl (by kernel_rfl) (by kernel_rfl) (by kernel_rfl) (fun _ _ _ h => h) (Or.inl ⟨by rfl, ?_⟩) (by assumption) ?_
        rotate_left 1
        . intro W hSw
          clear hSw
          go_simp
          with_reducible rfl
        simp only [Act.put, List.setIfInBounds_toArray, List.set_cons_zero, List.set_cons_succ]
        obtain ⟨u0, u1, u2, u3⟩ := def_cells hzb
        have uf := fun i => frozen_cR hzb i
        refine wpAnyH_ready (rs := [11]) (by kernel_rfl) (by simp) ?_
        refine AllReadyH.cons (o := { dst := none, op := Op.store 184 (Operand.tmp 5) (Operand.tmp 18), type := 0, pos := "action.go:159", after := #[{ on := 10, ground := Ground.data }, { on := 8, ground := Ground.data }, { on := 6, ground := Ground.chain }, { on := 0, ground := Ground.phase }, { on := 1, ground := Ground.phase }, { on := 2, ground := Ground.phase }, { on := 3, ground := Ground.phase }, { on := 4, ground := Ground.phase }, { on := 5, ground := Ground.phase }, { on := 6, ground := Ground.phase }, { on := 7, ground := Ground.phase }, { on := 8, ground := Ground.phase }, { on := 9, ground := Ground.textOnly Departure.lateStores }, { on := 10, ground := Ground.phase }], guard := none }) rfl (fun K hK => ?_) AllReadyH.nil
        go_simp
        rw [c3_setR _ _ _ _ _ _ _ _ _ hzb]
        have hSF := hSV.row #[.int .i64 (fa : Int), .int .i64 (sa : Int), .bool wa] hgA
        refine hK.out _ _ hSF (fun hHeld => ?_)
        clear hK K
        refine take_to (i := 12) (d := 6) (v := ?_) rfl rfl (by kernel_rfl) (by kernel_rfl) (by kernel_rfl) (fun _ _ _ h => h) (Or.inl ⟨by rfl, ?_⟩) (by assumption) ?_
        rotate_left 1
        . intro W hSw
          clear hSw
          go_simp
          with_reducible rfl
        simp only [Act.put, List.setIfInBounds_toArray, List.set_cons_zero, List.set_cons_succ]
        refine wpAnyH_done (by kernel_rfl) ?_ _
        go_wp2_with fail
        go_meet
        case rel => exact ⟨_, rfl, rfl, hrV.row _ _ (by have := hSV.2.2.2.2.1; omega) (by have := hSV.2.2.2.2.2; omega), setRow_heap _ _ _ _ _ _ hzb, hSF.2.1, hSF.2.2.1, hSF.2.2.2.1, hgA⟩
    case rest =>
      obtain ⟨gA, rfl, rfl, hr1, hcA, hrb, htb, hkc, hgA⟩ := hcut
      have q0 := cell_oneR hrb
      have q1 := (Array.getElem?_eq_some_iff.1 hrb).1
      go_wp2_with (first
        | (go_at_call 58; (with_reducible refine Calls.mono (M2.out wc hr1) ?_);  rintro e w2 ⟨rfl, hr2, hk2⟩; have hb2 : ∀ b o, b ≠ R -> wc.heap[b]? = some o -> w2.heap[b]? = some o := fun b o hn h => (hk2.block b (Array.getElem?_eq_some_iff.1 h).1 (by simpa using hn)).trans h; have q2 := cell_oneR (hb2 _ _ (by omega) hrb); obtain ⟨x0, x1, x2, x3⟩ := def_cells (hb2 _ _ (by omega) hcA); obtain ⟨y0, y1, y2, y3, y4, y5, y6⟩ := tok_cells (hb2 _ _ (by omega) htb); have q3 := (Array.getElem?_eq_some_iff.1 (hb2 _ _ (by omega) hrb)).1; clear hb2)
        | (go_at_call 114; refine (c4 w2 ts2 sa (by omega) hr2).mono ?_; rw [if_pos H5.out]; rintro e w6 ⟨rfl, hb6⟩))
      go_ret
      exact ⟨rfl, ((hkc.trans hk2).then_below hb6).mono (by simp)⟩
  . rw [if_neg h6] at hP
    cases hP
attribute [local go_sem] Oper.semAt_some
theorem wp_calm {P : Program} {c : Code} {Q : Exit -> Act -> World -> Prop} {a : Act} {w : World} (h : c.wp P (fun e a w => e = .normal /\ Q .normal a w) a w) : c.wp P Q a w := wp_mono h (by rintro e a w ⟨rfl, h⟩; exact h)
def rsX (x : N64) : COp := ⟨3, 0, [(x.1 : Int)], 0, -1, 0⟩
def RI (w w0 : World) (R : Nat) (L : Ly) (d : Dc) (ao : Option Addr) (ops : List COp) (ts2 : List T) (w6 : World) (pre : List N64) (W : World) : Prop := ∃ (ao' : Option Addr) (n' c' : Nat), Rt W R (xOf L d) (.slice ao' n' c') ts2 /\ OpsAt W w0.heap.size ao' n' c' (ops ++ pre.map rsX) /\ Kb (R :: (ob ao).toList) w6 W /\ (∀ b, ob ao' = some b -> ob ao = some b ∨ w6.heap.size <= b) /\ W.heap[w.heap.size]? = some (.cells #[.pointer (some ⟨R, 0, none⟩)] 115)
theorem RI.own {w w0 : World} {R : Nat} {L : Ly} {d : Dc} {ao : Option Addr} {ops : List COp} {ts2 : List T} {w6 : World} {o : Obj} (hlt : R < w.heap.size) (hbt : (xOf L d).bt < w.heap.size) (hsz : w.heap.size <= w6.heap.size) : OwnFrom (w6.alloc o).heap.size (RI w w0 R L d ao ops ts2 w6) := by
  rintro s A A' row ⟨ao', n', c', h1, h2, h3, h4, h5⟩ hg hr
  have hne : ∀ b, b <= w.heap.size -> some b ≠ row := fun b hb e => by
    have := (hr b e.symm).1
    simp only [World.size_alloc] at this
    omega
  have hk : Kb row.toList A A' := ⟨hg.os, hg.tape, hg.output, hg.size, fun b hb hn => hg.block b hb (fun e => hn (by simp [← e]))⟩
  refine ⟨ao', n', c', h1.kept (hg.block R h1.lt (hne R (by omega))) (hg.block _ h1.bt (hne _ (by omega))), h2.keptM hk (fun m hm cs t fr hc => ?_), h3.grown hg (fun b hb => ?_), h4, (hg.block _ (Array.getElem?_eq_some_iff.1 h5).1 (hne _ (Nat.le_refl _))).trans h5⟩
  . have e : row = some m := by simpa using hm
    obtain ⟨-, ob', ho, hcl⟩ := hr m e
    rw [hc] at ho
    cases ho
    cases hcl
  . have := (hr b hb).1
    simp only [World.size_alloc] at this
    exact .inr (by omega)
def SBR (w : World) (R : Nat) (o : Value) (V : World) : Prop := V.cell? ⟨R, 8, none⟩ = some o /\ V.heap[w.heap.size]? = some (.cells #[.pointer (some ⟨R, 0, none⟩)] 115) /\ R < V.heap.size
theorem SBR.alloc {w : World} {R : Nat} {o : Value} {V : World} (h : SBR w R o V) (b : Obj) : SBR w R o (V.alloc b) := ⟨(World.cell?_of_block (w := V) (Below.heap_alloc _ _ _ h.2.2)).trans h.1, (Below.heap_alloc _ _ _ (Array.getElem?_eq_some_iff.1 h.2.1).1).trans h.2.1, by simp; have := h.2.2; omega⟩
theorem eachP_bd (a : Ag) (h : a.fr + a.sz <= 64) : ∀ i ∈ eachP a, i < 4611686018427387903 := by
  intro i hi
  unfold eachP at hi
  obtain ⟨k, hk, rfl⟩ := List.mem_map.1 hi
  rw [List.mem_range] at hk
  unfold atP
  split <;> omega
theorem cReset_ok (w0 : World) (R : Nat) (L : Ly) (B N : Nat) (d : Dc) (ao : Option Addr) (no co : Nat) (ops : List COp) (t : T) (ts : List T) (w : World) (hC : Cx w0 w R L B N d ao no co ops ts) (o' : List COp) (ts' : List T) (hP : pReset d ops t ts = .ok o' ts') : Calls Tryz.prog 93 #[.pointer (some ⟨R, 0, none⟩), tkV t] w (PC R L d w0.heap.size ao w (.ok o' ts')) := by
  obtain ⟨hD, hR, hO, hno⟩ := hC
  have hlt := hR.lt
  have eG := erG
  have eN := erN
  have HD := hide hD
  have HR := hide hR
  have HO := hide hO
  have HLN := hide hO.len
  have c4 := fun (V : World) (ts2 : List T) (n : Nat) (hn : no + n <= 4611686018427387904) (hr : Rt V R (xOf L d) (.slice ao no co) ts2) => cRoom R L d ao no co n t ts2 hn V hr
  unfold pReset at hP
  obtain ⟨kind, text, num, o0, line, col⟩ := t
  unfold tkV at c4 ⊢
  simp only at c4 ⊢
  have hS0 : SR w R (xOf L d) (.slice ao no co) (.cells #[.int .i64 (kind : Int), .string ⟨text.toArray⟩, .int .i64 (num : Int), .int .i64 (o0 : Int), .int .i64 (line : Int), .int .i64 (col : Int)] 100) ((w.alloc (.cells #[.pointer (some ⟨R, 0, none⟩)] 115)).alloc (.cells #[.int .i64 (kind : Int), .string ⟨text.toArray⟩, .int .i64 (num : Int), .int .i64 (o0 : Int), .int .i64 (line : Int), .int .i64 (col : Int)] 100)).drew := ⟨⟨ts, ((hR.below (bnew _ _)).below (bnew _ _)).below (Below.refl _ _).drew⟩, (Below.heap_alloc _ _ _ (by simp)).trans (heap_alloc_new _ _), (by have h := heap_alloc_new (w.alloc (.cells #[.pointer (some ⟨R, 0, none⟩)] 115)) (.cells #[.int .i64 (kind : Int), .string ⟨text.toArray⟩, .int .i64 (num : Int), .int .i64 (o0 : Int), .int .i64 (line : Int), .int .i64 (col : Int)] 100); rw [World.size_alloc] at h; exact h), Kb.of_below (((bnew _ _).trans ((bnew _ _).mono (by simp))).drew), hlt, hR.bt⟩
  have hRd : Rt ((w.alloc (.cells #[.pointer (some ⟨R, 0, none⟩)] 115)).alloc (.cells #[.int .i64 (kind : Int), .string ⟨text.toArray⟩, .int .i64 (num : Int), .int .i64 (o0 : Int), .int .i64 (line : Int), .int .i64 (col : Int)] 100)).drew R (xOf L d) (.slice ao no co) ts := ((hR.below (bnew _ _)).below (bnew _ _)).below (Below.refl _ _).drew
  generalize hW0 : ((w.alloc (.cells #[.pointer (some ⟨R, 0, none⟩)] 115)).alloc (.cells #[.int .i64 (kind : Int), .string ⟨text.toArray⟩, .int .i64 (num : Int), .int .i64 (o0 : Int), .int .i64 (line : Int), .int .i64 (col : Int)] 100)) = W0 at hS0 hRd
  have HZ := hide hW0
  have M1 : Hid (∀ V, Rt V R (xOf L d) (.slice ao no co) ts -> Kb [R] w V -> Calls Tryz.prog 113 #[.pointer (some ⟨R, 0, none⟩), .agg #[.map (some L.mq), .int .i64 (d.q.size : Int), .int .i64 64]] V (PX R (xOf L d) (.slice ao no co) V (fun a => .tuple #[agV a, .nilIface]) bdA (pArg d.q ts))) := hide (fun V h hk => cArg R (xOf L d) (.slice ao no co) ts L.mq (d.q.size : Int) 64 d.q (fun y r hf => Nat.le_trans (HD.out.ok.rq y r hf).2 HD.out.ok.q) V h (by
    obtain ⟨⟨v, hb, _⟩, _⟩ := id h
    unfold rbO at hb
    exact (HD.out.turn HR.out hk).mq.ne hb) (HD.out.turn HR.out hk).mq.rm)
  clear hW0 hO hR
  cases h1 : pArg d.q ts with
  | no c t => rw [h1] at hP; cases hP
  | ok a ts1 =>
  rw [h1] at M1 hP
  simp only at hP
  have ha64 := pArg_bd hD.ok.rq hD.ok.q h1
  obtain ⟨fa, sa, wa⟩ := a
  replace ha64 : fa + sa <= 64 /\ 1 <= sa := ha64
  unfold agV at M1
  have M2 : Hid (∀ V, Rt V R (xOf L d) (.slice ao no co) ts1 -> Calls Tryz.prog 58 #[.pointer (some ⟨R, 0, none⟩), .slice (some ⟨V.heap.size, 0, none⟩) 1 1] (V.alloc (.cells #[.string ⟨#[59]⟩] 9)) (PT R (xOf L d) (.slice ao no co) V (fun _ => .nilIface) id (pMks [[59]] ts1))) := hide (fun V h => cMark1 R (xOf L d) (.slice ao no co) ts1 [59] V h)
  cases h2 : pMks [[59]] ts1 with
  | no c t => rw [h2] at hP; cases hP
  | ok u2 ts2 =>
  rw [h2] at M2 hP
  simp only at hP
  have hno2 : no <= 4096 := by rw [HLN.out]; exact hno
  by_cases h6 : 4096 < ops.length + sa
  . rw [if_pos h6] at hP; cases hP
  rw [if_neg h6] at hP
  simp only [Res.ok.injEq] at hP
  obtain ⟨rfl, rfl⟩ := hP
  have H5 : Hid (¬ 4096 < no + sa) := hide (by rw [HLN.out]; exact h6)
  have H6 := hide h6
  have HXS := hide (nx_id (eachP ⟨fa, sa, wa⟩) (eachP_bd _ ha64.1))
  have hbt : (xOf L d).bt < w.heap.size := hS0.2.2.2.2.2
  refine (callsIn_wide (n := 3)).1 ?_
  refine callsIn_of_wp_marks Tryz.func93 rfl trivial ?_ rfl
  simp only [Tryz.ntmps93, List.size_toArray, List.length_cons, List.length_nil, Nat.reduceAdd, Nat.reduceSub, Array.replicate_succ, Array.replicate_zero, List.push_toArray, List.append_toArray, List.nil_append, List.cons_append]
  refine wpIn_wide.2 ?_
  clear h6
  go_upto_region 1 with fail
  rw [HZ.out]
  go_cut [5, 6] from 10 (fun s5 s6 wc => ∃ gA : Nat, s5 = .pointer (some ⟨gA, 0, none⟩) /\ s6 = .nilIface /\ Rt wc R (xOf L d) (.slice ao no co) ts1 /\ wc.heap[gA]? = some (.cells #[.int .i64 (fa : Int), .int .i64 (sa : Int), .bool wa] 184) /\ wc.heap[w.heap.size]? = some (.cells #[.pointer (some ⟨R, 0, none⟩)] 115) /\ wc.heap[w.heap.size + 1]? = some (.cells #[.int .i64 (kind : Int), .string ⟨text.toArray⟩, .int .i64 (num : Int), .int .i64 (o0 : Int), .int .i64 (line : Int), .int .i64 (col : Int)] 100) /\ Kb [R] w wc /\ w.heap.size + 2 <= gA)
  case first =>
    refine wp_calm ?_
    refine wp_region_held_drew (S := SR w R (xOf L d) (.slice ao no co) (.cells #[.int .i64 (kind : Int), .string ⟨text.toArray⟩, .int .i64 (num : Int), .int .i64 (o0 : Int), .int .i64 (line : Int), .int .i64 (col : Int)] 100)) (by kernel_rfl) hS0 (fun hHeld => ?_)
    refine take_to (i := 0) (d := 11) (v := ?_) rfl rfl (by kernel_rfl) (by kernel_rfl) (by kernel_rfl) (fun _ _ _ h => by cases h.1) (Or.inl ⟨by rfl, ?_⟩) (by assumption) ?_
    rotate_left 1
    . intro W hSw
      obtain ⟨⟨tt, hrt⟩, g1, g2, -⟩ := hSw
      obtain ⟨s0, s1, s2, -⟩ := hrt.cells
      have s3 := cell_oneR g1
      have s4 := hrt.lt
      have s5 := (Array.getElem?_eq_some_iff.1 g1).1
      go_simp
      with_reducible rfl
    simp only [Act.put, List.setIfInBounds_toArray, List.set_cons_zero, List.set_cons_succ]
    refine take_to (i := 1) (d := 12) (v := ?_) rfl rfl (by kernel_rfl) (by kernel_rfl) (by kernel_rfl) (fun _ _ _ h => by cases h.1) (Or.inl ⟨by rfl, ?_⟩) (by assumption) ?_
    rotate_left 1
    . intro W hSw
      obtain ⟨⟨tt, hrt⟩, g1, g2, -⟩ := hSw
      obtain ⟨s0, s1, s2, -⟩ := hrt.cells
      have s3 := cell_oneR g1
      have s4 := hrt.lt
      have s5 := (Array.getElem?_eq_some_iff.1 g1).1
      go_simp
      with_reducible rfl
    simp only [Act.put, List.setIfInBounds_toArray, List.set_cons_zero, List.set_cons_succ]
    refine take_to (i := 2) (d := 13) (v := ?_) rfl rfl (by kernel_rfl) (by kernel_rfl) (by kernel_rfl) (fun _ _ _ h => by cases h.1) (Or.inl ⟨by rfl, ?_⟩) (by assumption) ?_
    rotate_left 1
    . intro W hSw
      obtain ⟨⟨tt, hrt⟩, g1, g2, -⟩ := hSw
      obtain ⟨s0, s1, s2, -⟩ := hrt.cells
      have s3 := cell_oneR g1
      have s4 := hrt.lt
      have s5 := (Array.getElem?_eq_some_iff.1 g1).1
      go_simp
      with_reducible rfl
    simp only [Act.put, List.setIfInBounds_toArray, List.set_cons_zero, List.set_cons_succ]
    refine take_to (i := 3) (d := 14) (v := ?_) rfl rfl (by kernel_rfl) (by kernel_rfl) (by kernel_rfl) (fun _ _ _ h => by cases h.1) (Or.inl ⟨by rfl, ?_⟩) (by assumption) ?_
    rotate_left 1
    . intro W hSw
      obtain ⟨⟨tt, hrt⟩, g1, g2, -⟩ := hSw
      obtain ⟨s0, s1, s2, -⟩ := hrt.cells
      have s3 := cell_oneR g1
      have s4 := hrt.lt
      have s5 := (Array.getElem?_eq_some_iff.1 g1).1
      go_simp
      with_reducible rfl
    simp only [Act.put, List.setIfInBounds_toArray, List.set_cons_zero, List.set_cons_succ]
    refine take_to (i := 4) (d := 15) (v := ?_) rfl rfl (by kernel_rfl) (by kernel_rfl) (by kernel_rfl) (fun _ _ _ h => by cases h.1) (Or.inl ⟨by rfl, ?_⟩) (by assumption) ?_
    rotate_left 1
    . intro W hSw
      obtain ⟨⟨tt, hrt⟩, g1, g2, -⟩ := hSw
      obtain ⟨s0, s1, s2, -⟩ := hrt.cells
      have s3 := cell_oneR g1
      have s4 := hrt.lt
      have s5 := (Array.getElem?_eq_some_iff.1 g1).1
      go_simp
      with_reducible rfl
    simp only [Act.put, List.setIfInBounds_toArray, List.set_cons_zero, List.set_cons_succ]
    refine take_to (i := 5) (d := 16) (v := ?_) rfl rfl (by kernel_rfl) (by kernel_rfl) (by kernel_rfl) (fun _ _ _ h => by cases h.1) (Or.inl ⟨by rfl, ?_⟩) (by assumption) ?_
    rotate_left 1
    . intro W hSw
      obtain ⟨⟨tt, hrt⟩, g1, g2, -⟩ := hSw
      obtain ⟨s0, s1, s2, -⟩ := hrt.cells
      have s3 := cell_oneR g1
      have s4 := hrt.lt
      have s5 := (Array.getElem?_eq_some_iff.1 g1).1
      go_simp
      with_reducible rfl
    simp only [Act.put, List.setIfInBounds_toArray, List.set_cons_zero, List.set_cons_succ]
    refine wpAnyH_ready (rs := [6, 10]) (by kernel_rfl) (by simp) ?_
    refine AllReadyH.cons (o := { dst := some 17, op := Op.call { callee := Callee.value (Operand.func 113), args := #[Operand.tmp 11, Operand.tmp 16], argTypes := #[115, 62] }, type := 185, pos := "action.go:159", after := #[{ on := 0, ground := Ground.data }, { on := 5, ground := Ground.data }], guard := none }) rfl (fun K hK => ?_) (AllReadyH.cons (o := { dst := some 5, op := Op.alloc 184, type := 0, pos := "action.go:159", after := #[], guard := none }) rfl (fun K hK => ?_) AllReadyH.nil)
    . go_simp
      go_at_call 113
      refine Calls.mono (M1.out _ hRd hS0.2.2.2.1) ?_
      rintro e w1 ⟨rfl, hr1, hk1⟩
      go_wp2_with fail
      have hS1 := hS0.call hr1 hk1
      refine hK.out _ _ hS1 (fun hHeld => ?_)
      clear hK K
      refine take_to (i := 7) (d := 10) (v := ?_) rfl rfl (by kernel_rfl) (by kernel_rfl) (by kernel_rfl) (fun _ _ _ h => by cases h.1) (Or.inl ⟨by rfl, ?_⟩) (by assumption) ?_
      rotate_left 1
      . intro W hSw
        clear hSw
        go_simp
        with_reducible rfl
      simp only [Act.put, List.setIfInBounds_toArray, List.set_cons_zero, List.set_cons_succ]
      refine take_to (i := 8) (d := 18) (v := ?_) rfl rfl (by kernel_rfl) (by kernel_rfl) (by kernel_rfl) (fun _ _ _ h => by cases h.1) (Or.inl ⟨by rfl, ?_⟩) (by assumption) ?_
      rotate_left 1
      . intro W hSw
        clear hSw
        go_simp
        with_reducible rfl
      simp only [Act.put, List.setIfInBounds_toArray, List.set_cons_zero, List.set_cons_succ]
      refine take_to (i := 9) (d := 19) (v := ?_) rfl rfl (by kernel_rfl) (by kernel_rfl) (by kernel_rfl) (fun _ _ _ h => by cases h.1) (Or.inl ⟨by rfl, ?_⟩) (by assumption) ?_
      rotate_left 1
      . intro W hSw
        clear hSw
        go_simp
        with_reducible rfl
      simp only [Act.put, List.setIfInBounds_toArray, List.set_cons_zero, List.set_cons_succ]
      refine wpAnyH_ready (rs := [10]) (by kernel_rfl) (by simp) ?_
      refine AllReadyH.cons (o := { dst := some 5, op := Op.alloc 184, type := 0, pos := "action.go:159", after := #[], guard := none }) rfl (fun K hK => ?_) AllReadyH.nil
      go_simp
      refine hK.out _ _ (hS1.alloc _) (fun hHeld => ?_)
      clear hK K
      try simp only [Act.put, List.setIfInBounds_toArray, List.set_cons_zero, List.set_cons_succ]
      have hzb := heap_alloc_new w1 (.cells #[.int .i64 0, .int .i64 0, .bool false] 184)
      have hSV := hS1.alloc (.cells #[.int .i64 0, .int .i64 0, .bool false] 184)
      have hrV := hr1.below (bnew w1 (.cells #[.int .i64 0, .int .i64 0, .bool false] 184))
      have hgA : w.heap.size + 2 <= w1.heap.size := by have := (Array.getElem?_eq_some_iff.1 hS1.2.2.1).1; omega
      obtain ⟨u0, u1, u2, u3⟩ := def_cells hzb
      have uf := fun i => frozen_cR hzb i
      refine wpAnyH_ready (rs := [11]) (by kernel_rfl) (by simp) ?_
      refine AllReadyH.cons (o := { dst := none, op := Op.store 184 (Operand.tmp 5) (Operand.tmp 18), type := 0, pos := "action.go:159", after := #[{ on := 10, ground := Ground.data }, { on := 8, ground := Ground.data }, { on := 6, ground := Ground.chain }, { on := 0, ground := Ground.phase }, { on := 1, ground := Ground.phase }, { on := 2, ground := Ground.phase }, { on := 3, ground := Ground.phase }, { on := 4, ground := Ground.phase }, { on := 5, ground := Ground.phase }, { on := 6, ground := Ground.phase }, { on := 7, ground := Ground.phase }, { on := 8, ground := Ground.phase }, { on := 9, ground := Ground.textOnly Departure.lateStores }, { on := 10, ground := Ground.phase }], guard := none }) rfl (fun K hK => ?_) AllReadyH.nil
      go_simp
      have hSF := hS1.alloc (.cells #[.int .i64 (fa : Int), .int .i64 (sa : Int), .bool wa] 184)
      refine hK.out _ _ hSF (fun hHeld => ?_)
      clear hK K
      refine take_to (i := 12) (d := 6) (v := ?_) rfl rfl (by kernel_rfl) (by kernel_rfl) (by kernel_rfl) (fun _ _ _ h => by cases h.1) (Or.inl ⟨by rfl, ?_⟩) (by assumption) ?_
      rotate_left 1
      . intro W hSw
        clear hSw
        go_simp
        with_reducible rfl
      simp only [Act.put, List.setIfInBounds_toArray, List.set_cons_zero, List.set_cons_succ]
      refine wpAnyH_done (by kernel_rfl) ?_ _
      refine ⟨rfl, ?_⟩
      go_wp2_with fail
      go_meet
      case rel => exact ⟨_, rfl, rfl, hr1.below (bnew _ _), heap_alloc_new _ _, hSF.2.1, hSF.2.2.1, hSF.2.2.2.1, hgA⟩
    . go_simp
      refine hK.out _ _ (hS0.alloc _) (fun hHeld => ?_)
      clear hK K
      try simp only [Act.put, List.setIfInBounds_toArray, List.set_cons_zero, List.set_cons_succ]
      have hgA : w.heap.size + 2 <= W0.heap.size := by have : w.heap.size + 1 < W0.heap.size := (Array.getElem?_eq_some_iff.1 hS0.2.2.1).1; omega
      have hzb0 : (W0.drew.alloc (.cells #[.int .i64 0, .int .i64 0, .bool false] 184)).heap[W0.heap.size]? = some (.cells #[.int .i64 0, .int .i64 0, .bool false] 184) := heap_alloc_new W0.drew (.cells #[.int .i64 0, .int .i64 0, .bool false] 184)
      refine wpAnyH_ready (rs := [6]) (by kernel_rfl) (by simp) ?_
      refine AllReadyH.cons (o := { dst := some 17, op := Op.call { callee := Callee.value (Operand.func 113), args := #[Operand.tmp 11, Operand.tmp 16], argTypes := #[115, 62] }, type := 185, pos := "action.go:159", after := #[{ on := 0, ground := Ground.data }, { on := 5, ground := Ground.data }], guard := none }) rfl (fun K hK => ?_) AllReadyH.nil
      go_simp
      go_at_call 113
      refine Calls.mono (M1.out _ (hRd.below (bnew _ _)) (hS0.alloc _).2.2.2.1) ?_
      rintro e w1 ⟨rfl, hr1, hk1⟩
      go_wp2_with fail
      have hSV := (hS0.alloc (.cells #[.int .i64 0, .int .i64 0, .bool false] 184)).call hr1 hk1
      have hrV := hr1
      have hzb := (hk1.block _ (Array.getElem?_eq_some_iff.1 hzb0).1 (by have := hS0.2.2.2.2.1; simp; omega)).trans hzb0
      refine hK.out _ _ hSV (fun hHeld => ?_)
      clear hK K
      refine take_to (i := 7) (d := 10) (v := ?_) rfl rfl (by kernel_rfl) (by kernel_rfl) (by kernel_rfl) (fun _ _ _ h => by cases h.1) (Or.inl ⟨by rfl, ?_⟩) (by assumption) ?_
      rotate_left 1
      . intro W hSw
        clear hSw
        go_simp
        with_reducible rfl
      simp only [Act.put, List.setIfInBounds_toArray, List.set_cons_zero, List.set_cons_succ]
      refine take_to (i := 8) (d := 18) (v := ?_) rfl rfl (by kernel_rfl) (by kernel_rfl) (by kernel_rfl) (fun _ _ _ h => by cases h.1) (Or.inl ⟨by rfl, ?_⟩) (by assumption) ?_
      rotate_left 1
      . intro W hSw
        clear hSw
        go_simp
        with_reducible rfl
      simp only [Act.put, List.setIfInBounds_toArray, List.set_cons_zero, List.set_cons_succ]
      refine take_to (i := 9) (d := 19) (v := ?_) rfl rfl (by kernel_rfl) (by kernel_rfl) (by kernel_rfl) (fun _ _ _ h => by cases h.1) (Or.inl ⟨by rfl, ?_⟩) (by assumption) ?_
      rotate_left 1
      . intro W hSw
        clear hSw
        go_simp
        with_reducible rfl
      simp only [Act.put, List.setIfInBounds_toArray, List.set_cons_zero, List.set_cons_succ]
      obtain ⟨u0, u1, u2, u3⟩ := def_cells hzb
      have uf := fun i => frozen_cR hzb i
      refine wpAnyH_ready (rs := [11]) (by kernel_rfl) (by simp) ?_
      refine AllReadyH.cons (o := { dst := none, op := Op.store 184 (Operand.tmp 5) (Operand.tmp 18), type := 0, pos := "action.go:159", after := #[{ on := 10, ground := Ground.data }, { on := 8, ground := Ground.data }, { on := 6, ground := Ground.chain }, { on := 0, ground := Ground.phase }, { on := 1, ground := Ground.phase }, { on := 2, ground := Ground.phase }, { on := 3, ground := Ground.phase }, { on := 4, ground := Ground.phase }, { on := 5, ground := Ground.phase }, { on := 6, ground := Ground.phase }, { on := 7, ground := Ground.phase }, { on := 8, ground := Ground.phase }, { on := 9, ground := Ground.textOnly Departure.lateStores }, { on := 10, ground := Ground.phase }], guard := none }) rfl (fun K hK => ?_) AllReadyH.nil
      go_simp
      rw [c3_setR _ _ _ _ _ _ _ _ _ hzb]
      have hSF := hSV.row #[.int .i64 (fa : Int), .int .i64 (sa : Int), .bool wa] hgA
      refine hK.out _ _ hSF (fun hHeld => ?_)
      clear hK K
      refine take_to (i := 12) (d := 6) (v := ?_) rfl rfl (by kernel_rfl) (by kernel_rfl) (by kernel_rfl) (fun _ _ _ h => by cases h.1) (Or.inl ⟨by rfl, ?_⟩) (by assumption) ?_
      rotate_left 1
      . intro W hSw
        clear hSw
        go_simp
        with_reducible rfl
      simp only [Act.put, List.setIfInBounds_toArray, List.set_cons_zero, List.set_cons_succ]
      refine wpAnyH_done (by kernel_rfl) ?_ _
      refine ⟨rfl, ?_⟩
      go_wp2_with fail
      go_meet
      case rel => exact ⟨_, rfl, rfl, hrV.row _ _ (by have := hSV.2.2.2.2.1; omega) (by have := hSV.2.2.2.2.2; omega), setRow_heap _ _ _ _ _ _ hzb, hSF.2.1, hSF.2.2.1, hSF.2.2.2.1, hgA⟩
  case rest =>
    obtain ⟨gA, rfl, rfl, hr1, hcA, hrb, htb, hkc, hgA⟩ := hcut
    have q0 := cell_oneR hrb
    have q1 := (Array.getElem?_eq_some_iff.1 hrb).1
    go_wp2_with (first
      | (go_at_call 58; (with_reducible refine Calls.mono (M2.out wc hr1) ?_);  rintro e w2 ⟨rfl, hr2, hk2⟩; have hb2 : ∀ b o, b ≠ R -> wc.heap[b]? = some o -> w2.heap[b]? = some o := fun b o hn h => (hk2.block b (Array.getElem?_eq_some_iff.1 h).1 (by simpa using hn)).trans h; have HA2 := hide (And.intro (hb2 _ _ (by omega) hrb) (hb2 _ _ (by omega) hcA)); have q2 := cell_oneR (hb2 _ _ (by omega) hrb); obtain ⟨x0, x1, x2, x3⟩ := def_cells (hb2 _ _ (by omega) hcA); obtain ⟨y0, y1, y2, y3, y4, y5, y6⟩ := tok_cells (hb2 _ _ (by omega) htb); have q3 := (Array.getElem?_eq_some_iff.1 (hb2 _ _ (by omega) hrb)).1; clear hb2)
      | (go_at_call 114; refine (c4 w2 ts2 sa (by omega) hr2).mono ?_; rw [if_neg H5.out]; rintro e w6 ⟨rfl, hb6⟩; obtain ⟨z0, z1, z2, z3⟩ := def_cells ((hb6.block _ x3).trans HA2.out.2); have HRB := hide ((hb6.block _ q3).trans HA2.out.1); have HKw := hide ((hkc.trans hk2).then_below hb6); have HR6 := hide (hr2.below hb6); clear x0 x1 x2 x3 y0 y1 y2 y3 y4 y5 y6 q0 q1 q2 q3 hr1 hcA hrb htb)
      | (go_at_call 116; have cE := cEach ⟨fa, sa, wa⟩ w6; unfold agV at cE; (with_reducible refine Calls.mono cE ?_); clear cE; rintro e w8 ⟨rfl, rfl⟩))
    have hB0' := hD.bel.size
    have HI0 : Hid (RI w w0 R L d ao ops ts2 w6 [] (w6.alloc (.cells #[.int .i64 (fa : Int), .int .i64 (sa : Int), .bool wa] 184))) := hide ⟨ao, no, co, HR6.out.below (bnew _ _), by simpa using (HO.out.turn HR.out HKw.out).below (bnew w6 (.cells #[.int .i64 (fa : Int), .int .i64 (sa : Int), .bool wa] 184)), Kb.of_below (bnew _ _), fun b hb => .inl hb, (Below.heap_alloc _ _ _ (Array.getElem?_eq_some_iff.1 HRB.out).1).trans HRB.out⟩
    refine (wpIn_wide (n := 3)).1 ?_
    refine wpIn_rangeFunc_ownG rfl (by decide) (gf := 137) (lb := #[.pointer (some ⟨w6.heap.size, 0, none⟩)]) rfl trivial eEach1 (each_stopsK w6.heap.size (fun V V' => V.heap[w6.heap.size]? = some (.cells #[.int .i64 (fa : Int), .int .i64 (sa : Int), .bool wa] 184) -> V'.heap[w6.heap.size]? = some (.cells #[.int .i64 (fa : Int), .int .i64 (sa : Int), .bool wa] 184)) ⟨fa, sa, wa⟩ ((eachP ⟨fa, sa, wa⟩).map nx) HXS.out (by simp only; omega) (by simp only; omega) _ (fun V V' h => h) (heap_alloc_new _ _)) (fun h k e => k (h e)) (fun W l o o' hl ho hc hk e => (World.putObj_heap_other (by simp at hl; omega)).trans e) (Below.refl _ _) (fun _ => rfl) (RI w w0 R L d ao ops ts2 w6) (fun _ _ _ => False) (RI.own hlt hbt HKw.out.size) (fun c s A A' row h => h.elim) HI0.out
      (fun x => { tmps := #[.pointer (some ⟨R, 0, none⟩), .agg #[.int .i64 (kind : Int), .string ⟨text.toArray⟩, .int .i64 (num : Int), .int .i64 (o0 : Int), .int .i64 (line : Int), .int .i64 (col : Int)], .pointer (some ⟨w.heap.size, 0, none⟩), .pointer (some ⟨w.heap.size + 1, 0, none⟩), .nilIface, .pointer (some ⟨gA, 0, none⟩), .nilIface, .nilIface, .nilIface, .int .i64 (x.1 : Int), u10, u11, u12, u13, u14, u15, u16, u17, u18, u19, .nilIface, .bool false, u22, .pointer (some ⟨R, 0, none⟩), .slice (some ⟨wc.heap.size, 0, none⟩) 1 1, .nilIface, .nilIface, .bool false, u28, .pointer (some ⟨R, 0, none⟩), .pointer (some ⟨gA, 0, none⟩), .pointer (some ⟨gA, 1, none⟩), .int .i64 (sa : Int), .agg #[.int .i64 (kind : Int), .string ⟨text.toArray⟩, .int .i64 (num : Int), .int .i64 (o0 : Int), .int .i64 (line : Int), .int .i64 (col : Int)], .nilIface, .nilIface, .bool false, u37, .agg #[.int .i64 (fa : Int), .int .i64 (sa : Int), .bool wa], .func (.func 137) #[] #[.pointer (some ⟨w6.heap.size, 0, none⟩)], .int .i64 (x.1 : Int), u41, u42, u43, u44, u45, u46, u47, u48, u49, u50, u51, u52], defers := [] }) ?assign ?body ?done ?stop
    case assign =>
      intro l x W K hK
      gi_wp2
      exact hK
    case body =>
      rintro l pre x W ⟨ao', n', c', hRi, hOi, hKi, hbi, hrbi⟩ hpl
      have r8 := hRi.cells.2.2.2.2.2.2.2
      have hlR := hRi.lt
      have hni : n' + 1 <= 4096 := by
        have e1 := hOi.len
        rw [List.length_append, List.length_map] at e1
        have e2 := H6.out
        rw [List.length_map] at hpl
        have e3 : (eachP ⟨fa, sa, wa⟩).length = sa := by simp [eachP]
        omega
      have hsz := hKi.size
      have hB0 := hD.bel.size
      have hws := HKw.out.size
      have hS1 : SBR w R (.slice ao' n' c') W.drew := ⟨r8, hrbi, hlR⟩
      have hneR : some R ≠ ob ao' := by
        obtain ⟨⟨v, hr, _⟩, _⟩ := id hRi
        unfold rbO at hr
        obtain ⟨xs, _, _, h3, _⟩ := id hOi
        exact (own_ne h3 hr (by decide)).symm
      have hneB : some w.heap.size ≠ ob ao' := by
        obtain ⟨xs, _, _, h3, _⟩ := id hOi
        exact (own_ne h3 hrbi (by decide)).symm
      have hbtn : some L.bt ≠ ob ao' := by
        obtain ⟨tcs, tfr, htb⟩ := hRi.btB
        obtain ⟨xs, _, _, h3, _⟩ := id hOi
        exact (own_ne h3 htb (by decide)).symm
      have hRV : Rt (W.alloc (.cells #[.int .i64 (x.1 : Int)] 3)) R (xOf L d) (.slice ao' n' c') ts2 := hRi.below (bnew _ _)
      have hOV : OpsAt (W.alloc (.cells #[.int .i64 (x.1 : Int)] 3)) w0.heap.size ao' n' c' (ops ++ pre.map rsX) := hOi.below (bnew _ _)
      have hKV : Kb (R :: (ob ao).toList) w6 (W.alloc (.cells #[.int .i64 (x.1 : Int)] 3)) := hKi.then_below (bnew _ _)
      have hIs : IsI (W.alloc (.cells #[.int .i64 (x.1 : Int)] 3)) (.slice (some ⟨W.heap.size, 0, none⟩) 1 1) [(x.1 : Int)] := .inr ⟨W.heap.size, 0, 1, #[.int .i64 (x.1 : Int)], (0, 0), rfl, Nat.le_refl _, heap_alloc_new _ _, isI1 _⟩
      have hrbV : (W.alloc (.cells #[.int .i64 (x.1 : Int)] 3)).heap[w.heap.size]? = some (.cells #[.pointer (some ⟨R, 0, none⟩)] 115) := (Below.heap_alloc _ _ _ (Array.getElem?_eq_some_iff.1 hrbi).1).trans hrbi
      have hRf := hRV.free 8
      have HFIN : Hid (∀ (w7 : World) (g7 cap : Nat), w7.ownsRow w0.heap.size 34 6 (.slice (some ⟨g7, 0, none⟩) (n' + 1) cap) (n' + 1) (hOV.choose.flatMap opC ++ opC (rsX x, .slice (some ⟨W.heap.size, 0, none⟩) 1 1)) -> (W.alloc (.cells #[.int .i64 (x.1 : Int)] 3)).grownBy w7 (ob ao') -> (ob ao' = some g7 ∨ (W.alloc (.cells #[.int .i64 (x.1 : Int)] 3)).heap.size <= g7) -> KeepsFrom (w6.alloc (.cells #[.int .i64 (fa : Int), .int .i64 (sa : Int), .bool wa] 184)).heap.size W (w7.setCell ⟨R, 8, none⟩ (.slice (some ⟨g7, 0, none⟩) (n' + 1) cap)) /\ (W.heap[w6.heap.size]? = some (.cells #[.int .i64 (fa : Int), .int .i64 (sa : Int), .bool wa] 184) -> (w7.setCell ⟨R, 8, none⟩ (.slice (some ⟨g7, 0, none⟩) (n' + 1) cap)).heap[w6.heap.size]? = some (.cells #[.int .i64 (fa : Int), .int .i64 (sa : Int), .bool wa] 184)) /\ RI w w0 R L d ao ops ts2 w6 (pre ++ [x]) (w7.setCell ⟨R, 8, none⟩ (.slice (some ⟨g7, 0, none⟩) (n' + 1) cap))) := hide (fun w7 g7 cap hown hg hat => by
        have hR7 : Rt w7 R (xOf L d) (.slice ao' n' c') ts2 := hRV.kept (hg.block R hRV.lt hneR) (hg.block L.bt hRV.bt hbtn)
        have hO7 := hOV.push (rsX x) (.slice (some ⟨W.heap.size, 0, none⟩) 1 1) hIs hg hown
        have hKs : Kb [R] w7 (w7.setCell ⟨R, 8, none⟩ (.slice (some ⟨g7, 0, none⟩) (n' + 1) cap)) := (Kb.refl _ _).setCell (.inl (by simp)) _
        refine ⟨?_, fun hab => ?_, some ⟨g7, 0, none⟩, n' + 1, cap, hR7.put8 _, ?_, (hKV.grown hg (fun b hb => ?_)).setCell (.inl (by simp)) _, fun b hb => ?_, ?_⟩
        . refine (((KeepsOthers.alloc W _).trans (KeepsOthers.of_grownBy hg (fun j o hj ho => ?_))).trans (KeepsOthers.setCell _ _ _)).from _
          obtain ⟨xs, _, _, h3, _⟩ := id hOV
          obtain ⟨cs, fr, hc⟩ := own_cells' h3 (k := j) hj
          rw [hc] at ho
          cases ho
          rfl
        . have h1 : (W.alloc (.cells #[.int .i64 (x.1 : Int)] 3)).heap[w6.heap.size]? = some (.cells #[.int .i64 (fa : Int), .int .i64 (sa : Int), .bool wa] 184) := (Below.heap_alloc _ _ _ (Array.getElem?_eq_some_iff.1 hab).1).trans hab
          have h2 : some w6.heap.size ≠ ob ao' := by
            obtain ⟨xs, _, _, h3, _⟩ := id hOV
            exact (own_ne h3 h1 (by decide)).symm
          exact (Below.heap_setCell _ _ _ _ (by show w6.heap.size ≠ R; omega)).trans ((hg.block _ (Array.getElem?_eq_some_iff.1 h1).1 h2).trans h1)
        . rw [List.map_append, ← List.append_assoc]
          exact hO7.turn hR7 hKs
        . rcases hbi b hb with e | e
          . exact .inl (by simp [e])
          . exact .inr e
        . cases hb
          rcases hat with e | e
          . exact hbi _ e
          . exact .inr (by simp at e; show w6.heap.size <= g7; omega)
        . exact (Below.heap_setCell _ _ _ _ (by show w.heap.size ≠ R; omega)).trans ((hg.block _ (Array.getElem?_eq_some_iff.1 hrbV).1 hneB).trans hrbV))
      have HSG : Hid (∀ (V V' : World), SBR w R (.slice ao' n' c') V -> V.grownBy V' (ob ao') -> SBR w R (.slice ao' n' c') V') := hide (fun V V' h hg => ⟨(World.cell?_of_block (w := V) (hg.block R h.2.2 hneR)).trans h.1, (hg.block _ (Array.getElem?_eq_some_iff.1 h.2.1).1 hneB).trans h.2.1, Nat.lt_of_lt_of_le h.2.2 hg.size⟩)
      have HNR : Hid (some R ≠ ob ao') := hide hneR
      have hzV : (W.alloc (.cells #[.int .i64 (x.1 : Int)] 3)).heap.size = W.heap.size + 1 := by simp
      have HOV := hide hOV
      have hch := hOV.choose_spec.2.2.1
      generalize hOV.choose = OC at *
      gi_wp2
      refine region_front_round (S := SBR w R (.slice ao' n' c')) (by kernel_rfl) (by rintro ⟨_, _, h⟩; exact h) (by kernel_rfl) 12 (by kernel_rfl) hS1 (fun hHeld => ?_)
      simp only [List.take_succ_cons, List.take_zero]
      refine take_to (i := 0) (d := 41) (v := ?_) rfl rfl (by kernel_rfl) (by kernel_rfl) (by kernel_rfl) (fun _ _ _ h => h) (Or.inl ⟨by rfl, ?_⟩) (by assumption) ?_
      rotate_left 1
      . intro W hSw
        obtain ⟨s8, s9, s10⟩ := hSw
        have s3 := cell_oneR s9
        have s5 := (Array.getElem?_eq_some_iff.1 s9).1
        go_simp
        with_reducible rfl
      simp only [Act.put, List.setIfInBounds_toArray, List.set_cons_zero, List.set_cons_succ]
      refine take_to (i := 1) (d := 42) (v := ?_) rfl rfl (by kernel_rfl) (by kernel_rfl) (by kernel_rfl) (fun _ _ _ h => h) (Or.inl ⟨by rfl, ?_⟩) (by assumption) ?_
      rotate_left 1
      . intro W hSw
        obtain ⟨s8, s9, s10⟩ := hSw
        have s3 := cell_oneR s9
        have s5 := (Array.getElem?_eq_some_iff.1 s9).1
        go_simp
        with_reducible rfl
      simp only [Act.put, List.setIfInBounds_toArray, List.set_cons_zero, List.set_cons_succ]
      refine take_to (i := 2) (d := 43) (v := ?_) rfl rfl (by kernel_rfl) (by kernel_rfl) (by kernel_rfl) (fun _ _ _ h => h) (Or.inl ⟨by rfl, ?_⟩) (by assumption) ?_
      rotate_left 1
      . intro W hSw
        obtain ⟨s8, s9, s10⟩ := hSw
        have s3 := cell_oneR s9
        have s5 := (Array.getElem?_eq_some_iff.1 s9).1
        go_simp
        with_reducible rfl
      simp only [Act.put, List.setIfInBounds_toArray, List.set_cons_zero, List.set_cons_succ]
      refine take_to (i := 3) (d := 44) (v := ?_) rfl rfl (by kernel_rfl) (by kernel_rfl) (by kernel_rfl) (fun _ _ _ h => h) (Or.inl ⟨by rfl, ?_⟩) (by assumption) ?_
      rotate_left 1
      . intro W hSw
        obtain ⟨s8, s9, s10⟩ := hSw
        have s3 := cell_oneR s9
        have s5 := (Array.getElem?_eq_some_iff.1 s9).1
        go_simp
        with_reducible rfl
      simp only [Act.put, List.setIfInBounds_toArray, List.set_cons_zero, List.set_cons_succ]
      refine take_to (i := 4) (d := 45) (v := ?_) rfl rfl (by kernel_rfl) (by kernel_rfl) (by kernel_rfl) (fun _ _ _ h => h) (Or.inl ⟨by rfl, ?_⟩) (by assumption) ?_
      rotate_left 1
      . intro W hSw
        obtain ⟨s8, s9, s10⟩ := hSw
        have s3 := cell_oneR s9
        have s5 := (Array.getElem?_eq_some_iff.1 s9).1
        go_simp
        with_reducible rfl
      simp only [Act.put, List.setIfInBounds_toArray, List.set_cons_zero, List.set_cons_succ]
      refine take_to (i := 5) (d := 46) (v := ?_) rfl rfl (by kernel_rfl) (by kernel_rfl) (by kernel_rfl) (fun _ _ _ h => h) (Or.inl ⟨by rfl, ?_⟩) (by assumption) ?_
      rotate_left 1
      . intro W hSw
        obtain ⟨s8, s9, s10⟩ := hSw
        have s3 := cell_oneR s9
        have s5 := (Array.getElem?_eq_some_iff.1 s9).1
        go_simp
        with_reducible rfl
      simp only [Act.put, List.setIfInBounds_toArray, List.set_cons_zero, List.set_cons_succ]
      refine wpAnyH_ready (rs := [6]) (by kernel_rfl) (by simp) ?_
      refine AllReadyH.cons (o := { dst := some 47, op := Op.buildSlice 32 1 #[(0, Operand.tmp 46)], type := 32, pos := "action.go:170", after := #[{ on := 5, ground := Ground.data }], guard := none }) rfl (fun K hK => ?_) AllReadyH.nil
      go_simp
      refine hK.out _ _ (SBR.alloc hS1 _) (fun hHeld => ?_)
      clear hK K
      try simp only [Act.put, List.setIfInBounds_toArray, List.set_cons_zero, List.set_cons_succ]
      refine take_to (i := 7) (d := 48) (v := ?_) rfl rfl (by kernel_rfl) (by kernel_rfl) (by kernel_rfl) (fun _ _ _ h => h) (Or.inl ⟨by rfl, ?_⟩) (by assumption) ?_
      rotate_left 1
      . intro W hSw
        clear hSw
        go_simp
        with_reducible rfl
      simp only [Act.put, List.setIfInBounds_toArray, List.set_cons_zero, List.set_cons_succ]
      refine wpAnyH_ready (rs := [8]) (by kernel_rfl) (by simp) ?_
      refine AllReadyH.cons (o := { dst := some 49, op := Op.buildSlice 22 1 #[(0, Operand.tmp 48)], type := 22, pos := "action.go:170", after := #[{ on := 7, ground := Ground.data }], guard := none }) rfl (fun K hK => ?_) AllReadyH.nil
      go_simp
      refine hK.out _ _ (SBR.alloc (by assumption) _) (fun hHeld => ?_)
      clear hK K
      try simp only [Act.put, List.setIfInBounds_toArray, List.set_cons_zero, List.set_cons_succ]
      refine wpAnyH_ready (rs := [9]) (by kernel_rfl) (by simp) ?_
      refine AllReadyH.cons (o := { dst := some 50, op := Op.call { callee := Callee.builtin Builtin.append, args := #[Operand.tmp 45, Operand.tmp 49], argTypes := #[22, 22] }, type := 22, pos := "action.go:170", after := #[{ on := 4, ground := Ground.data }, { on := 8, ground := Ground.data }], guard := none }) rfl (fun K hK => ?_) AllReadyH.nil
      refine step_pushD (w := W.alloc (.cells #[.int .i64 (x.1 : Int)] 3)) rfl (.tmp 45) (.tmp 49) 22 rfl 34 Tryz.underlying22 _ 6 64 infoOp rfl (by decide) w0.heap.size ao' n' c' _ (by rfl) hch [.int .i64 3, .int .i64 0, .slice (some ⟨W.heap.size, 0, none⟩) 1 1, .int .i64 0, .int .i64 (-1), .int .i64 0] _ rfl rfl (by simp [Value.oneCell']) (W.heap.size + 1) hzV (by rfl) (by omega) (by omega) (by omega) ?_
      intro g7 cap w7 hown7 hg7 hat7
      refine hK.out _ _ (HSG.out (W.alloc (.cells #[.int .i64 (x.1 : Int)] 3)) w7 (SBR.alloc hS1 (.cells #[.int .i64 (x.1 : Int)] 3)) hg7) (fun hHeld => ?_)
      clear hK K
      simp only [Act.put, List.setIfInBounds_toArray, List.set_cons_zero, List.set_cons_succ]
      refine take_to (i := 10) (d := 51) (v := ?_) rfl rfl (by kernel_rfl) (by kernel_rfl) (by kernel_rfl) (fun _ _ _ h => h) (Or.inl ⟨by rfl, ?_⟩) (by assumption) ?_
      rotate_left 1
      . intro W hSw
        obtain ⟨s8, s9, s10⟩ := hSw
        have s3 := cell_oneR s9
        have s5 := (Array.getElem?_eq_some_iff.1 s9).1
        go_simp
        with_reducible rfl
      simp only [Act.put, List.setIfInBounds_toArray, List.set_cons_zero, List.set_cons_succ]
      refine take_to (i := 11) (d := 52) (v := ?_) rfl rfl (by kernel_rfl) (by kernel_rfl) (by kernel_rfl) (fun _ _ _ h => h) (Or.inl ⟨by rfl, ?_⟩) (by assumption) ?_
      rotate_left 1
      . intro W hSw
        obtain ⟨s8, s9, s10⟩ := hSw
        have s3 := cell_oneR s9
        have s5 := (Array.getElem?_eq_some_iff.1 s9).1
        go_simp
        with_reducible rfl
      simp only [Act.put, List.setIfInBounds_toArray, List.set_cons_zero, List.set_cons_succ]
      refine wpAnyH_done (by kernel_rfl) ?_ _
      refine ql_last (o := { dst := none, op := Op.store 22 (Operand.tmp 52) (Operand.tmp 50), type := 0, pos := "action.go:170", after := #[{ on := 11, ground := Ground.data }, { on := 9, ground := Ground.data }, { on := 9, ground := Ground.chain }, { on := 0, ground := Ground.phase }, { on := 1, ground := Ground.phase }, { on := 2, ground := Ground.phase }, { on := 3, ground := Ground.phase }, { on := 4, ground := Ground.phase }, { on := 5, ground := Ground.phase }, { on := 6, ground := Ground.phase }, { on := 7, ground := Ground.phase }, { on := 8, ground := Ground.phase }, { on := 9, ground := Ground.phase }], guard := none }) rfl (fun K hK => ?_)
      have hf7 : w7.frozen? ⟨R, 8, none⟩ = false := (World.frozen?_of_block (w := W.alloc (.cells #[.int .i64 (x.1 : Int)] 3)) (hg7.block R hRV.lt HNR.out)).trans hRf
      have hl7 : R < w7.heap.size := by have := hg7.size; simp at this; omega
      obtain ⟨s8, s9, s10⟩ := hHeld
      go_simp
      refine hK.out _ _ ?_
      exact HFIN.out w7 g7 cap hown7 hg7 hat7
    case done =>
      rintro D ys W hDl rfl hRI hK
      gi_wp2
      go_wp2_with fail
      refine ⟨by simp, .inl ⟨_, _, rfl, run_takeDeferred hK, ?_⟩⟩
      obtain ⟨ao', n', c', hRi, hOi, hKi, hbi, hrbi⟩ := RI.own hlt hbt HKw.out.size _ _ _ _ hRI (grownBy_putObj' W D (.deferred none)) (fun b e => by cases e; exact ⟨hDl, _, hK, rfl⟩)
      have eX : ((eachP ⟨fa, sa, wa⟩).map nx).map rsX = (List.range sa).map (rsO ⟨fa, sa, wa⟩) := by
        have h := congrArg (List.map fun i : Nat => (⟨3, 0, [(i : Int)], 0, -1, 0⟩ : COp)) HXS.out
        rw [List.map_map] at h
        unfold eachP at h ⊢
        rw [List.map_map (l := List.range sa) (g := fun i : Nat => (⟨3, 0, [(i : Int)], 0, -1, 0⟩ : COp))] at h
        exact h
      rw [eX] at hOi
      refine ⟨.nilIface, ?_, rfl, ao', n', c', hRi, hOi, ?_, (HKw.out.mono (by simp)).trans hKi, fun b hb => ?_⟩
      . simp [results, Tryz.f93, go_sem]
      . have := H6.out
        simp
        omega
      . rcases hbi b hb with e | e
        . exact .inl e
        . exact .inr (Nat.le_trans HKw.out.size e)
    case stop =>
      intro D c pre W _ _ h
      exact h.elim
end Go.Proofs.YtnghfdnlcnocjaaGreatDoor.Cir
