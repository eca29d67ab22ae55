import Derived.Test.YtkbodljmkhnebabGreatDoorJ6341a734
import Derived.Deep.CutRange
set_option maxRecDepth 100000
set_option maxHeartbeats 2000000
namespace Go.Proofs.YtkbodljmkhnebabGreatDoor.Cir
open Go.RowKit Go.Shelf Go.Proofs.YtkbodljmkhnebabGreatDoor.Oct Go.Proofs.YtkbodljmkhnebabGreatDoor.Tok Go.Proofs.YtkbodljmkhnebabGreatDoor.Gt
def apo1 : Oper := { dst := some 28, op := Op.call { callee := Callee.value (Operand.func 6), args := #[Operand.tmp 27], argTypes := #[24] }, type := 24, pos := "ref.go:210", after := #[{ on := 0, ground := Ground.data }], guard := none }
def apo3 : Oper := { dst := some 30, op := Op.call { callee := Callee.value (Operand.func 6), args := #[Operand.tmp 29], argTypes := #[24] }, type := 24, pos := "ref.go:210", after := #[{ on := 2, ground := Ground.data }, { on := 1, ground := Ground.chain }], guard := none }
def apo4 : Oper := { dst := some 6, op := Op.alloc 24, type := 0, pos := "ref.go:210", after := #[], guard := none }
def apo5 : Oper := { dst := some 7, op := Op.alloc 24, type := 0, pos := "ref.go:210", after := #[], guard := none }
def apo6 : Oper := { dst := none, op := Op.store 24 (Operand.tmp 6) (Operand.tmp 28), type := 0, pos := "ref.go:210", after := #[{ on := 4, ground := Ground.data }, { on := 1, ground := Ground.data }, { on := 3, ground := Ground.chain }, { on := 0, ground := Ground.phase }, { on := 1, ground := Ground.phase }, { on := 2, ground := Ground.textOnly Departure.lateStores }, { on := 3, ground := Ground.textOnly Departure.lateStoresUnsure }, { on := 4, ground := Ground.phase }, { on := 5, ground := Ground.phase }], guard := none }
def apo7 : Oper := { dst := none, op := Op.store 24 (Operand.tmp 7) (Operand.tmp 30), type := 0, pos := "ref.go:210", after := #[{ on := 5, ground := Ground.data }, { on := 3, ground := Ground.data }, { on := 6, ground := Ground.chain }, { on := 0, ground := Ground.phase }, { on := 1, ground := Ground.phase }, { on := 2, ground := Ground.phase }, { on := 3, ground := Ground.phase }, { on := 4, ground := Ground.phase }, { on := 5, ground := Ground.phase }, { on := 6, ground := Ground.phase }], guard := none }
theorem frozen_c {w : World} {g : Nat} {a b c : Value} {t : TypeId} (h : w.heap[g]? = some (.cells #[a, b, c] t (0, 0))) (i : Nat) : w.frozen? ⟨g, i, none⟩ = false := by simp [World.frozen?, h]
theorem eAppend_ok (a b : Circ) (ao bo : Option Addr) (k j : Nat) (ha : (chkC a).2 = 0) (hb : (chkC b).2 = 0) (hl : a.ops.length + b.ops.length <= 4096) (hSa : Szs a.ops) (hSb : Szs b.ops) (w : World) (hA : Ci w a ao k) (hB : Ci w b bo j) : Calls Tryz.prog 8 #[cV a ao k, cV b bo j] w fun e w' => ∃ (co : Option Addr) (cap : Nat), e = .returned (.tuple #[.agg #[.int .i64 (max a.q b.q), .int .i64 (max a.b b.b), .slice co (a.ops.length + b.ops.length) cap], .int .i64 0]) /\ OpsOwn w' w.heap.size co (a.ops.length + b.ops.length) cap (a.ops ++ b.ops) /\ Below w.heap.size w w' := by
  have c1 := fun V (h : Below w.heap.size w V) => eMay a ao k V (hA.below h)
  have c2 := fun V (h : Below w.heap.size w V) => eMay b bo j V (hB.below h)
  have c3 := fun V (h : Below w.heap.size w V) => eCopyO a ao k hSa V (hA.below h)
  have c4 := fun V (h : Below w.heap.size w V) => eCopyO b bo j hSb V (hB.below h)
  rw [ha] at c1
  rw [hb] at c2
  obtain ⟨q1, b1, l1⟩ := a
  obtain ⟨q2, b2, l2⟩ := b
  unfold cV at *
  simp only at *
  generalize hn1 : l1.length = n1 at *
  generalize hn2 : l2.length = n2 at *
  have hwr : IntKind.i64.wrap ((n1 : Int) + (n2 : Int)) = (n1 : Int) + (n2 : Int) := wrapN _ (by omega) (by omega)
  have d1 : decide ((n1 : Int) + (n2 : Int) > 4096) = false := decide_eq_false (by omega)
  have d2 : decide ((4096 : Int) < (n1 : Int) + (n2 : Int)) = false := decide_eq_false (by omega)
  clear hA hB hSa hSb ha hb hn1 hn2
  have HW : Hid (Below w.heap.size w (((w.alloc (.cells #[.int .i64 q1, .int .i64 b1, .slice ao n1 k] 24)).alloc (.cells #[.int .i64 q2, .int .i64 b2, .slice bo n2 j] 24)).alloc (.cells #[.int .i64 0, .int .i64 0, .slice none 0 0] 24)) /\ (((w.alloc (.cells #[.int .i64 q1, .int .i64 b1, .slice ao n1 k] 24)).alloc (.cells #[.int .i64 q2, .int .i64 b2, .slice bo n2 j] 24)).alloc (.cells #[.int .i64 0, .int .i64 0, .slice none 0 0] 24)).heap[w.heap.size]? = some (.cells #[.int .i64 q1, .int .i64 b1, .slice ao n1 k] 24) /\ (((w.alloc (.cells #[.int .i64 q1, .int .i64 b1, .slice ao n1 k] 24)).alloc (.cells #[.int .i64 q2, .int .i64 b2, .slice bo n2 j] 24)).alloc (.cells #[.int .i64 0, .int .i64 0, .slice none 0 0] 24)).heap[w.heap.size + 1]? = some (.cells #[.int .i64 q2, .int .i64 b2, .slice bo n2 j] 24) /\ (((w.alloc (.cells #[.int .i64 q1, .int .i64 b1, .slice ao n1 k] 24)).alloc (.cells #[.int .i64 q2, .int .i64 b2, .slice bo n2 j] 24)).alloc (.cells #[.int .i64 0, .int .i64 0, .slice none 0 0] 24)).heap[w.heap.size + 1 + 1]? = some (.cells #[.int .i64 0, .int .i64 0, .slice none 0 0] 24)) := hide (by
    refine ⟨(bnew _ _).trans (((bnew _ _).trans ((bnew _ _).mono (by simp))).mono (by simp)), (Below.heap_alloc _ _ _ (by simp; omega)).trans ((Below.heap_alloc _ _ _ (by simp)).trans (heap_alloc_new _ _)), (Below.heap_alloc _ _ _ (by simp)).trans ?_, ?_⟩
    . have := heap_alloc_new (w.alloc (.cells #[.int .i64 q1, .int .i64 b1, .slice ao n1 k] 24)) (.cells #[.int .i64 q2, .int .i64 b2, .slice bo n2 j] 24); simpa using this
    . have := heap_alloc_new ((w.alloc (.cells #[.int .i64 q1, .int .i64 b1, .slice ao n1 k] 24)).alloc (.cells #[.int .i64 q2, .int .i64 b2, .slice bo n2 j] 24)) (.cells #[.int .i64 0, .int .i64 0, .slice none 0 0] 24); simpa using this)
  generalize hW0 : (((w.alloc (.cells #[.int .i64 q1, .int .i64 b1, .slice ao n1 k] 24)).alloc (.cells #[.int .i64 q2, .int .i64 b2, .slice bo n2 j] 24)).alloc (.cells #[.int .i64 0, .int .i64 0, .slice none 0 0] 24)) = W0 at HW
  have HP : Hid (∀ V, Below W0.heap.size W0 V -> Below w.heap.size w V /\ V.heap[w.heap.size]? = some (.cells #[.int .i64 q1, .int .i64 b1, .slice ao n1 k] 24) /\ V.heap[w.heap.size + 1]? = some (.cells #[.int .i64 q2, .int .i64 b2, .slice bo n2 j] 24) /\ V.heap[w.heap.size + 1 + 1]? = some (.cells #[.int .i64 0, .int .i64 0, .slice none 0 0] 24)) := hide (fun V h => ⟨HW.out.1.trans (h.mono HW.out.1.size), (h.block _ (Array.getElem?_eq_some_iff.1 HW.out.2.1).1).trans HW.out.2.1, (h.block _ (Array.getElem?_eq_some_iff.1 HW.out.2.2.1).1).trans HW.out.2.2.1, (h.block _ (Array.getElem?_eq_some_iff.1 HW.out.2.2.2).1).trans HW.out.2.2.2⟩)
  have HZ := hide hW0
  clear hW0
  go_enter Tryz.func8, Tryz.ntmps8
  go_wp2_with fail
  rw [HZ.out]
  go_upto_region 3 with (first
      | (go_at_call_of 24 (Value.agg #[.int .i64 q1, .int .i64 b1, .slice ao n1 k]); (with_reducible refine Calls.mono (c1 _ HW.out.1) ?_); rintro e w1 ⟨rfl, hb1⟩; obtain ⟨p1, m1, m2, m3⟩ := HP.out w1 hb1; obtain ⟨x0, x1, x2, x3⟩ := def_cells m1; obtain ⟨y0, y1, y2, y3⟩ := def_cells m2)
      | (go_at_call 24; (with_reducible refine Calls.mono (c2 _ p1) ?_); rintro e w2 ⟨rfl, hb2⟩; have hb2' := Below.trans hb1 (hb2.mono hb1.size); obtain ⟨p2, m1, m2, m3⟩ := HP.out w2 hb2'; obtain ⟨x0, x1, x2, x3⟩ := def_cells m1; obtain ⟨y0, y1, y2, y3⟩ := def_cells m2))
  have hst : Pr2 W0 w.heap.size n1 n2 l1 l2 none none none none w2.drew := Pr2.start hb2'.drew
  have HSB := HW.out.1.size
  clear x0 x1 x2 x3 y0 y1 y2 y3 m1 m2 m3 p1
  go_cut [6, 7] from 27 (fun s6 s7 wc => ∃ (gx gy E j1 j2 : Nat) (bo1 bo2 : Option Addr), s6 = .pointer (some ⟨gx, 0, none⟩) /\ s7 = .pointer (some ⟨gy, 0, none⟩) /\ Below W0.heap.size W0 wc /\ wc.heap[gx]? = some (.cells #[.int .i64 q1, .int .i64 b1, .slice bo1 n1 j1] 24 (0, 0)) /\ wc.heap[gy]? = some (.cells #[.int .i64 q2, .int .i64 b2, .slice bo2 n2 j2] 24 (0, 0)) /\ gx ≠ gy /\ OpsE wc w.heap.size E bo1 n1 j1 l1 /\ OpsOwn wc E bo2 n2 j2 l2 /\ E <= wc.heap.size /\ W0.heap.size <= E /\ W0.heap.size <= gx /\ W0.heap.size <= gy)
  case first =>
    refine wp_region_held_drew (S := fun V => Below W0.heap.size W0 V) (by kernel_rfl) hst.bel (fun hHeld => ?_)
    refine take_to (i := 0) (d := 27) (v := ?_) rfl rfl (by kernel_rfl) (by kernel_rfl) (by kernel_rfl) (fun _ _ _ h => h) (Or.inl ⟨by rfl, ?_⟩) (by assumption) ?_
    rotate_left 1
    . intro W hSw
      obtain ⟨-, mm1, mm2, -⟩ := HP.out W hSw
      obtain ⟨s0, s1, s2, s3⟩ := def_cells mm1
      obtain ⟨t0, t1, t2, t3⟩ := def_cells mm2
      go_simp
      with_reducible rfl
    simp only [Act.put, List.setIfInBounds_toArray, List.set_cons_zero, List.set_cons_succ]
    refine take_to (i := 2) (d := 29) (v := ?_) rfl rfl (by kernel_rfl) (by kernel_rfl) (by kernel_rfl) (fun _ _ _ h => h) (Or.inl ⟨by rfl, ?_⟩) (by assumption) ?_
    rotate_left 1
    . intro W hSw
      obtain ⟨-, mm1, mm2, -⟩ := HP.out W hSw
      obtain ⟨s0, s1, s2, s3⟩ := def_cells mm1
      obtain ⟨t0, t1, t2, t3⟩ := def_cells mm2
      go_simp
      with_reducible rfl
    simp only [Act.put, List.setIfInBounds_toArray, List.set_cons_zero, List.set_cons_succ]
    clear hHeld
    generalize w2.drew = vz at hst ⊢
    iterate 4
      all_goals first
        | (have hq : Pr2 _ _ _ _ _ _ none none none none _ := hst; clear hq; refine wpAnyH_ready (rs := [1, 4, 5]) (by kernel_rfl) (by simp) ?_; refine (AllReadyH.cons (o := apo1) rfl (fun K hK => ?_) (AllReadyH.cons (o := apo4) rfl (fun K hK => ?_) (AllReadyH.cons (o := apo5) rfl (fun K hK => ?_) AllReadyH.nil))))
        | (have hq : Pr2 _ _ _ _ _ _ none none (some _) none _ := hst; clear hq; refine wpAnyH_ready (rs := [3, 4, 5]) (by kernel_rfl) (by simp) ?_; refine (AllReadyH.cons (o := apo3) rfl (fun K hK => ?_) (AllReadyH.cons (o := apo4) rfl (fun K hK => ?_) (AllReadyH.cons (o := apo5) rfl (fun K hK => ?_) AllReadyH.nil))))
        | (have hq : Pr2 _ _ _ _ _ _ (some _) none none none _ := hst; clear hq; refine wpAnyH_ready (rs := [1, 5]) (by kernel_rfl) (by simp) ?_; refine (AllReadyH.cons (o := apo1) rfl (fun K hK => ?_) (AllReadyH.cons (o := apo5) rfl (fun K hK => ?_) AllReadyH.nil)))
        | (have hq : Pr2 _ _ _ _ _ _ none (some _) none none _ := hst; clear hq; refine wpAnyH_ready (rs := [1, 4]) (by kernel_rfl) (by simp) ?_; refine (AllReadyH.cons (o := apo1) rfl (fun K hK => ?_) (AllReadyH.cons (o := apo4) rfl (fun K hK => ?_) AllReadyH.nil)))
        | (have hq : Pr2 _ _ _ _ _ _ none none (some _) (some _) _ := hst; clear hq; refine wpAnyH_ready (rs := [4, 5]) (by kernel_rfl) (by simp) ?_; refine (AllReadyH.cons (o := apo4) rfl (fun K hK => ?_) (AllReadyH.cons (o := apo5) rfl (fun K hK => ?_) AllReadyH.nil)))
        | (have hq : Pr2 _ _ _ _ _ _ (some _) none (some _) none _ := hst; clear hq; refine wpAnyH_ready (rs := [3, 5]) (by kernel_rfl) (by simp) ?_; refine (AllReadyH.cons (o := apo3) rfl (fun K hK => ?_) (AllReadyH.cons (o := apo5) rfl (fun K hK => ?_) AllReadyH.nil)))
        | (have hq : Pr2 _ _ _ _ _ _ none (some _) (some _) none _ := hst; clear hq; refine wpAnyH_ready (rs := [3, 4]) (by kernel_rfl) (by simp) ?_; refine (AllReadyH.cons (o := apo3) rfl (fun K hK => ?_) (AllReadyH.cons (o := apo4) rfl (fun K hK => ?_) AllReadyH.nil)))
        | (have hq : Pr2 _ _ _ _ _ _ (some _) (some _) none none _ := hst; clear hq; refine wpAnyH_ready (rs := [1]) (by kernel_rfl) (by simp) ?_; refine (AllReadyH.cons (o := apo1) rfl (fun K hK => ?_) AllReadyH.nil))
        | (have hq : Pr2 _ _ _ _ _ _ (some _) none (some _) (some _) _ := hst; clear hq; refine wpAnyH_ready (rs := [5]) (by kernel_rfl) (by simp) ?_; refine (AllReadyH.cons (o := apo5) rfl (fun K hK => ?_) AllReadyH.nil))
        | (have hq : Pr2 _ _ _ _ _ _ none (some _) (some _) (some _) _ := hst; clear hq; refine wpAnyH_ready (rs := [4]) (by kernel_rfl) (by simp) ?_; refine (AllReadyH.cons (o := apo4) rfl (fun K hK => ?_) AllReadyH.nil))
        | (have hq : Pr2 _ _ _ _ _ _ (some _) (some _) (some _) none _ := hst; clear hq; refine wpAnyH_ready (rs := [3]) (by kernel_rfl) (by simp) ?_; refine (AllReadyH.cons (o := apo3) rfl (fun K hK => ?_) AllReadyH.nil))
      all_goals first
        | (
          unfold apo3
          go_simp
          go_at_call 6
          refine Calls.mono (c4 _ (HP.out _ hst.bel).1) ?_
          rintro e vz ⟨bo2, j2, rfl, hO, hv⟩
          have hst := hst.call2 hv hO
          clear hO hv
          go_wp2_with fail
          refine hK.out _ _ hst.bel (fun hHeld => ?_)
          clear hK K hHeld)
        | (
          unfold apo4
          have hst := hst.allocX
          go_simp
          refine hK.out _ _ hst.bel (fun hHeld => ?_)
          clear hK K hHeld
          try delta Zc at hst
          generalize World.alloc vz (.cells #[.int .i64 0, .int .i64 0, .slice none 0 0] 24) = vz at hst ⊢)
        | (
          unfold apo5
          have hst := hst.allocY
          go_simp
          refine hK.out _ _ hst.bel (fun hHeld => ?_)
          clear hK K hHeld
          try delta Zc at hst
          generalize World.alloc vz (.cells #[.int .i64 0, .int .i64 0, .slice none 0 0] 24) = vz at hst ⊢)
        | (
          unfold apo1
          go_simp
          go_at_call 6
          refine Calls.mono (c3 _ (HP.out _ hst.bel).1) ?_
          rintro e vz ⟨bo1, j1, rfl, hO, hv⟩
          have hst := hst.call1 hv hO HSB
          clear hO hv
          go_wp2_with fail
          refine hK.out _ _ hst.bel (fun hHeld => ?_)
          clear hK K hHeld)
    all_goals (
      obtain ⟨zl, zx⟩ := hst.hx _ rfl
      obtain ⟨zm, zy⟩ := hst.hy _ rfl
      have hfin := hst.done #[.int .i64 q1, .int .i64 b1, .slice bo1 n1 j1] #[.int .i64 q2, .int .i64 b2, .slice bo2 n2 j2]
      have hbr := Below.row hst.bel _ #[.int .i64 q1, .int .i64 b1, .slice bo1 n1 j1] zl
      have zy' := (setRow_other vz _ _ #[.int .i64 q1, .int .i64 b1, .slice bo1 n1 j1] hfin.2.2.2.1.symm).trans zy
      refine wpAnyH_ready (rs := [6]) (by kernel_rfl) (by simp) ?_
      refine AllReadyH.cons (o := apo6) rfl (fun K hK => ?_) AllReadyH.nil
      unfold apo6
      obtain ⟨u0, u1, u2, u3⟩ := def_cells zx
      have uf := fun i => frozen_c zx i
      go_simp
      rw [c3_set _ _ _ _ _ _ _ _ _ zx]
      refine hK.out _ _ hbr (fun hHeld => ?_)
      clear hK K u0 u1 u2 u3 uf zx zy hst
      refine wpAnyH_ready (rs := [7]) (by kernel_rfl) (by simp) ?_
      refine AllReadyH.cons (o := apo7) rfl (fun K hK => ?_) AllReadyH.nil
      unfold apo7
      obtain ⟨u0, u1, u2, u3⟩ := def_cells zy'
      have uf := fun i => frozen_c zy' i
      go_simp
      rw [c3_set _ _ _ _ _ _ _ _ _ zy']
      refine hK.out _ _ hfin.1 (fun hHeld => ?_)
      clear hK K
      refine wpAnyH_done (by kernel_rfl) ?_ _
      go_wp2_with fail
      go_meet
      case rel => exact ⟨_, _, _, _, _, _, _, rfl, rfl, hfin.1, hfin.2.1, hfin.2.2.1, hfin.2.2.2⟩)
  case rest =>
    obtain ⟨gx, gy, E, j1, j2, bo1, bo2, rfl, rfl, hbw, zx, zy, hne, hO1, hO2, hE1, hE2, hg1, hg2⟩ := hcut
    obtain ⟨pw, a1, a2, a3⟩ := HP.out wc hbw
    obtain ⟨s0, s1, s2, s3⟩ := def_cells a1
    obtain ⟨t0, t1, t2, t3⟩ := def_cells a2
    obtain ⟨u0, u1, u2, u3⟩ := def_cells zx
    have uf := fun i => frozen_c zx i
    have hnx : gx ≠ w.heap.size := by have := (Array.getElem?_eq_some_iff.1 HW.out.2.1).1; omega
    have hny : gx ≠ w.heap.size + 1 := by have := (Array.getElem?_eq_some_iff.1 HW.out.2.2.1).1; omega
    have hnz : w.heap.size + 1 + 1 ≠ gx := by have := (Array.getElem?_eq_some_iff.1 HW.out.2.2.2).1; omega
    have hgw : w.heap.size <= gx := Nat.le_trans HSB hg1
    go_upto_region 6 with fail
    rw [c2_set wc gx _ _ _ _ _ _ zx]
    clear s0 s1 s2 s3 t0 t1 t2 t3 u0 u1 u2 u3 uf
    have zx1 := setRow_heap wc gx _ #[.int .i64 (max q1 q2), .int .i64 (max b1 b2), .slice bo1 n1 j1] _ _ zx
    have zy1 := (setRow_other wc gx gy #[.int .i64 (max q1 q2), .int .i64 (max b1 b2), .slice bo1 n1 j1] hne.symm).trans zy
    have a31 := (setRow_other wc gx _ #[.int .i64 (max q1 q2), .int .i64 (max b1 b2), .slice bo1 n1 j1] hnz).trans a3
    have hp1 := Below.row pw gx #[.int .i64 (max q1 q2), .int .i64 (max b1 b2), .slice bo1 n1 j1] hgw
    have O1 := hO1.row zx #[.int .i64 (max q1 q2), .int .i64 (max b1 b2), .slice bo1 n1 j1]
    have O2 := hO2.row zx (by decide) (by decide) #[.int .i64 (max q1 q2), .int .i64 (max b1 b2), .slice bo1 n1 j1]
    have hE1' : E <= (wc.setRow gx #[.int .i64 (max q1 q2), .int .i64 (max b1 b2), .slice bo1 n1 j1]).heap.size := by simpa [World.setRow] using hE1
    generalize wc.setRow gx #[.int .i64 (max q1 q2), .int .i64 (max b1 b2), .slice bo1 n1 j1] = wd at zx1 zy1 a31 hp1 O1 O2 hE1' ⊢
    clear hO1 hO2 hE1 zx zy a1 a2 a3 pw hbw
    have HG : Hid (∀ w5, wd.grownBy w5 (ob bo1) -> w5.heap[gx]? = some (.cells #[.int .i64 (max q1 q2), .int .i64 (max b1 b2), .slice bo1 n1 j1] 24 (0, 0)) /\ w5.heap[w.heap.size + 1 + 1]? = some (.cells #[.int .i64 0, .int .i64 0, .slice none 0 0] 24) /\ Below w.heap.size w w5) := hide (fun w5 hg5 => by
      obtain ⟨ys, -, -, hrow, -⟩ := O1
      exact ⟨(hg5.block _ (Array.getElem?_eq_some_iff.1 zx1).1 (own_ne hrow zx1 (by decide)).symm).trans zx1, (hg5.block _ (Array.getElem?_eq_some_iff.1 a31).1 (own_ne hrow a31 (by decide)).symm).trans a31, hp1.grown hg5 hp1.size (fun q hq => (own_lt hrow q hq).1)⟩)
    obtain ⟨u0, u1, u2, u3⟩ := def_cells zx1
    obtain ⟨t0, t1, t2, t3⟩ := def_cells zy1
    have hBE : w.heap.size <= E := Nat.le_trans HSB hE2
    go_wp2_with (
      (refine list_app_opsE rfl (.tmp 44) (.tmp 46) rfl (by rfl) (by rfl) O1 O2 hBE hE1' (by omega) ?_; intro ao5 cap w5 hO6 hg5; obtain ⟨z5, r5, p5⟩ := HG.out w5 hg5; obtain ⟨u0, u1, u2, u3⟩ := def_cells z5; have uf := (fun i => frozen_c z5 i); obtain ⟨s0, s1, s2, s3⟩ := def_cells r5; have sf := (fun i => frozen_c r5 i); clear hg5 O1 O2))
    rw [setCell_eq_setRow w5 gx 2 _ _ _ _ z5]
    have z6 := (setRow_other w5 gx _ (Array.setIfInBounds #[Value.int .i64 (max q1 q2), .int .i64 (max b1 b2), .slice bo1 n1 j1] 2 (.slice ao5 (n1 + n2) cap)) hnz).trans r5
    rw [c3_set _ _ _ _ _ _ _ _ _ z6]
    refine bodyPost_ret (results_ct rfl _ _ (w.heap.size + 1 + 1) _ #[.int .i64 (max q1 q2), .int .i64 (max b1 b2), .slice ao5 (n1 + n2) cap] _ _ rfl (setRow_heap _ _ _ _ _ _ z6) Tryz.underlying24 rfl (by exact infoCi)) rfl ?_
    exact ⟨ao5, cap, rfl, (hO6.row z5 (by decide) (by decide) _).row z6 (by decide) (by decide) _, Below.row (Below.row p5 _ _ hgw) _ _ (by omega)⟩
theorem eAppend_no (a b : Circ) (ao bo : Option Addr) (k j : Nat) (hno : ¬ ((chkC a).2 = 0 /\ (chkC b).2 = 0 /\ a.ops.length + b.ops.length <= 4096)) (w : World) (hA : Ci w a ao k) (hB : Ci w b bo j) : Calls Tryz.prog 8 #[cV a ao k, cV b bo j] w fun e w' => e = .returned (.tuple #[.agg #[.int .i64 0, .int .i64 0, .slice none 0 0], .int .i64 80]) /\ Below w.heap.size w w' := by
  have c1 := fun V (h : Below w.heap.size w V) => eMay a ao k V (hA.below h)
  have c2 := fun V (h : Below w.heap.size w V) => eMay b bo j V (hB.below h)
  have hl1 := hA.len
  have hl2 := hB.len
  obtain ⟨q1, b1, l1⟩ := a
  obtain ⟨q2, b2, l2⟩ := b
  unfold cV at *
  simp only at *
  generalize (chkC ⟨q1, b1, l1⟩).2 = e1 at *
  generalize (chkC ⟨q2, b2, l2⟩).2 = e2 at *
  generalize l1.length = n1 at *
  generalize l2.length = n2 at *
  have hwr : IntKind.i64.wrap ((n1 : Int) + (n2 : Int)) = (n1 : Int) + (n2 : Int) := wrapN _ (by omega) (by omega)
  clear hA hB
  have HW : Hid (Below w.heap.size w (((w.alloc (.cells #[.int .i64 q1, .int .i64 b1, .slice ao n1 k] 24)).alloc (.cells #[.int .i64 q2, .int .i64 b2, .slice bo n2 j] 24)).alloc (.cells #[.int .i64 0, .int .i64 0, .slice none 0 0] 24)) /\ (((w.alloc (.cells #[.int .i64 q1, .int .i64 b1, .slice ao n1 k] 24)).alloc (.cells #[.int .i64 q2, .int .i64 b2, .slice bo n2 j] 24)).alloc (.cells #[.int .i64 0, .int .i64 0, .slice none 0 0] 24)).heap[w.heap.size]? = some (.cells #[.int .i64 q1, .int .i64 b1, .slice ao n1 k] 24) /\ (((w.alloc (.cells #[.int .i64 q1, .int .i64 b1, .slice ao n1 k] 24)).alloc (.cells #[.int .i64 q2, .int .i64 b2, .slice bo n2 j] 24)).alloc (.cells #[.int .i64 0, .int .i64 0, .slice none 0 0] 24)).heap[w.heap.size + 1]? = some (.cells #[.int .i64 q2, .int .i64 b2, .slice bo n2 j] 24) /\ (((w.alloc (.cells #[.int .i64 q1, .int .i64 b1, .slice ao n1 k] 24)).alloc (.cells #[.int .i64 q2, .int .i64 b2, .slice bo n2 j] 24)).alloc (.cells #[.int .i64 0, .int .i64 0, .slice none 0 0] 24)).heap[w.heap.size + 1 + 1]? = some (.cells #[.int .i64 0, .int .i64 0, .slice none 0 0] 24)) := hide (by
    refine ⟨(bnew _ _).trans (((bnew _ _).trans ((bnew _ _).mono (by simp))).mono (by simp)), (Below.heap_alloc _ _ _ (by simp; omega)).trans ((Below.heap_alloc _ _ _ (by simp)).trans (heap_alloc_new _ _)), (Below.heap_alloc _ _ _ (by simp)).trans ?_, ?_⟩
    . have := heap_alloc_new (w.alloc (.cells #[.int .i64 q1, .int .i64 b1, .slice ao n1 k] 24)) (.cells #[.int .i64 q2, .int .i64 b2, .slice bo n2 j] 24); simpa using this
    . have := heap_alloc_new ((w.alloc (.cells #[.int .i64 q1, .int .i64 b1, .slice ao n1 k] 24)).alloc (.cells #[.int .i64 q2, .int .i64 b2, .slice bo n2 j] 24)) (.cells #[.int .i64 0, .int .i64 0, .slice none 0 0] 24); simpa using this)
  generalize hW0 : (((w.alloc (.cells #[.int .i64 q1, .int .i64 b1, .slice ao n1 k] 24)).alloc (.cells #[.int .i64 q2, .int .i64 b2, .slice bo n2 j] 24)).alloc (.cells #[.int .i64 0, .int .i64 0, .slice none 0 0] 24)) = W0 at HW
  have HP : Hid (∀ V, Below W0.heap.size W0 V -> Below w.heap.size w V /\ V.heap[w.heap.size]? = some (.cells #[.int .i64 q1, .int .i64 b1, .slice ao n1 k] 24) /\ V.heap[w.heap.size + 1]? = some (.cells #[.int .i64 q2, .int .i64 b2, .slice bo n2 j] 24) /\ V.heap[w.heap.size + 1 + 1]? = some (.cells #[.int .i64 0, .int .i64 0, .slice none 0 0] 24)) := hide (fun V h => ⟨HW.out.1.trans (h.mono HW.out.1.size), (h.block _ (Array.getElem?_eq_some_iff.1 HW.out.2.1).1).trans HW.out.2.1, (h.block _ (Array.getElem?_eq_some_iff.1 HW.out.2.2.1).1).trans HW.out.2.2.1, (h.block _ (Array.getElem?_eq_some_iff.1 HW.out.2.2.2).1).trans HW.out.2.2.2⟩)
  have HZ := hide hW0
  have HE : Hid (e1 ≠ 0 ∨ (e1 = 0 /\ e2 ≠ 0) ∨ (e1 = 0 /\ e2 = 0 /\ 4096 < n1 + n2)) := hide (by omega)
  clear hW0 hno
  rcases HE.out with h | ⟨h1, h⟩ | ⟨h1, h2, h⟩
  . have f1 : (e1 == 0) = false := by simpa using h
    have f2 : (e1 != 0) = true := by simpa using h
    clear h HE
    go_enter Tryz.func8, Tryz.ntmps8
    go_wp2_with fail
    rw [HZ.out]
    go_wp2_with (first
      | (go_at_call_of 24 (Value.agg #[.int .i64 q1, .int .i64 b1, .slice ao n1 k]); (with_reducible refine Calls.mono (c1 _ HW.out.1) ?_); rintro e w1 ⟨rfl, hb1⟩; obtain ⟨p1, m1, m2, m3⟩ := HP.out w1 hb1; obtain ⟨x0, x1, x2, x3⟩ := def_cells m1; obtain ⟨y0, y1, y2, y3⟩ := def_cells m2; obtain ⟨u0, u1, u2, u3⟩ := def_cells m3; have uf : ∀ i, w1.frozen? ⟨w.heap.size + 1 + 1, i, none⟩ = false := fun i => (by simp [World.frozen?, m3])))
    rw [c3_set w1 _ _ _ _ _ _ _ _ m3]
    refine bodyPost_ret (results_ct rfl _ _ (w.heap.size + 1 + 1) _ #[.int .i64 0, .int .i64 0, .slice none 0 0] _ _ rfl (setRow_heap _ _ _ _ _ _ m3) Tryz.underlying24 rfl (by exact infoCi)) rfl ?_
    exact ⟨rfl, Below.row p1 _ _ (by omega)⟩
  . have f1 : (e2 == 0) = false := by simpa using h
    have f2 : (e2 != 0) = true := by simpa using h
    subst h1
    clear h HE
    go_enter Tryz.func8, Tryz.ntmps8
    go_wp2_with fail
    rw [HZ.out]
    go_wp2_with (first
      | (go_at_call_of 24 (Value.agg #[.int .i64 q1, .int .i64 b1, .slice ao n1 k]); (with_reducible refine Calls.mono (c1 _ HW.out.1) ?_); rintro e w1 ⟨rfl, hb1⟩; obtain ⟨p1, m1, m2, m3⟩ := HP.out w1 hb1; obtain ⟨x0, x1, x2, x3⟩ := def_cells m1; obtain ⟨y0, y1, y2, y3⟩ := def_cells m2)
      | (go_at_call 24; (with_reducible refine Calls.mono (c2 _ p1) ?_); rintro e w2 ⟨rfl, hb2⟩; have hb2' := Below.trans hb1 (hb2.mono hb1.size); obtain ⟨p2, m1, m2, m3⟩ := HP.out w2 hb2'; obtain ⟨x0, x1, x2, x3⟩ := def_cells m1; obtain ⟨y0, y1, y2, y3⟩ := def_cells m2; obtain ⟨u0, u1, u2, u3⟩ := def_cells m3; have uf : ∀ i, w2.frozen? ⟨w.heap.size + 1 + 1, i, none⟩ = false := fun i => (by simp [World.frozen?, m3])))
    rw [c3_set w2 _ _ _ _ _ _ _ _ m3]
    refine bodyPost_ret (results_ct rfl _ _ (w.heap.size + 1 + 1) _ #[.int .i64 0, .int .i64 0, .slice none 0 0] _ _ rfl (setRow_heap _ _ _ _ _ _ m3) Tryz.underlying24 rfl (by exact infoCi)) rfl ?_
    exact ⟨rfl, Below.row p2 _ _ (by omega)⟩
  . subst h1
    subst h2
    have d1 : decide ((n1 : Int) + (n2 : Int) > 4096) = true := decide_eq_true (by omega)
    have d2 : decide ((4096 : Int) < (n1 : Int) + (n2 : Int)) = true := decide_eq_true (by omega)
    clear h HE
    go_enter Tryz.func8, Tryz.ntmps8
    go_wp2_with fail
    rw [HZ.out]
    go_wp2_with (first
      | (go_at_call_of 24 (Value.agg #[.int .i64 q1, .int .i64 b1, .slice ao n1 k]); (with_reducible refine Calls.mono (c1 _ HW.out.1) ?_); rintro e w1 ⟨rfl, hb1⟩; obtain ⟨p1, m1, m2, m3⟩ := HP.out w1 hb1; obtain ⟨x0, x1, x2, x3⟩ := def_cells m1; obtain ⟨y0, y1, y2, y3⟩ := def_cells m2)
      | (go_at_call 24; (with_reducible refine Calls.mono (c2 _ p1) ?_); rintro e w2 ⟨rfl, hb2⟩; have hb2' := Below.trans hb1 (hb2.mono hb1.size); obtain ⟨p2, m1, m2, m3⟩ := HP.out w2 hb2'; obtain ⟨x0, x1, x2, x3⟩ := def_cells m1; obtain ⟨y0, y1, y2, y3⟩ := def_cells m2; obtain ⟨u0, u1, u2, u3⟩ := def_cells m3; have uf : ∀ i, w2.frozen? ⟨w.heap.size + 1 + 1, i, none⟩ = false := fun i => (by simp [World.frozen?, m3])))
    rw [c3_set w2 _ _ _ _ _ _ _ _ m3]
    refine bodyPost_ret (results_ct rfl _ _ (w.heap.size + 1 + 1) _ #[.int .i64 0, .int .i64 0, .slice none 0 0] _ _ rfl (setRow_heap _ _ _ _ _ _ m3) Tryz.underlying24 rfl (by exact infoCi)) rfl ?_
    exact ⟨rfl, Below.row p2 _ _ (by omega)⟩
theorem eAppendA (a b : Circ) (ao bo : Option Addr) (k j : Nat) (hSa : Szs a.ops) (hSb : Szs b.ops) (w : World) (hA : Ci w a ao k) (hB : Ci w b bo j) : Calls Tryz.prog 8 #[cV a ao k, cV b bo j] w fun e w' => ∃ (co : Option Addr) (cap : Nat), e = .returned (.tuple #[cV (appP a b).1 co cap, .int .i64 (appP a b).2]) /\ OpsOwn w' w.heap.size co (appP a b).1.ops.length cap (appP a b).1.ops /\ Below w.heap.size w w' := by
  unfold appP
  by_cases h : (chkC a).2 = 0 /\ (chkC b).2 = 0 /\ a.ops.length + b.ops.length <= 4096
  . rw [if_pos h]
    refine (eAppend_ok a b ao bo k j h.1 h.2.1 h.2.2 hSa hSb w hA hB).mono ?_
    rintro e w' ⟨co, cap, rfl, hO, hb⟩
    exact ⟨co, cap, by unfold cV; simp only [List.length_append], by simpa only [List.length_append] using hO, hb⟩
  . rw [if_neg h]
    refine (eAppend_no a b ao bo k j h w hA hB).mono ?_
    rintro e w' ⟨rfl, hb⟩
    exact ⟨none, 0, rfl, OpsOwn.nil _ _, hb⟩
theorem eEmbedA (c : Circ) (ao : Option Addr) (k : Nat) (qs bs : List Int) (aq ab : Option Addr) (cq cb : Nat) (n m : Int) (hS : Szs c.ops) (hlq : qs.length <= 1000000000000000) (hlb : bs.length <= 1000000000000000) (w : World) (hC : Ci w c ao k) (hNq : Ns w aq qs) (hNb : Ns w ab bs) : Calls Tryz.prog 12 #[cV c ao k, .slice aq qs.length cq, .slice ab bs.length cb, .int .i64 n, .int .i64 m] w fun e w' => ∃ (co : Option Addr) (cap : Nat), e = .returned (.tuple #[cV (embP c qs bs n m).1 co cap, .int .i64 (embP c qs bs n m).2]) /\ OpsOwn w' w.heap.size co (embP c qs bs n m).1.ops.length cap (embP c qs bs n m).1.ops /\ Below w.heap.size w w' := by
  unfold embP
  by_cases hk : (chkC c).2 ≠ 0
  . rw [if_pos hk]
    refine (eEmbed_80 c ao k qs bs aq ab cq cb n m hk hlq hlb w hC hNq hNb).mono ?_
    rintro e w' ⟨rfl, hb⟩
    exact ⟨none, 0, rfl, OpsOwn.nil _ _, hb⟩
  . rw [if_neg hk]
    have hk' : (chkC c).2 = 0 := by omega
    by_cases hf : fitP c qs bs n m
    . rw [if_pos hf]
      refine (eEmbed_ok c ao k qs bs aq ab cq cb n m hS hk' hf hlq hlb w hC hNq hNb).mono ?_
      rintro e w' ⟨co, cap, rfl, hO, hb⟩
      exact ⟨co, cap, by unfold cV; simp only [List.length_map], by simpa only [List.length_map] using hO, hb⟩
    . rw [if_neg hf]
      refine (eEmbed_2 c ao k qs bs aq ab cq cb n m hk' hf hlq hlb w hC hNq hNb).mono ?_
      rintro e w' ⟨rfl, hb⟩
      exact ⟨none, 0, rfl, OpsOwn.nil _ _, hb⟩
end Go.Proofs.YtkbodljmkhnebabGreatDoor.Cir
