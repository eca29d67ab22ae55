import Derived.Test.YtkbodljmkhnebabGreatDoorJ305327c3
import Derived.Test.YtkbodljmkhnebabGreatDoorJ3f20f177
import Derived.Test.YtkbodljmkhnebabGreatDoorJb3c7b31f
set_option maxRecDepth 100000
set_option maxHeartbeats 4000000
namespace Go.Proofs.YtkbodljmkhnebabGreatDoor.Cir
open Go.RowKit Go.Shelf Go.Proofs.YtkbodljmkhnebabGreatDoor.Oct Go.Proofs.YtkbodljmkhnebabGreatDoor.Tok Go.Proofs.YtkbodljmkhnebabGreatDoor.Gt
theorem szs_app (a b : Circ) (hA : Szs a.ops) (hB : Szs b.ops) : Szs (appP a b).1.ops := by
  unfold appP
  split
  . rename_i h
    refine ⟨by simp only [List.length_append]; omega, fun o ho => ?_⟩
    rcases List.mem_append.1 ho with ho | ho
    . exact hA.2 o ho
    . exact hB.2 o ho
  . exact ⟨Nat.zero_le _, fun o ho => by cases ho⟩
theorem szs_emb (a : Circ) (qs bs : List Int) (n m : Int) (hA : Szs a.ops) : Szs (embP a qs bs n m).1.ops := by
  unfold embP
  split
  . exact ⟨Nat.zero_le _, fun o ho => by cases ho⟩
  . split
    . refine ⟨by simp only [List.length_map]; exact hA.1, fun o ho => ?_⟩
      obtain ⟨p, hp, rfl⟩ := List.mem_map.1 ho
      simpa [reO] using hA.2 p hp
    . exact ⟨Nat.zero_le _, fun o ho => by cases ho⟩
theorem ci_szs {V : World} {B : Nat} {c : Circ} {bo : Option Addr} {j : Nat} (hS : Szs c.ops) (h : OpsOwn V B bo c.ops.length j c.ops) : Ci V c bo j := by
  obtain ⟨h1, h2⟩ := h.at.rd
  exact ⟨h1, h2, Nat.le_trans hS.1 (by decide), fun o ho => Nat.le_trans (hS.2 o ho) (by decide)⟩
structure Ot (B E : Nat) (w w' : World) : Prop where
  os : w'.os = w.os
  tape : w'.tape = w.tape
  output : w'.output = w.output
  size : w'.heap.size = w.heap.size
  block : ∀ g, g < B ∨ E <= g -> w'.heap[g]? = w.heap[g]?
theorem Ot.refl (B E : Nat) (w : World) : Ot B E w w := ⟨rfl, rfl, rfl, rfl, fun _ _ => rfl⟩
theorem Ot.setCell {B E : Nat} {w w' : World} (h : Ot B E w w') {g : Nat} (i : Nat) (h1 : B <= g) (h2 : g < E) (v : Value) : Ot B E w (w'.setCell ⟨g, i, none⟩ v) :=
  ⟨h.os, h.tape, h.output, by simp [World.setCell, h.size], fun k hk => (Below.heap_setCell _ _ _ _ (fun e => by have e' : k = g := e; omega)).trans (h.block k hk)⟩
theorem Ot.below {B E : Nat} {w w' : World} (h : Ot B E w w') : Below B w w' := ⟨h.os, h.tape, h.output, Nat.le_of_eq h.size.symm, fun k hk => h.block k (.inl hk)⟩
def joo1 : Oper := { dst := some 26, op := Op.call { callee := Callee.value (Operand.func 6), args := #[Operand.tmp 25], argTypes := #[24] }, type := 24, pos := "law.go:131", after := #[{ on := 0, ground := Ground.data }], guard := none }
def joo3 : Oper := { dst := some 28, op := Op.call { callee := Callee.value (Operand.func 6), args := #[Operand.tmp 27], argTypes := #[24] }, type := 24, pos := "law.go:131", after := #[{ on := 2, ground := Ground.data }, { on := 1, ground := Ground.chain }], guard := none }
def joo4 : Oper := { dst := some 13, op := Op.alloc 24, type := 0, pos := "law.go:131", after := #[], guard := none }
def joo5 : Oper := { dst := some 14, op := Op.alloc 24, type := 0, pos := "law.go:131", after := #[], guard := none }
def joo6 : Oper := { dst := none, op := Op.store 24 (Operand.tmp 13) (Operand.tmp 26), type := 0, pos := "law.go:131", after := #[{ on := 4, ground := Ground.data }, { on := 1, ground := Ground.data }, { on := 3, ground := Ground.chain }, { on := 0, ground := Ground.phase }, { on := 1, ground := Ground.phase }, { on := 2, ground := Ground.textOnly Departure.lateStores }, { on := 3, ground := Ground.textOnly Departure.lateStoresUnsure }, { on := 4, ground := Ground.phase }, { on := 5, ground := Ground.phase }], guard := none }
def joo7 : Oper := { dst := none, op := Op.store 24 (Operand.tmp 14) (Operand.tmp 28), type := 0, pos := "law.go:131", after := #[{ on := 5, ground := Ground.data }, { on := 3, ground := Ground.data }, { on := 6, ground := Ground.chain }, { on := 0, ground := Ground.phase }, { on := 1, ground := Ground.phase }, { on := 2, ground := Ground.phase }, { on := 3, ground := Ground.phase }, { on := 4, ground := Ground.phase }, { on := 5, ground := Ground.phase }, { on := 6, ground := Ground.phase }], guard := none }
theorem xCircuitJoins (a b : Circ) (ao bo : Option Addr) (k j : Nat) (qs bs : List Int) (aq ab : Option Addr) (cq cb : Nat) (n m : Int) (hSa : Szs a.ops) (hSb : Szs b.ops) (hlq : qs.length <= 1000000000000000) (hcq : qs.length <= cq) (hlb : bs.length <= 1000000000000000) (hcb : bs.length <= cb) (w : World) (hT : Tq w) (hA : Ci w a ao k) (hB : Ci w b bo j) (hNq : Ns w aq qs) (hNb : Ns w ab bs) : Calls Tryz.prog 3 #[cV a ao k, cV b bo j, .slice aq qs.length cq, .slice ab bs.length cb, .int .i64 n, .int .i64 m] w fun e w' => e = .returned (.bool true) /\ Below w.heap.size w w' := by
  have c3 := fun V (h : Below w.heap.size w V) => eCopyO a ao k hSa V (hA.below h)
  have c4 := fun V (h : Below w.heap.size w V) => eCopyO b bo j hSb V (hB.below h)
  have D1 := hide (fun V (h : Below w.heap.size w V) x1 k1 x2 k2 (h1 : Ci V a x1 k1) (h2 : Ci V b x2 k2) => cAppendA a b x1 x2 k1 k2 hSa hSb V (hT.below h).tb h1 h2)
  have D2 := hide (fun V (h : Below w.heap.size w V) => eAppendA a b ao bo k j hSa hSb V (hA.below h) (hB.below h))
  have D3 := hide (fun V B1 B2 x1 k1 x2 k2 (h1 : OpsOwn V B1 x1 (appP a b).1.ops.length k1 (appP a b).1.ops) (h2 : OpsOwn V B2 x2 (appP a b).1.ops.length k2 (appP a b).1.ops) => eSame (appP a b).1 (appP a b).1 x1 x2 k1 k2 V (ci_szs (szs_app a b hSa hSb) h1) (ci_szs (szs_app a b hSa hSb) h2))
  have D4 := hide (fun V (h : Below w.heap.size w V) x1 k1 (h1 : Ci V a x1 k1) => cEmbedA a x1 k1 qs bs aq ab cq cb n m hSa hlq hcq hlb hcb V (hT.below h).tb h1 (hNq.below h) (hNb.below h))
  have D5 := hide (fun V (h : Below w.heap.size w V) => eEmbedA a ao k qs bs aq ab cq cb n m hSa hlq hlb V (hA.below h) (hNq.below h) (hNb.below h))
  have D6 := hide (fun V B1 B2 x1 k1 x2 k2 (h1 : OpsOwn V B1 x1 (embP a qs bs n m).1.ops.length k1 (embP a qs bs n m).1.ops) (h2 : OpsOwn V B2 x2 (embP a qs bs n m).1.ops.length k2 (embP a qs bs n m).1.ops) => eSame (embP a qs bs n m).1 (embP a qs bs n m).1 x1 x2 k1 k2 V (ci_szs (szs_emb a qs bs n m hSa) h1) (ci_szs (szs_emb a qs bs n m hSa) h2))
  have D7 := hide (fun V (h : Below w.heap.size w V) x1 k1 (h1 : Ci V a x1 k1) => eSame a a x1 ao k1 k V h1 (hA.below h))
  have D8 := hide (fun V (h : Below w.heap.size w V) x1 k1 (h1 : Ci V b x1 k1) => eSame b b x1 bo k1 j V h1 (hB.below h))
  have D9 := hide (fun V (h : Below w.heap.size w V) => aAlive V (hT.below h))
  have DA := hide (fun V B1 x1 k1 (h1 : OpsOwn V B1 x1 a.ops.length k1 a.ops) => ci_szs hSa h1)
  have DB := hide (fun V B1 x1 k1 (h1 : OpsOwn V B1 x1 b.ops.length k1 b.ops) => ci_szs hSb h1)
  have HSZ := hide (szs_app a b hSa hSb)
  rw [decide_eq_true (rfl : (appP a b).1 = (appP a b).1)] at D3
  rw [decide_eq_true (rfl : (embP a qs bs n m).1 = (embP a qs bs n m).1)] at D6
  rw [decide_eq_true (rfl : a = a)] at D7
  rw [decide_eq_true (rfl : b = b)] at D8
  generalize (appP a b).1 = P at *
  generalize (appP a b).2 = pe at *
  generalize (embP a qs bs n m).1 = Q at *
  generalize (embP a qs bs n m).2 = qe at *
  generalize qs.length = mq at *
  generalize bs.length = mb at *
  clear hT hA hB hNq hNb hSa hSb hlq hcq hlb hcb
  obtain ⟨q1, b1, l1⟩ := a
  obtain ⟨q2, b2, l2⟩ := b
  obtain ⟨qp, bp, lp⟩ := P
  obtain ⟨qq, bq, lq⟩ := Q
  unfold cV at *
  simp only at *
  generalize l1.length = n1 at *
  generalize l2.length = n2 at *
  obtain ⟨np, hnp⟩ : ∃ np, lp.length = np := ⟨_, rfl⟩
  have HLP := hide hnp
  rw [hnp] at D1 D2 D3
  have HNN : Hid (np <= 2199023255552) := hide (by rw [← hnp]; exact HSZ.out.1)
  clear hnp
  generalize lq.length = nq at *
  have HW : Hid (Below w.heap.size w ((w.alloc (.cells #[.int .i64 q1, .int .i64 b1, .slice ao n1 k] 24)).alloc (.cells #[.int .i64 q2, .int .i64 b2, .slice bo n2 j] 24)) /\ ((w.alloc (.cells #[.int .i64 q1, .int .i64 b1, .slice ao n1 k] 24)).alloc (.cells #[.int .i64 q2, .int .i64 b2, .slice bo n2 j] 24)).heap[w.heap.size]? = some (.cells #[.int .i64 q1, .int .i64 b1, .slice ao n1 k] 24) /\ ((w.alloc (.cells #[.int .i64 q1, .int .i64 b1, .slice ao n1 k] 24)).alloc (.cells #[.int .i64 q2, .int .i64 b2, .slice bo n2 j] 24)).heap[w.heap.size + 1]? = some (.cells #[.int .i64 q2, .int .i64 b2, .slice bo n2 j] 24)) := hide (by
    refine ⟨(bnew _ _).trans ((bnew _ _).mono (by simp)), (Below.heap_alloc _ _ _ (by simp)).trans (heap_alloc_new _ _), ?_⟩
    have := heap_alloc_new (w.alloc (.cells #[.int .i64 q1, .int .i64 b1, .slice ao n1 k] 24)) (.cells #[.int .i64 q2, .int .i64 b2, .slice bo n2 j] 24)
    simpa using this)
  generalize hW0 : ((w.alloc (.cells #[.int .i64 q1, .int .i64 b1, .slice ao n1 k] 24)).alloc (.cells #[.int .i64 q2, .int .i64 b2, .slice bo n2 j] 24)) = W0 at HW
  have HP : Hid (∀ V, Below W0.heap.size W0 V -> Below w.heap.size w V /\ V.heap[w.heap.size]? = some (.cells #[.int .i64 q1, .int .i64 b1, .slice ao n1 k] 24) /\ V.heap[w.heap.size + 1]? = some (.cells #[.int .i64 q2, .int .i64 b2, .slice bo n2 j] 24) /\ True) := hide (fun V h => ⟨HW.out.1.trans (h.mono HW.out.1.size), (h.block _ (Array.getElem?_eq_some_iff.1 HW.out.2.1).1).trans HW.out.2.1, (h.block _ (Array.getElem?_eq_some_iff.1 HW.out.2.2).1).trans HW.out.2.2, trivial⟩)
  have HZ := hide hW0
  clear hW0
  go_enter Tryz.func3, Tryz.ntmps3
  go_upto_region 1 with fail
  rw [HZ.out]
  have hst : Pr2 W0 w.heap.size n1 n2 l1 l2 none none none none W0.drew := Pr2.start (Below.refl _ _).drew
  have HSB := HW.out.1.size
  go_cut [13, 14] from 25 (fun s13 s14 wc => ∃ (gx gy E j1 j2 : Nat) (bo1 bo2 : Option Addr), s13 = .pointer (some ⟨gx, 0, none⟩) /\ s14 = .pointer (some ⟨gy, 0, none⟩) /\ Below W0.heap.size W0 wc /\ wc.heap[gx]? = some (.cells #[.int .i64 q1, .int .i64 b1, .slice bo1 n1 j1] 24 (0, 0)) /\ wc.heap[gy]? = some (.cells #[.int .i64 q2, .int .i64 b2, .slice bo2 n2 j2] 24 (0, 0)) /\ gx ≠ gy /\ OpsE wc w.heap.size E bo1 n1 j1 l1 /\ OpsOwn wc E bo2 n2 j2 l2 /\ E <= wc.heap.size /\ W0.heap.size <= E /\ W0.heap.size <= gx /\ W0.heap.size <= gy)
  case first =>
    refine wp_region_held_drew (S := fun V => Below W0.heap.size W0 V) (by kernel_rfl) hst.bel (fun hHeld => ?_)
    refine take_to (i := 0) (d := 25) (v := ?_) rfl rfl (by kernel_rfl) (by kernel_rfl) (by kernel_rfl) (fun _ _ _ h => h) (Or.inl ⟨by rfl, ?_⟩) (by assumption) ?_
    rotate_left 1
    . intro W hSw
      obtain ⟨-, mm1, mm2, -⟩ := HP.out W hSw
      obtain ⟨s0, s1, s2, s3⟩ := def_cells mm1
      obtain ⟨t0, t1, t2, t3⟩ := def_cells mm2
      go_simp
      with_reducible rfl
    simp only [Act.put, List.setIfInBounds_toArray, List.set_cons_zero, List.set_cons_succ]
    refine take_to (i := 2) (d := 27) (v := ?_) rfl rfl (by kernel_rfl) (by kernel_rfl) (by kernel_rfl) (fun _ _ _ h => h) (Or.inl ⟨by rfl, ?_⟩) (by assumption) ?_
    rotate_left 1
    . intro W hSw
      obtain ⟨-, mm1, mm2, -⟩ := HP.out W hSw
      obtain ⟨s0, s1, s2, s3⟩ := def_cells mm1
      obtain ⟨t0, t1, t2, t3⟩ := def_cells mm2
      go_simp
      with_reducible rfl
    simp only [Act.put, List.setIfInBounds_toArray, List.set_cons_zero, List.set_cons_succ]
    clear hHeld
    generalize W0.drew = vz at hst ⊢
    iterate 4
      all_goals first
        | (have hq : Pr2 _ _ _ _ _ _ none none none none _ := hst; clear hq; refine wpAnyH_ready (rs := [1, 4, 5]) (by kernel_rfl) (by simp) ?_; refine (AllReadyH.cons (o := joo1) rfl (fun K hK => ?_) (AllReadyH.cons (o := joo4) rfl (fun K hK => ?_) (AllReadyH.cons (o := joo5) rfl (fun K hK => ?_) AllReadyH.nil))))
        | (have hq : Pr2 _ _ _ _ _ _ none none (some _) none _ := hst; clear hq; refine wpAnyH_ready (rs := [3, 4, 5]) (by kernel_rfl) (by simp) ?_; refine (AllReadyH.cons (o := joo3) rfl (fun K hK => ?_) (AllReadyH.cons (o := joo4) rfl (fun K hK => ?_) (AllReadyH.cons (o := joo5) rfl (fun K hK => ?_) AllReadyH.nil))))
        | (have hq : Pr2 _ _ _ _ _ _ (some _) none none none _ := hst; clear hq; refine wpAnyH_ready (rs := [1, 5]) (by kernel_rfl) (by simp) ?_; refine (AllReadyH.cons (o := joo1) rfl (fun K hK => ?_) (AllReadyH.cons (o := joo5) rfl (fun K hK => ?_) AllReadyH.nil)))
        | (have hq : Pr2 _ _ _ _ _ _ none (some _) none none _ := hst; clear hq; refine wpAnyH_ready (rs := [1, 4]) (by kernel_rfl) (by simp) ?_; refine (AllReadyH.cons (o := joo1) rfl (fun K hK => ?_) (AllReadyH.cons (o := joo4) rfl (fun K hK => ?_) AllReadyH.nil)))
        | (have hq : Pr2 _ _ _ _ _ _ none none (some _) (some _) _ := hst; clear hq; refine wpAnyH_ready (rs := [4, 5]) (by kernel_rfl) (by simp) ?_; refine (AllReadyH.cons (o := joo4) rfl (fun K hK => ?_) (AllReadyH.cons (o := joo5) rfl (fun K hK => ?_) AllReadyH.nil)))
        | (have hq : Pr2 _ _ _ _ _ _ (some _) none (some _) none _ := hst; clear hq; refine wpAnyH_ready (rs := [3, 5]) (by kernel_rfl) (by simp) ?_; refine (AllReadyH.cons (o := joo3) rfl (fun K hK => ?_) (AllReadyH.cons (o := joo5) rfl (fun K hK => ?_) AllReadyH.nil)))
        | (have hq : Pr2 _ _ _ _ _ _ none (some _) (some _) none _ := hst; clear hq; refine wpAnyH_ready (rs := [3, 4]) (by kernel_rfl) (by simp) ?_; refine (AllReadyH.cons (o := joo3) rfl (fun K hK => ?_) (AllReadyH.cons (o := joo4) rfl (fun K hK => ?_) AllReadyH.nil)))
        | (have hq : Pr2 _ _ _ _ _ _ (some _) (some _) none none _ := hst; clear hq; refine wpAnyH_ready (rs := [1]) (by kernel_rfl) (by simp) ?_; refine (AllReadyH.cons (o := joo1) rfl (fun K hK => ?_) AllReadyH.nil))
        | (have hq : Pr2 _ _ _ _ _ _ (some _) none (some _) (some _) _ := hst; clear hq; refine wpAnyH_ready (rs := [5]) (by kernel_rfl) (by simp) ?_; refine (AllReadyH.cons (o := joo5) rfl (fun K hK => ?_) AllReadyH.nil))
        | (have hq : Pr2 _ _ _ _ _ _ none (some _) (some _) (some _) _ := hst; clear hq; refine wpAnyH_ready (rs := [4]) (by kernel_rfl) (by simp) ?_; refine (AllReadyH.cons (o := joo4) rfl (fun K hK => ?_) AllReadyH.nil))
        | (have hq : Pr2 _ _ _ _ _ _ (some _) (some _) (some _) none _ := hst; clear hq; refine wpAnyH_ready (rs := [3]) (by kernel_rfl) (by simp) ?_; refine (AllReadyH.cons (o := joo3) rfl (fun K hK => ?_) AllReadyH.nil))
      all_goals first
        | (
          unfold joo3
          go_simp
          go_at_call 6
          refine Calls.mono (c4 _ (HP.out _ hst.bel).1) ?_
          rintro e vz ⟨bo2, j2, rfl, hO, hv⟩
          have hst := hst.call2 hv hO
          clear hO hv
          go_wp2_with fail
          refine hK.out _ _ hst.bel (fun hHeld => ?_)
          clear hK K hHeld)
        | (
          unfold joo4
          have hst := hst.allocX
          go_simp
          refine hK.out _ _ hst.bel (fun hHeld => ?_)
          clear hK K hHeld
          try delta Zc at hst
          generalize World.alloc vz (.cells #[.int .i64 0, .int .i64 0, .slice none 0 0] 24) = vz at hst ⊢)
        | (
          unfold joo5
          have hst := hst.allocY
          go_simp
          refine hK.out _ _ hst.bel (fun hHeld => ?_)
          clear hK K hHeld
          try delta Zc at hst
          generalize World.alloc vz (.cells #[.int .i64 0, .int .i64 0, .slice none 0 0] 24) = vz at hst ⊢)
        | (
          unfold joo1
          go_simp
          go_at_call 6
          refine Calls.mono (c3 _ (HP.out _ hst.bel).1) ?_
          rintro e vz ⟨bo1, j1, rfl, hO, hv⟩
          have hst := hst.call1 hv hO HSB
          clear hO hv
          go_wp2_with fail
          refine hK.out _ _ hst.bel (fun hHeld => ?_)
          clear hK K hHeld)
    all_goals (
      obtain ⟨zl, zx⟩ := hst.hx _ rfl
      obtain ⟨zm, zy⟩ := hst.hy _ rfl
      have hfin := hst.done #[.int .i64 q1, .int .i64 b1, .slice bo1 n1 j1] #[.int .i64 q2, .int .i64 b2, .slice bo2 n2 j2]
      have hbr := Below.row hst.bel _ #[.int .i64 q1, .int .i64 b1, .slice bo1 n1 j1] zl
      have zy' := (setRow_other vz _ _ #[.int .i64 q1, .int .i64 b1, .slice bo1 n1 j1] hfin.2.2.2.1.symm).trans zy
      refine wpAnyH_ready (rs := [6]) (by kernel_rfl) (by simp) ?_
      refine AllReadyH.cons (o := joo6) rfl (fun K hK => ?_) AllReadyH.nil
      unfold joo6
      obtain ⟨u0, u1, u2, u3⟩ := def_cells zx
      have uf := fun i => frozen_c zx i
      go_simp
      rw [c3_set _ _ _ _ _ _ _ _ _ zx]
      refine hK.out _ _ hbr (fun hHeld => ?_)
      clear hK K u0 u1 u2 u3 uf zx zy hst
      refine wpAnyH_ready (rs := [7]) (by kernel_rfl) (by simp) ?_
      refine AllReadyH.cons (o := joo7) rfl (fun K hK => ?_) AllReadyH.nil
      unfold joo7
      obtain ⟨u0, u1, u2, u3⟩ := def_cells zy'
      have uf := fun i => frozen_c zy' i
      go_simp
      rw [c3_set _ _ _ _ _ _ _ _ _ zy']
      refine hK.out _ _ hfin.1 (fun hHeld => ?_)
      clear hK K
      refine wpAnyH_done (by kernel_rfl) ?_ _
      go_wp2_with fail
      go_meet
      case rel => exact ⟨_, _, _, _, _, _, _, rfl, rfl, hfin.1, hfin.2.1, hfin.2.2.1, hfin.2.2.2⟩)
  case rest =>
    obtain ⟨gx, gy, E, j1, j2, bo1, bo2, rfl, rfl, hbw, zx, zy, hne, hO1, hO2, hE1, hE2, hg1, hg2⟩ := hcut
    obtain ⟨pw, a1, a2, -⟩ := HP.out wc hbw
    have HV0 := hide pw
    have HK : Hid (∀ V, Below wc.heap.size wc V -> Below w.heap.size w V /\ V.heap[w.heap.size]? = some (.cells #[.int .i64 q1, .int .i64 b1, .slice ao n1 k] 24) /\ V.heap[w.heap.size + 1]? = some (.cells #[.int .i64 q2, .int .i64 b2, .slice bo n2 j] 24) /\ V.heap[gx]? = some (.cells #[.int .i64 q1, .int .i64 b1, .slice bo1 n1 j1] 24) /\ V.heap[gy]? = some (.cells #[.int .i64 q2, .int .i64 b2, .slice bo2 n2 j2] 24) /\ Ci V ⟨q1, b1, l1⟩ bo1 j1 /\ Ci V ⟨q2, b2, l2⟩ bo2 j2) := hide (fun V h => ⟨pw.trans (h.mono pw.size), (h.block _ (Array.getElem?_eq_some_iff.1 a1).1).trans a1, (h.block _ (Array.getElem?_eq_some_iff.1 a2).1).trans a2, (h.block _ (Array.getElem?_eq_some_iff.1 zx).1).trans zx, (h.block _ (Array.getElem?_eq_some_iff.1 zy).1).trans zy, DA.out V _ bo1 j1 (hO1.own.below h), DB.out V _ bo2 j2 (hO2.below h)⟩)
    have HCA := hide (DA.out wc _ bo1 j1 hO1.own)
    have HCB := hide (DB.out wc _ bo2 j2 hO2)
    obtain ⟨x0, x1, x2, x3⟩ := def_cells zx
    obtain ⟨y0, y1, y2, y3⟩ := def_cells zy
    clear hO1 hO2 hbw pw zx zy a1 a2 hne hE1 hE2 hg1 hg2 c3 c4 HP HW HZ DA DB
    go_wp2_with (first
      | (go_at_call 7; (with_reducible refine Calls.mono (D1.out _ HV0.out bo1 j1 bo2 j2 HCA.out HCB.out) ?_); rintro e v1 ⟨co, cap, rfl, hOc, hb1⟩; have HBv1 := hide hb1; have HOc := hide hOc; have HBc := hide (hb1.trans ((bnew v1 (.cells #[.int .i64 qp, .int .i64 bp, .slice co np cap] 24)).mono hb1.size)); obtain ⟨-, m1, m2, -⟩ := HK.out _ HBv1.out; obtain ⟨s0, s1, s2, s3⟩ := def_cells m1; obtain ⟨t0, t1, t2, t3⟩ := def_cells m2; clear hb1 hOc m1 m2 x0 x1 x2 x3 y0 y1 y2 y3)
      | (go_at_call 8; (with_reducible refine Calls.mono (D2.out _ (HK.out _ HBc.out).1) ?_); rintro e v2 ⟨co2, cap2, rfl, hOd, hb2⟩; have HB2 := hide hb2; have HOd := hide hOd; have HBv2 := hide (HBc.out.trans (hb2.mono HBc.out.size)); have HBd := hide (HBv2.out.trans ((bnew v2 (.cells #[.int .i64 qp, .int .i64 bp, .slice co2 np cap2] 24)).mono HBv2.out.size)); have HDc := hide ((hb2.block _ (by simp)).trans (heap_alloc_new v1 (.cells #[.int .i64 qp, .int .i64 bp, .slice co np cap] 24))); obtain ⟨u0, u1, u2, u3⟩ := def_cells HDc.out; clear hb2 hOd s0 s1 s2 s3 t0 t1 t2 t3)
      | (go_at_call 9; (with_reducible refine Calls.mono (aNum _ _) ?_); rintro e x ⟨rfl, rfl⟩)
      | (go_at_call 10; (with_reducible refine Calls.mono (D3.out _ _ _ co cap co2 cap2 ((HOc.out.below (bnew _ _)).below (HB2.out.trans ((bnew v2 (.cells #[.int .i64 qp, .int .i64 bp, .slice co2 np cap2] 24)).mono HB2.out.size))) (HOd.out.below (bnew _ _))) ?_); rintro e v3 ⟨rfl, hb3⟩; have HB3 := hide hb3; have HBv3 := hide (HBd.out.trans (hb3.mono HBd.out.size)); clear hb3 u0 u1 u2 u3))
    obtain ⟨Bw, hBw⟩ : ∃ Bw, wc.heap.size = Bw := ⟨_, rfl⟩
    have HEB := hide hBw
    obtain ⟨Ew, hEw⟩ : ∃ Ew, v1.heap.size = Ew := ⟨_, rfl⟩
    have HEE := hide hEw
    have HZS : Hid (Bw <= Ew /\ Ew < v2.heap.size /\ v2.heap.size < v3.heap.size) := hide (by
      have z1 := HBv1.out.size
      have z2 := HB2.out.size
      have z3 := HB3.out.size
      simp only [World.size_alloc] at z2 z3
      omega)
    have HDO : Hid (DOwn v3 Bw Ew co np cap (lp.map (·.qs.length))) := hide (by
      have h := HOc.out.down
      rw [HEB.out, HEE.out] at h
      refine h.kept fun g' h1 h2 => ?_
      have z := HZS.out
      rw [HB3.out.block g' (by simp; omega), Below.heap_alloc _ _ _ (by omega), HB2.out.block g' (by simp; omega), Below.heap_alloc _ _ _ (by omega)])
    have HDc3 : Hid (v3.heap[Ew]? = some (.cells #[.int .i64 qp, .int .i64 bp, .slice co np cap] 24)) := hide (by
      have z := HZS.out
      rw [HB3.out.block Ew (by simp; omega), Below.heap_alloc _ _ _ (by omega), ← HEE.out]
      exact HDc.out)
    rw [hEw]
    clear hBw hEw
    go_loopw [19] (fun vi wr => ∃ i : Nat, vi = .int .i64 (i : Int) /\ i <= np /\ Ot Bw Ew v3 wr /\ DOwn wr Bw Ew co np cap (lp.map (·.qs.length))) (fun vi _ => np - (Go.RowKit.intOf vi).toNat)
    case atStart => exact ⟨0, rfl, Nat.zero_le _, Ot.refl _ _ _, HDO.out⟩
    case round =>
      obtain ⟨i, rfl, hi, hot, hdo⟩ := hrel
      have hcd := (hot.block _ (.inr (Nat.le_refl _))).trans HDc3.out
      obtain ⟨y0, y1, y2, y3⟩ := def_cells hcd
      have HOT := hide hot
      have HDD := hide hdo
      clear hot hdo hcd
      by_cases h : i < np
      . have hd : decide ((i : Int) < (np : Int)) = true := decide_eq_true (by omega)
        have hkk : (i : Int) < (np : Int) := by omega
        obtain ⟨mm, hm⟩ : ∃ mm, (lp.map (·.qs.length))[i]? = some mm := ⟨_, List.getElem?_eq_getElem (by rw [List.length_map, HLP.out]; exact h)⟩
        have HM := hide hm
        have hmb : mm <= 17592186044416 := by
          rw [List.getElem?_map] at hm
          obtain ⟨o, ho, rfl⟩ := Option.map_eq_some_iff.1 hm
          exact HSZ.out.2 o (List.mem_of_getElem? ho)
        have hnb := HNN.out
        clear hm
        obtain ⟨gd, -, -, -, rfl, -⟩ := HDD.out.get HM.out
        go_wp2_with fail
        go_loopw [20] (fun vk wr => ∃ k' : Nat, vk = .int .i64 (k' : Int) /\ k' <= mm /\ Ot Bw Ew v3 wr /\ DOwn wr Bw Ew (some ⟨gd, 0, none⟩) np cap (lp.map (·.qs.length))) (fun vk _ => mm - (Go.RowKit.intOf vk).toNat)
        case atStart => exact ⟨0, rfl, Nat.zero_le _, HOT.out, HDD.out⟩
        case round =>
          obtain ⟨k', rfl, hk', hot, hdo⟩ := hrel
          have hcd := (hot.block _ (.inr (Nat.le_refl _))).trans HDc3.out
          obtain ⟨z0, z1, z2, z3⟩ := def_cells hcd
          obtain ⟨aq', cq', u, p1, p2, p3, p4, p5, p6, p7, p8⟩ := hdo.getS HM.out
          have HOT2 := hide hot
          have HDD2 := hide hdo
          by_cases hk : k' < mm
          . have hd2 : decide ((k' : Int) < (mm : Int)) = true := decide_eq_true (by omega)
            have hkk2 : (k' : Int) < (mm : Int) := by omega
            obtain ⟨g, x, rfl, r1, r2, r3, r4, r5, r6⟩ := p8 k' hk
            have HR6 := hide r6
            clear hot hdo hcd p7 p8 r6
            go_wp2_with fail
            go_roundw
            case rel => exact ⟨k' + 1, by go_num, by omega, HOT2.out.setCell _ r1 r2 _, HR6.out _⟩
            case measure => simp [Go.RowKit.intOf]; omega
          . obtain rfl : mm = k' := by omega
            clear hot hdo hcd p7 p8
            go_wp2_with fail
            go_roundw
            case rel => exact ⟨i + 1, by go_num, by omega, HOT2.out, HDD2.out⟩
            case measure => simp [Go.RowKit.intOf]; omega
      . obtain rfl : np = i := by omega
        have HBF : Hid (Below wc.heap.size wc wr) := hide (HBv3.out.trans (by have := HOT.out.below; rw [← HEB.out] at this; exact this))
        obtain ⟨-, f1, f2, f3, f4, -, -⟩ := HK.out _ HBF.out
        obtain ⟨s0, s1, s2, s3⟩ := def_cells f3
        clear f1 f2 f3 f4 HDD HDO HOc HOd HBd HBv2 HBv1 HB2 HB3 HDc HDc3
        go_wp2_with (first
          | (go_at_call 11; (with_reducible refine Calls.mono (D4.out _ (HK.out _ HBF.out).1 bo1 j1 (HK.out _ HBF.out).2.2.2.2.2.1) ?_); rintro e v5 ⟨eo, ecap, rfl, hO5, hb5⟩; have HB5 := hide hb5; have HO5 := hide hO5; have HBv5 := hide (HBF.out.trans (hb5.mono HBF.out.size)); have HBg := hide (HBv5.out.trans ((bnew v5 (.cells #[.int .i64 qq, .int .i64 bq, .slice eo nq ecap] 24)).mono HBv5.out.size)); obtain ⟨-, m1, -⟩ := HK.out _ HBv5.out; obtain ⟨s0, s1, s2, s3⟩ := def_cells m1; clear hb5 hO5 m1)
          | (go_at_call 12; (with_reducible refine Calls.mono (D5.out _ (HK.out _ HBg.out).1) ?_); rintro e v6 ⟨eo2, ecap2, rfl, hO6, hb6⟩; have HB6 := hide hb6; have HO6 := hide hO6; have HBv6 := hide (HBg.out.trans (hb6.mono HBg.out.size)); have HBh := hide (HBv6.out.trans ((bnew v6 (.cells #[.int .i64 qq, .int .i64 bq, .slice eo2 nq ecap2] 24)).mono HBv6.out.size)); have HDg := hide ((hb6.block _ (by simp)).trans (heap_alloc_new v5 (.cells #[.int .i64 qq, .int .i64 bq, .slice eo nq ecap] 24))); obtain ⟨u0, u1, u2, u3⟩ := def_cells HDg.out; clear hb6 hO6 s0 s1 s2 s3)
          | (go_at_call 9; (with_reducible refine Calls.mono (aNum _ _) ?_); rintro e x ⟨rfl, rfl⟩)
          | (go_at_call 10; (with_reducible refine Calls.mono (D6.out _ _ _ eo ecap eo2 ecap2 ((HO5.out.below (bnew _ _)).below (HB6.out.trans ((bnew v6 (.cells #[.int .i64 qq, .int .i64 bq, .slice eo2 nq ecap2] 24)).mono HB6.out.size))) (HO6.out.below (bnew _ _))) ?_); rintro e v7 ⟨rfl, hb7⟩; have HBv7 := hide (HBh.out.trans (hb7.mono HBh.out.size)); obtain ⟨-, m1, m2, m3, m4, -⟩ := HK.out _ HBv7.out; obtain ⟨s0, s1, s2, s3⟩ := def_cells m1; obtain ⟨t0, t1, t2, t3⟩ := def_cells m3; clear hb7 u0 u1 u2 u3 m1 m2 m3 m4)
          | (go_at_call 10; (with_reducible refine Calls.mono (D7.out _ (HK.out _ HBv7.out).1 bo1 j1 (HK.out _ HBv7.out).2.2.2.2.2.1) ?_); rintro e v8 ⟨rfl, hb8⟩; have HBv8 := hide (HBv7.out.trans (hb8.mono HBv7.out.size)); obtain ⟨-, m1, m2, m3, m4, -⟩ := HK.out _ HBv8.out; obtain ⟨s0, s1, s2, s3⟩ := def_cells m2; obtain ⟨t0, t1, t2, t3⟩ := def_cells m4; clear hb8 m1 m2 m3 m4)
          | (go_at_call 10; (with_reducible refine Calls.mono (D8.out _ (HK.out _ HBv8.out).1 bo2 j2 (HK.out _ HBv8.out).2.2.2.2.2.2) ?_); rintro e v9 ⟨rfl, hb9⟩; have HBv9 := hide (HBv8.out.trans (hb9.mono HBv8.out.size)); clear hb9)
          | (go_at_call 13; (with_reducible refine Calls.mono (D9.out _ (HK.out _ HBv9.out).1) ?_); rintro e v10 ⟨rfl, hb10⟩; have HBv10 := hide (HBv9.out.trans (hb10.mono HBv9.out.size)); clear hb10))
        go_ret
        exact ⟨rfl, (HK.out _ HBv10.out).1⟩
end Go.Proofs.YtkbodljmkhnebabGreatDoor.Cir
