import Derived.Test.YtijemaahibjejaaGreatDoorCbda37530
import Derived.Test.YtijemaahibjejaaGreatDoorCb47d12f1
set_option maxRecDepth 100000
set_option maxHeartbeats 4000000
namespace Go.Proofs.YtijemaahibjejaaGreatDoor.Cir
open Go.RowKit Go.Shelf Go.Proofs.YtijemaahibjejaaGreatDoor.Oct Go.Proofs.YtijemaahibjejaaGreatDoor.Tok Go.Proofs.YtijemaahibjejaaGreatDoor.Gt
theorem opC_len (x : COp × Value) : (opC x).length = 6 := rfl
theorem flat_set (xs : List (COp × Value)) : ∀ (i : Nat) (x x' : COp × Value) (j : Nat) (u : Value), xs[i]? = some x -> j < 6 -> opC x' = (opC x).set j u -> (xs.flatMap opC).set (i * 6 + j) u = (xs.set i x').flatMap opC := by
  induction xs with
  | nil => intro i x x' j u h; simp at h
  | cons a r ih =>
    intro i x x' j u h hj hx
    cases i with
    | zero =>
      simp at h
      subst h
      rw [List.set_cons_zero, List.flatMap_cons, List.flatMap_cons, hx, Nat.zero_mul, Nat.zero_add, List.set_append_left _ _ (by rw [opC_len]; exact hj)]
    | succ i =>
      rw [List.set_cons_succ, List.flatMap_cons, List.flatMap_cons, List.set_append_right _ _ (by rw [opC_len]; omega), opC_len, show (i + 1) * 6 + j - 6 = i * 6 + j by omega, ih i x x' j u (by simpa using h) hj hx]
theorem flat_same (xs : List (COp × Value)) : ∀ (i : Nat) (x x' : COp × Value), xs[i]? = some x -> opC x' = opC x -> (xs.set i x').flatMap opC = xs.flatMap opC := by
  induction xs with
  | nil => intro i x x' h; simp at h
  | cons a r ih =>
    intro i x x' h hx
    cases i with
    | zero =>
      simp at h
      subst h
      rw [List.set_cons_zero, List.flatMap_cons, List.flatMap_cons, hx]
    | succ i => rw [List.set_cons_succ, List.flatMap_cons, List.flatMap_cons, ih i x x' (by simpa using h) hx]
theorem Pw.set {xs : List (COp × Value)} (h : Pw xs) {i : Nat} {x : COp × Value} (hx : xs[i]? = some x) (o : COp) : Pw (xs.set i (o, x.2)) := by
  have key : ∀ ys : List (COp × Value), Pw ys ↔ (ys.map (·.2)).Pairwise (fun a b => ∀ g, a.ownBlock = some g -> b.ownBlock = some g -> False) := fun ys => by unfold Pw; rw [List.pairwise_map]
  rw [key] at h ⊢
  have e : (xs.set i (o, x.2)).map (·.2) = xs.map (·.2) := by
    rw [List.map_set]
    apply List.ext_getElem?
    intro j
    rw [List.getElem?_set]
    split
    . rename_i e
      subst e
      split
      . rw [List.getElem?_map, hx]; rfl
      . rename_i hn
        rw [List.getElem?_eq_none (by omega)]
    . rfl
  rw [e]
  exact h
theorem Pw.apart {xs : List (COp × Value)} (h : Pw xs) {i j : Nat} {x y : COp × Value} (hx : xs[i]? = some x) (hy : xs[j]? = some y) (hne : i ≠ j) (g : Nat) (h1 : x.2.ownBlock = some g) (h2 : y.2.ownBlock = some g) : False := by
  unfold Pw at h
  rw [List.pairwise_iff_getElem] at h
  obtain ⟨hi, rfl⟩ := List.getElem?_eq_some_iff.1 hx
  obtain ⟨hj, rfl⟩ := List.getElem?_eq_some_iff.1 hy
  rcases Nat.lt_or_gt_of_ne hne with hlt | hlt
  . exact h i j hi hj hlt g h1 h2
  . exact h j i hj hi hlt g h2 h1
theorem mem_set {α : Type} {l : List α} {i : Nat} {a x : α} (h : x ∈ l.set i a) : x = a ∨ ∃ j, j ≠ i /\ l[j]? = some x := by
  obtain ⟨j, hj, e⟩ := List.getElem_of_mem h
  have e' : (l.set i a)[j]? = some x := by rw [List.getElem?_eq_getElem hj, e]
  rw [List.getElem?_set] at e'
  split at e'
  . left
    have e2 := e'
    simp at e2
    exact e2.2.symm
  . rename_i hij
    exact .inr ⟨j, fun e => hij e.symm, e'⟩
theorem OpsOwn.one {w : World} {B g n c : Nat} {l : List COp} (h : OpsOwn w B (some ⟨g, 0, none⟩) n c l) {i : Nat} {o : COp} (hi : l[i]? = some o) : ∃ ao cr, B <= g /\ g < w.heap.size /\ w.cell? ⟨g, i * 6, none⟩ = some (.int .i64 o.kind) /\ w.cell? ⟨g, i * 6 + 2, none⟩ = some (.slice ao o.qs.length cr) /\ w.cell? ⟨g, i * 6 + 3, none⟩ = some (.int .i64 o.bit) /\ w.cell? ⟨g, i * 6 + 4, none⟩ = some (.int .i64 o.cond) /\ (∀ k, w.frozen? ⟨g, k, none⟩ = false) /\
    (∀ v, OpsOwn (w.setCell ⟨g, i * 6 + 3, none⟩ (.int .i64 v)) B (some ⟨g, 0, none⟩) n c (l.set i { o with bit := v })) /\
    (∀ v, OpsOwn (w.setCell ⟨g, i * 6 + 4, none⟩ (.int .i64 v)) B (some ⟨g, 0, none⟩) n c (l.set i { o with cond := v })) /\
    ∀ (k : Nat) (z : Int), o.qs[k]? = some z -> ∃ gr, ao = some ⟨gr, 0, none⟩ /\ B <= gr /\ gr < w.heap.size /\ gr ≠ g /\ w.cell? ⟨gr, k, none⟩ = some (.int .i64 z) /\ w.frozen? ⟨gr, k, none⟩ = false /\ ∀ v, OpsOwn (w.setCell ⟨gr, k, none⟩ (.int .i64 v)) B (some ⟨g, 0, none⟩) n c (l.set i { o with qs := o.qs.set k v }) := by
  obtain ⟨xs, h1, h2, h3, h4, h5⟩ := h
  rw [h2, List.getElem?_map] at hi
  obtain ⟨x, hx, rfl⟩ := Option.map_eq_some_iff.1 hi
  obtain ⟨ao, cr, e, hrow⟩ := h4 x (List.mem_of_getElem? hx)
  obtain ⟨gcs, gfr, hgc⟩ := own_cells' h3 (k := g) rfl
  have hg := own_lt h3 g rfl
  have at' : ∀ j u, (opC x)[j]? = some u -> w.cell? ⟨g, i * 6 + j, none⟩ = some u := fun j u hu => own_at h3 _ _ (opC_at xs i x hx j u hu)
  have hwr : ∀ (j : Nat) (v : Int) (o' : COp), j < 6 -> o'.qs = x.1.qs -> opC (o', x.2) = (opC x).set j (.int .i64 v) -> OpsOwn (w.setCell ⟨g, i * 6 + j, none⟩ (.int .i64 v)) B (some ⟨g, 0, none⟩) n c (l.set i o') := fun j v o' hj hq hc => by
    refine ⟨xs.set i (o', x.2), by rw [List.length_set]; exact h1, by rw [h2, List.map_set], ?_, fun y hy => ?_, h5.set hx o'⟩
    . rw [← flat_set xs i x (o', x.2) j _ hx hj hc]
      exact own_set h3 _ _
    . have hk : ∀ (b : Nat) (cs : Array Value) (fr : Nat × Nat), w.heap[b]? = some (Obj.cells cs 3 fr) -> (w.setCell ⟨g, i * 6 + j, none⟩ (.int .i64 v)).heap[b]? = w.heap[b]? := fun b cs fr hb => Below.heap_setCell _ _ _ _ (fun e => by
        have e' : b = g := e
        rw [e', hgc] at hb
        simp at hb)
      rcases mem_set hy with rfl | ⟨j', -, hj'⟩
      . rw [hq]
        exact (h4 x (List.mem_of_getElem? hx)).block hk
      . exact (h4 y (List.mem_of_getElem? hj')).block hk
  refine ⟨ao, cr, hg.1, hg.2, at' 0 _ rfl, by rw [at' 2 x.2 rfl, e], at' 3 _ rfl, at' 4 _ rfl, own_free h3, fun v => hwr 3 v _ (by decide) rfl rfl, fun v => hwr 4 v _ (by decide) rfl rfl, fun k z hk => ?_⟩
  have hkl : k < x.1.qs.length := (List.getElem?_eq_some_iff.1 hk).1
  obtain ⟨gr, rfl, -⟩ := own_some hrow (by omega)
  have hgr := own_lt hrow gr rfl
  obtain ⟨rcs, rfr, hrc⟩ := own_cells' hrow (k := gr) rfl
  have hne : gr ≠ g := fun e' => by
    rw [e', hgc] at hrc
    simp at hrc
  refine ⟨gr, rfl, hgr.1, hgr.2, hne, own_at hrow _ _ (by rw [List.getElem?_map, hk]; rfl), own_free hrow _, fun v => ?_⟩
  have hxb : x.2.ownBlock = some gr := by rw [e]; rfl
  refine ⟨xs.set i ({ x.1 with qs := x.1.qs.set k v }, x.2), by rw [List.length_set]; exact h1, by rw [h2, List.map_set], ?_, fun y hy => ?_, h5.set hx _⟩
  . rw [show (xs.set i (({ x.1 with qs := x.1.qs.set k v } : COp), x.2)).flatMap opC = xs.flatMap opC from flat_same xs i x _ hx rfl]
    exact own_of_block h3 (fun b hb => Below.heap_setCell _ _ _ _ (fun e' => by
      have e'' : b = gr := e'
      simp [ob] at hb
      omega))
  . rcases mem_set hy with rfl | ⟨j', hne', hj'⟩
    . refine ⟨some ⟨gr, 0, none⟩, cr, by rw [List.length_set]; exact e, ?_⟩
      rw [List.length_set, List.map_set]
      exact own_set hrow k _
    . obtain ⟨ao', c', e', hrow'⟩ := h4 y (List.mem_of_getElem? hj')
      refine ⟨ao', c', e', own_of_block hrow' (fun b hb => Below.heap_setCell _ _ _ _ (fun e'' => ?_))⟩
      have e3 : b = gr := e''
      subst e3
      exact h5.apart hx hj' (fun e4 => hne' e4.symm) b hxb (by rw [e', ob_eq]; exact hb)
def reO (fq fb : Int -> Int) (o : COp) : COp := { o with qs := o.qs.map fq, bit := if o.kind = 2 then fb o.bit else o.bit, cond := if o.cond ≠ -1 then fb o.cond else o.cond }
def mxL (fq fb : Int -> Int) (ops : List COp) (i : Nat) : List COp := (ops.take i).map (reO fq fb) ++ ops.drop i
theorem mxL_zero (fq fb : Int -> Int) (ops : List COp) : mxL fq fb ops 0 = ops := by simp [mxL]
theorem mxL_end (fq fb : Int -> Int) (ops : List COp) (n : Nat) (h : ops.length <= n) : mxL fq fb ops n = ops.map (reO fq fb) := by
  unfold mxL
  rw [List.take_of_length_le h, List.drop_of_length_le h, List.append_nil]
theorem mxL_at (fq fb : Int -> Int) (ops : List COp) (i : Nat) (o : COp) (h : ops[i]? = some o) : (mxL fq fb ops i)[i]? = some o := by
  have hl := (List.getElem?_eq_some_iff.1 h).1
  unfold mxL
  have e : ((ops.take i).map (reO fq fb)).length = i := by simp; omega
  rw [List.getElem?_append_right (by omega), e, Nat.sub_self, List.getElem?_drop, Nat.add_zero]
  exact h
theorem mxL_lt (fq fb : Int -> Int) (ops : List COp) (i : Nat) (o : COp) (h : ops[i]? = some o) : i < (mxL fq fb ops i).length := (List.getElem?_eq_some_iff.1 (mxL_at fq fb ops i o h)).1
theorem mxL_succ (fq fb : Int -> Int) (ops : List COp) (i : Nat) (o : COp) (h : ops[i]? = some o) : (mxL fq fb ops i).set i (reO fq fb o) = mxL fq fb ops (i + 1) := by
  have hl := (List.getElem?_eq_some_iff.1 h).1
  unfold mxL
  have e : ((ops.take i).map (reO fq fb)).length = i := by simp; omega
  have hd : ops.drop i = o :: ops.drop (i + 1) := by
    rw [List.drop_eq_getElem_cons hl]
    congr 1
    rw [List.getElem?_eq_getElem hl] at h
    exact Option.some.inj h
  rw [List.set_append_right _ _ (by omega), e, Nat.sub_self, hd, List.set_cons_zero, List.take_add_one, h, List.map_append]
  simp
def mqL (fq : Int -> Int) (qs : List Int) (k : Nat) : List Int := (qs.take k).map fq ++ qs.drop k
theorem mqL_zero (fq : Int -> Int) (qs : List Int) : mqL fq qs 0 = qs := by simp [mqL]
theorem mqL_end (fq : Int -> Int) (qs : List Int) (n : Nat) (h : qs.length <= n) : mqL fq qs n = qs.map fq := by
  unfold mqL
  rw [List.take_of_length_le h, List.drop_of_length_le h, List.append_nil]
theorem mqL_at (fq : Int -> Int) (qs : List Int) (k : Nat) (z : Int) (h : qs[k]? = some z) : (mqL fq qs k)[k]? = some z := by
  have hl := (List.getElem?_eq_some_iff.1 h).1
  unfold mqL
  have e : ((qs.take k).map fq).length = k := by simp; omega
  rw [List.getElem?_append_right (by omega), e, Nat.sub_self, List.getElem?_drop, Nat.add_zero]
  exact h
theorem mqL_succ (fq : Int -> Int) (qs : List Int) (k : Nat) (z : Int) (h : qs[k]? = some z) : (mqL fq qs k).set k (fq z) = mqL fq qs (k + 1) := by
  have hl := (List.getElem?_eq_some_iff.1 h).1
  unfold mqL
  have e : ((qs.take k).map fq).length = k := by simp; omega
  have hd : qs.drop k = z :: qs.drop (k + 1) := by
    rw [List.drop_eq_getElem_cons hl]
    congr 1
    rw [List.getElem?_eq_getElem hl] at h
    exact Option.some.inj h
  rw [List.set_append_right _ _ (by omega), e, Nat.sub_self, hd, List.set_cons_zero, List.take_add_one, h, List.map_append]
  simp
theorem set_same {α : Type} {l : List α} {i : Nat} {a : α} (h : l[i]? = some a) : l.set i a = l := by
  apply List.ext_getElem?
  intro j
  rw [List.getElem?_set]
  split
  . rename_i e
    subst e
    rw [h]
    have := (List.getElem?_eq_some_iff.1 h).1
    simp [this]
  . rfl
theorem set_at {α : Type} (l : List α) (i : Nat) (a : α) (h : i < l.length) : (l.set i a)[i]? = some a := by
  rw [List.getElem?_set]
  simp [h]
theorem cEm1 (q : Nat) (z : Int) (b1 : Nat) (aq : Option Addr) (cq : Nat) (l : List Int) (hq : l[q]? = some z) (w : World) (hbx : w.cell? ⟨b1, 0, none⟩ = some (.slice aq l.length cq)) (hN : Ns w aq l) : Calls Tryz.prog 23 #[.int .i64 (q : Int), .pointer (some ⟨b1, 0, none⟩)] w fun e w' => e = .returned (.int .i64 z) /\ w' = w := by
  have hlt := (List.getElem?_eq_some_iff.1 hq).1
  have hb := World.block_lt_of_cell? w _ hbx
  obtain ⟨g, off, rfl, hc⟩ := hN.resolve_left (fun e => by rw [e] at hq; simp at hq)
  have k1 := hc q z hq
  have hg := World.block_lt_of_cell? w _ k1
  generalize l.length = n at *
  have hkk : (q : Int) < (n : Int) := by omega
  clear hc hN hq
  go_enter Tryz.func23, Tryz.ntmps23
  go_wp2_with fail
  go_ret
  exact ⟨rfl, rfl⟩
theorem cEm2 (q : Nat) (z : Int) (b1 : Nat) (aq : Option Addr) (cq : Nat) (l : List Int) (hq : l[q]? = some z) (w : World) (hbx : w.cell? ⟨b1, 0, none⟩ = some (.slice aq l.length cq)) (hN : Ns w aq l) : Calls Tryz.prog 24 #[.int .i64 (q : Int), .pointer (some ⟨b1, 0, none⟩)] w fun e w' => e = .returned (.int .i64 z) /\ w' = w := by
  have hlt := (List.getElem?_eq_some_iff.1 hq).1
  have hb := World.block_lt_of_cell? w _ hbx
  obtain ⟨g, off, rfl, hc⟩ := hN.resolve_left (fun e => by rw [e] at hq; simp at hq)
  have k1 := hc q z hq
  have hg := World.block_lt_of_cell? w _ k1
  generalize l.length = n at *
  have hkk : (q : Int) < (n : Int) := by omega
  clear hc hN hq
  go_enter Tryz.func24, Tryz.ntmps24
  go_wp2_with fail
  go_ret
  exact ⟨rfl, rfl⟩
theorem cRenumE (ops : List COp) (ao : Option Addr) (k : Nat) (hS : Szs ops) (fq fb : Int -> Int) (p1 p2 : Nat) (w : World) (hO : OpsIn w ao ops)
    (hq : ∀ W, Below w.heap.size w W -> ∀ o ∈ ops, ∀ q ∈ o.qs, Calls Tryz.prog 23 #[.int .i64 q, .pointer (some ⟨p1, 0, none⟩)] W fun e w' => e = .returned (.int .i64 (fq q)) /\ w' = W)
    (hb : ∀ W, Below w.heap.size w W -> ∀ o ∈ ops, o.kind = 2 -> Calls Tryz.prog 24 #[.int .i64 o.bit, .pointer (some ⟨p2, 0, none⟩)] W fun e w' => e = .returned (.int .i64 (fb o.bit)) /\ w' = W)
    (hc : ∀ W, Below w.heap.size w W -> ∀ o ∈ ops, o.cond ≠ -1 -> Calls Tryz.prog 24 #[.int .i64 o.cond, .pointer (some ⟨p2, 0, none⟩)] W fun e w' => e = .returned (.int .i64 (fb o.cond)) /\ w' = W) :
    Calls Tryz.prog 15 #[.slice ao ops.length k, .func (.func 23) #[] #[.pointer (some ⟨p1, 0, none⟩)], .func (.func 24) #[] #[.pointer (some ⟨p2, 0, none⟩)]] w fun e w' => ∃ g, e = .returned (.slice (some ⟨g, 0, none⟩) ops.length ops.length) /\ OpsOwn w' w.heap.size (some ⟨g, 0, none⟩) ops.length ops.length (ops.map (reO fq fb)) /\ Below w.heap.size w w' := by
  have c0 := cCopyOpsO ops ao k hS w hO
  have HQ := hide hq
  have HB := hide hb
  have HC := hide hc
  have hsl := hS.1
  have HSz := hide hS.2
  obtain ⟨n, hn⟩ : ∃ n, ops.length = n := ⟨_, rfl⟩
  have HL := hide hn
  rw [hn] at c0 hsl ⊢
  clear hn hq hb hc hO hS
  go_enter Tryz.func15, Tryz.ntmps15
  go_wp2_with (first | (go_at_call 37; refine c0.mono ?_; rintro e w1 ⟨g, rfl, hO1, hb1⟩; have HO1 := hide hO1; have HB1 := hide hb1; clear hO1 hb1 c0))
  go_loopw [16] (fun vi wr => ∃ i : Nat, vi = .int .i64 (i : Int) /\ i <= n /\ Below w.heap.size w wr /\ OpsOwn wr w.heap.size (some ⟨g, 0, none⟩) n n (mxL fq fb ops i)) (fun vi _ => n - (Go.RowKit.intOf vi).toNat)
  case atStart => exact ⟨0, rfl, Nat.zero_le _, HB1.out, by rw [mxL_zero]; exact HO1.out⟩
  case round =>
    obtain ⟨i, rfl, hi, hbr, hOr⟩ := hrel
    by_cases h : i < n
    . have hd : decide ((i : Int) < (n : Int)) = true := decide_eq_true (by omega)
      have hkk : (i : Int) < (n : Int) := by omega
      obtain ⟨o, ho⟩ : ∃ o, ops[i]? = some o := ⟨_, List.getElem?_eq_getElem (by rw [HL.out]; exact h)⟩
      have hom := List.mem_of_getElem? ho
      have hmb := HSz.out o hom
      obtain ⟨aq, cq, g1, g2, k0, k2, k3, k4, kf, -, -, -⟩ := hOr.one (mxL_at fq fb ops i o ho)
      have HOr := hide hOr
      have HBr := hide hbr
      have HOO := hide ho
      have HOM := hide hom
      have HG := hide (And.intro g1 k2)
      clear ho hom hOr hbr
      obtain ⟨m, hm⟩ : ∃ m, o.qs.length = m := ⟨_, rfl⟩
      have HM := hide hm
      rw [hm] at k2 hmb HG
      clear hm
      go_wp2_with fail
      go_loopw [27] (fun vk wr => ∃ k' : Nat, vk = .int .i64 (k' : Int) /\ k' <= m /\ Below w.heap.size w wr /\ wr.cell? ⟨g, i * 6 + 2, none⟩ = some (.slice aq m cq) /\ OpsOwn wr w.heap.size (some ⟨g, 0, none⟩) n n ((mxL fq fb ops i).set i { o with qs := mqL fq o.qs k' })) (fun vk _ => m - (Go.RowKit.intOf vk).toNat)
      case atStart => exact ⟨0, rfl, Nat.zero_le _, HBr.out, HG.out.2, by rw [mqL_zero, set_same (mxL_at fq fb ops i o HOO.out)]; exact HOr.out⟩
      case round =>
        obtain ⟨k', rfl, hk', hbr, hhd, hOr⟩ := hrel
        have hli := set_at (mxL fq fb ops i) i { o with qs := mqL fq o.qs k' } (mxL_lt fq fb ops i o HOO.out)
        obtain ⟨aq', cq', g1', g2', j0, j2, j3, j4, jf, jb, jc, jr⟩ := hOr.one hli
        simp only at j0 j2 j3 j4 jr jb jc
        rw [hhd] at j2
        simp only [Option.some.injEq, Value.slice.injEq] at j2
        obtain ⟨rfl, -, rfl⟩ := j2
        have HBr2 := hide hbr
        have HOr2 := hide hOr
        have HJB := hide jb
        have HJC := hide jc
        by_cases hk : k' < m
        . have hd2 : decide ((k' : Int) < (m : Int)) = true := decide_eq_true (by omega)
          have hkk2 : (k' : Int) < (m : Int) := by omega
          obtain ⟨z, hz⟩ : ∃ z, o.qs[k']? = some z := ⟨_, List.getElem?_eq_getElem (by rw [HM.out]; exact hk)⟩
          obtain ⟨gr, rfl, r1, r2, r3, r4, r5, r6⟩ := jr k' z (mqL_at fq o.qs k' z hz)
          have cA := fun V (hV : Below wr.heap.size wr V) => HQ.out V (hbr.trans (hV.mono hbr.size)) o HOM.out z (List.mem_of_getElem? hz)
          have HK : Hid (∀ V, Below wr.heap.size wr V -> V.cell? ⟨g, i * 6 + 2, none⟩ = some (.slice (some ⟨gr, 0, none⟩) m cq) /\ V.cell? ⟨gr, k', none⟩ = some (.int .i64 z) /\ V.frozen? ⟨gr, k', none⟩ = false /\ g < V.heap.size /\ gr < V.heap.size) := hide (fun V hV => ⟨(hV.cell (p := ⟨g, i * 6 + 2, none⟩) g2').trans hhd, (hV.cell (p := ⟨gr, k', none⟩) r2).trans r4, (hV.frozen (p := ⟨gr, k', none⟩) r2).trans r5, Nat.lt_of_lt_of_le g2' hV.size, Nat.lt_of_lt_of_le r2 hV.size⟩)
          have HF : Hid (∀ V, Below wr.heap.size wr V -> OpsOwn (V.setCell ⟨gr, k', none⟩ (.int .i64 (fq z))) w.heap.size (some ⟨g, 0, none⟩) n n ((mxL fq fb ops i).set i { o with qs := mqL fq o.qs (k' + 1) }) /\ Below w.heap.size w (V.setCell ⟨gr, k', none⟩ (.int .i64 (fq z))) /\ (V.setCell ⟨gr, k', none⟩ (.int .i64 (fq z))).cell? ⟨g, i * 6 + 2, none⟩ = some (.slice (some ⟨gr, 0, none⟩) m cq)) := hide (fun V hV => by
            obtain ⟨ax, cx, -, -, -, x2, -, -, -, -, -, xr⟩ := (hOr.below hV).one hli
            obtain ⟨gr', e', -, -, -, -, -, x6⟩ := xr k' z (mqL_at fq o.qs k' z hz)
            rw [(hV.cell (p := ⟨g, i * 6 + 2, none⟩) g2').trans hhd] at x2
            simp only [Option.some.injEq, Value.slice.injEq] at x2
            rw [e'] at x2
            have e4 : gr = gr' := by simpa using x2.1
            subst e4
            refine ⟨?_, (hbr.trans (hV.mono hbr.size)).setCell (p := ⟨gr, k', none⟩) r1 _, (World.cell?_of_block (w := V) (Below.heap_setCell _ _ _ _ (by show g ≠ gr; omega))).trans ((hV.cell (p := ⟨g, i * 6 + 2, none⟩) g2').trans hhd)⟩
            have := x6 (fq z)
            rw [List.set_set] at this
            simp only at this
            rw [mqL_succ fq o.qs k' z hz] at this
            exact this)
          clear hOr jr jb jc r6 hbr hz
          go_wp2_with fail
          refine wp_region_quiet_last (C := fun W => Below wr.heap.size wr W) (by kernel_rfl) 9 rfl (by kernel_rfl) (by kernel_rfl) (below_drewN (Below.refl _ _) 1) ?_
          simp only [List.take_succ_cons, List.take_zero]
          repeat
            refine wpQuiet_step (fun K hK => ?_)
            go_simp
            first
              | (refine hK _ ?_; clear hK K)
              | (apply Exists.intro
                 refine ⟨fun W hW => ?_, hK _ ?_⟩
                 first
                   | ((with_reducible refine Calls.mono (cA _ hW) ?_); rintro e x ⟨rfl, rfl⟩; exact ⟨rfl, hW⟩)
                   | (obtain ⟨a0, a1, a2, a3, a4⟩ := HK.out W hW; go_simp; rfl)
                 clear hK K)
          refine wpQuiet_nil ?_
          intro W hW
          obtain ⟨a0, a1, a2, a3, a4⟩ := HK.out W hW
          have HW := hide (HF.out W hW)
          clear hW HK HF
          go_wp2_with fail
          go_roundw
          case rel => exact ⟨k' + 1, by go_num, by omega, HW.out.2.1, HW.out.2.2, HW.out.1⟩
          case measure => simp [Go.RowKit.intOf]; omega
        . obtain rfl : m = k' := by omega
          have HOe : Hid (OpsOwn wr w.heap.size (some ⟨g, 0, none⟩) n n ((mxL fq fb ops i).set i { o with qs := o.qs.map fq })) := hide (by
            have := HOr2.out
            rwa [mqL_end fq o.qs m (by rw [HM.out]; exact Nat.le_refl _)] at this)
          have hle := mxL_lt fq fb ops i o HOO.out
          have HLE := hide hle
          clear hOr jr jb jc HOr2 HJB HJC hli hle
          obtain ⟨-, -, -, -, -, -, -, -, -, eb, ec, -⟩ := HOe.out.one (set_at _ i { o with qs := o.qs.map fq } HLE.out)
          simp only [List.set_set] at eb ec
          have HEB := hide eb
          have HEC := hide ec
          clear eb ec
          by_cases hk2 : o.kind = 2
          . have cB := HB.out wr hbr o HOM.out hk2
            have eK : (o.kind == 2) = true := by simpa using hk2
            obtain ⟨-, -, -, x2', x0, -, x3, x4, xf, -, xc, -⟩ := (HEB.out (fb o.bit)).one (set_at _ i _ HLE.out)
            simp only [List.set_set] at x0 x3 x4 xc
            have HXC := hide xc
            have HXB := hide (hbr.setCell (p := ⟨g, i * 6 + 3, none⟩) g1 (.int .i64 (fb o.bit)))
            by_cases hcn : o.cond = -1
            . have eC : (o.cond == -1) = true := by simpa using hcn
              have eD : (o.cond != -1) = false := by simpa using hcn
              have HFin : Hid (OpsOwn (wr.setCell ⟨g, i * 6 + 3, none⟩ (.int .i64 (fb o.bit))) w.heap.size (some ⟨g, 0, none⟩) n n (mxL fq fb ops (i + 1))) := hide (by
                have := HEB.out (fb o.bit)
                rw [← mxL_succ fq fb ops i o HOO.out]
                simpa [reO, hk2, hcn] using this)
              clear hbr xc hk2 hcn
              go_wp2_with (first | (go_at_call 24; (with_reducible refine Calls.mono cB ?_); rintro e w5 ⟨rfl, hw⟩; obtain rfl := hw.symm))
              go_roundw
              case rel => exact ⟨i + 1, by go_num, by omega, HXB.out, HFin.out⟩
              case measure => simp [Go.RowKit.intOf]; omega
            . have cC := HC.out _ HXB.out o HOM.out hcn
              have eC : (o.cond == -1) = false := by simpa using hcn
              have eD : (o.cond != -1) = true := by simpa using hcn
              have HFin : Hid (OpsOwn ((wr.setCell ⟨g, i * 6 + 3, none⟩ (.int .i64 (fb o.bit))).setCell ⟨g, i * 6 + 4, none⟩ (.int .i64 (fb o.cond))) w.heap.size (some ⟨g, 0, none⟩) n n (mxL fq fb ops (i + 1))) := hide (by
                have := HXC.out (fb o.cond)
                rw [← mxL_succ fq fb ops i o HOO.out]
                simpa [reO, hk2, hcn] using this)
              have HXB2 := hide (HXB.out.setCell (p := ⟨g, i * 6 + 4, none⟩) g1 (.int .i64 (fb o.cond)))
              clear hbr xc hk2 hcn
              go_wp2_with (first | (go_at_call 24; (with_reducible refine Calls.mono cB ?_); rintro e w5 ⟨rfl, hw⟩; obtain rfl := hw.symm) | (go_at_call 24; (with_reducible refine Calls.mono cC ?_); rintro e w5 ⟨rfl, hw⟩; obtain rfl := hw.symm))
              go_roundw
              case rel => exact ⟨i + 1, by go_num, by omega, HXB2.out, HFin.out⟩
              case measure => simp [Go.RowKit.intOf]; omega
          . have eK : (o.kind == 2) = false := by simpa using hk2
            by_cases hcn : o.cond = -1
            . have eC : (o.cond == -1) = true := by simpa using hcn
              have eD : (o.cond != -1) = false := by simpa using hcn
              have HFin : Hid (OpsOwn wr w.heap.size (some ⟨g, 0, none⟩) n n (mxL fq fb ops (i + 1))) := hide (by
                have := HOe.out
                rw [← mxL_succ fq fb ops i o HOO.out]
                simpa [reO, hk2, hcn] using this)
              clear hbr hk2 hcn
              go_wp2_with fail
              go_roundw
              case rel => exact ⟨i + 1, by go_num, by omega, HBr2.out, HFin.out⟩
              case measure => simp [Go.RowKit.intOf]; omega
            . have cC := HC.out wr hbr o HOM.out hcn
              have eC : (o.cond == -1) = false := by simpa using hcn
              have eD : (o.cond != -1) = true := by simpa using hcn
              have HFin : Hid (OpsOwn (wr.setCell ⟨g, i * 6 + 4, none⟩ (.int .i64 (fb o.cond))) w.heap.size (some ⟨g, 0, none⟩) n n (mxL fq fb ops (i + 1))) := hide (by
                have := HEC.out (fb o.cond)
                rw [← mxL_succ fq fb ops i o HOO.out]
                simpa [reO, hk2, hcn] using this)
              have HXB2 := hide (hbr.setCell (p := ⟨g, i * 6 + 4, none⟩) g1 (.int .i64 (fb o.cond)))
              clear hbr hk2 hcn
              go_wp2_with (first | (go_at_call 24; (with_reducible refine Calls.mono cC ?_); rintro e w5 ⟨rfl, hw⟩; obtain rfl := hw.symm))
              go_roundw
              case rel => exact ⟨i + 1, by go_num, by omega, HXB2.out, HFin.out⟩
              case measure => simp [Go.RowKit.intOf]; omega
    . obtain rfl : n = i := by omega
      have HF : Hid (OpsOwn wr w.heap.size (some ⟨g, 0, none⟩) n n (ops.map (reO fq fb))) := hide (by
        have := hOr
        rwa [mxL_end fq fb ops n (by rw [HL.out]; exact Nat.le_refl _)] at this)
      have HBr := hide hbr
      clear hOr hbr
      go_wp2_with fail
      go_ret
      exact ⟨g, rfl, HF.out, HBr.out⟩
def lk (l : List Int) (q : Int) : Int := l.getD q.toNat 0
theorem lk_at (l : List Int) (q : Int) (h0 : 0 <= q) (h1 : q < (l.length : Int)) : l[q.toNat]? = some (lk l q) := by
  have h : q.toNat < l.length := by omega
  unfold lk
  simp [List.getD, List.getElem?_eq_getElem h]
theorem chk_rng (k : Int) (l : List Int) (n : Int) (h : chkP k l n = 0) : ∀ z ∈ l, 0 <= z /\ z < n := by
  unfold chkP at h
  split at h
  . cases h
  . split at h
    . cases h
    . rename_i ha
      split at h
      . cases h
      . rename_i hm
        have ha' : apP (rw' k).q l = true := by simpa using ha
        unfold apP at ha'
        rw [Bool.and_eq_true, decide_eq_true_eq] at ha'
        intro z hz
        obtain ⟨j, hj, rfl⟩ := List.getElem_of_mem hz
        have e : l[j] = l.getD j 0 := by simp [List.getD, List.getElem?_eq_getElem hj]
        have a1 := apG_pos l l.length 0 ha'.2 j (by omega) (by omega)
        have a2 := mxG_bd l n _ hm j (by omega)
        rw [e]
        exact ⟨a1, a2⟩
theorem may_rng {q b : Int} {o : COp} (h : mayP q b o = true) : (∀ z ∈ o.qs, 0 <= z /\ z < q) /\ (o.kind = 2 -> 0 <= o.bit /\ o.bit < b) /\ (o.cond ≠ -1 -> 0 <= o.cond /\ o.cond < b) := by
  have hap : apaP o.qs q = true -> ∀ z ∈ o.qs, 0 <= z /\ z < q := fun h z hz => by
    unfold apaP at h
    rw [Bool.and_eq_true, List.all_eq_true] at h
    exact wi_in (h.2 z hz)
  have hng : noGP o = true -> o.cond = -1 := fun h => by
    unfold noGP freeP at h
    simp only [Bool.and_eq_true, decide_eq_true_eq] at h
    exact h.2.1
  unfold mayP at h
  split at h
  . rename_i hk
    simp only [Bool.and_eq_true, decide_eq_true_eq, Bool.or_eq_true] at h
    obtain ⟨⟨h1, h2⟩, h3⟩ := h
    refine ⟨chk_rng _ _ _ h1, fun e => by omega, fun e => ?_⟩
    rcases h3 with h3 | h3
    . unfold freeP at h3
      simp only [Bool.and_eq_true, decide_eq_true_eq] at h3
      exact absurd h3.1 e
    . unfold askP at h3
      rw [Bool.and_eq_true] at h3
      exact wi_in h3.1
  . split at h
    . simp only [Bool.and_eq_true, decide_eq_true_eq] at h
      obtain ⟨⟨⟨h1, h2⟩, h3⟩, h4⟩ := h
      exact ⟨hap h3, fun _ => wi_in h4, fun e => absurd (hng h1) e⟩
    . rename_i hk2
      split at h
      . simp only [Bool.and_eq_true, decide_eq_true_eq] at h
        obtain ⟨⟨⟨h1, h2⟩, h3⟩, h4⟩ := h
        exact ⟨hap h3, fun e => absurd e hk2, fun e => absurd (hng h1) e⟩
      . split at h
        . simp only [Bool.and_eq_true, decide_eq_true_eq] at h
          obtain ⟨⟨⟨h1, h2⟩, h3⟩, h4⟩ := h
          exact ⟨hap h3, fun e => absurd e hk2, fun e => absurd (hng h1) e⟩
        . cases h
def fitP (c : Circ) (qs bs : List Int) (n m : Int) : Prop := (qs.length : Int) = c.q /\ (bs.length : Int) = c.b /\ cntP n m = true /\ apaP qs n = true /\ apaP bs m = true
instance (c : Circ) (qs bs : List Int) (n m : Int) : Decidable (fitP c qs bs n m) := by unfold fitP; infer_instance
def embP (c : Circ) (qs bs : List Int) (n m : Int) : Circ × Int := if (chkC c).2 ≠ 0 then (nulC, 80) else if fitP c qs bs n m then (⟨n, m, c.ops.map (reO (lk qs) (lk bs))⟩, 0) else (nulC, 2)
theorem emb_boxes (w : World) (q0 b0 : Int) (ao aq ab : Option Addr) (n0 k nq cq nb cb : Nat) : Below w.heap.size w ((((w.alloc (.cells #[.int .i64 q0, .int .i64 b0, .slice ao n0 k] 24)).alloc (.cells #[.slice aq nq cq] 26)).alloc (.cells #[.slice ab nb cb] 26)).alloc (.cells #[.int .i64 0, .int .i64 0, .slice none 0 0] 24)) /\ ((((w.alloc (.cells #[.int .i64 q0, .int .i64 b0, .slice ao n0 k] 24)).alloc (.cells #[.slice aq nq cq] 26)).alloc (.cells #[.slice ab nb cb] 26)).alloc (.cells #[.int .i64 0, .int .i64 0, .slice none 0 0] 24)).heap[w.heap.size]? = some (.cells #[.int .i64 q0, .int .i64 b0, .slice ao n0 k] 24) /\ ((((w.alloc (.cells #[.int .i64 q0, .int .i64 b0, .slice ao n0 k] 24)).alloc (.cells #[.slice aq nq cq] 26)).alloc (.cells #[.slice ab nb cb] 26)).alloc (.cells #[.int .i64 0, .int .i64 0, .slice none 0 0] 24)).heap[w.heap.size + 1]? = some (.cells #[.slice aq nq cq] 26) /\ ((((w.alloc (.cells #[.int .i64 q0, .int .i64 b0, .slice ao n0 k] 24)).alloc (.cells #[.slice aq nq cq] 26)).alloc (.cells #[.slice ab nb cb] 26)).alloc (.cells #[.int .i64 0, .int .i64 0, .slice none 0 0] 24)).heap[w.heap.size + 1 + 1]? = some (.cells #[.slice ab nb cb] 26) /\ ((((w.alloc (.cells #[.int .i64 q0, .int .i64 b0, .slice ao n0 k] 24)).alloc (.cells #[.slice aq nq cq] 26)).alloc (.cells #[.slice ab nb cb] 26)).alloc (.cells #[.int .i64 0, .int .i64 0, .slice none 0 0] 24)).heap[w.heap.size + 1 + 1 + 1]? = some (.cells #[.int .i64 0, .int .i64 0, .slice none 0 0] 24) := by
  refine ⟨(((bnew _ _).trans ((bnew _ _).mono (by simp))).trans ((bnew _ _).mono (by simp; omega))).trans ((bnew _ _).mono (by simp; omega)), ?_, ?_, ?_, ?_⟩
  . exact (Below.heap_alloc _ _ _ (by simp; omega)).trans ((Below.heap_alloc _ _ _ (by simp; omega)).trans ((Below.heap_alloc _ _ _ (by simp)).trans (heap_alloc_new _ _)))
  . refine (Below.heap_alloc _ _ _ (by simp)).trans ((Below.heap_alloc _ _ _ (by simp)).trans ?_)
    have := heap_alloc_new (w.alloc (.cells #[.int .i64 q0, .int .i64 b0, .slice ao n0 k] 24)) (.cells #[.slice aq nq cq] 26)
    simpa using this
  . refine (Below.heap_alloc _ _ _ (by simp)).trans ?_
    have := heap_alloc_new ((w.alloc (.cells #[.int .i64 q0, .int .i64 b0, .slice ao n0 k] 24)).alloc (.cells #[.slice aq nq cq] 26)) (.cells #[.slice ab nb cb] 26)
    simpa using this
  . have := heap_alloc_new (((w.alloc (.cells #[.int .i64 q0, .int .i64 b0, .slice ao n0 k] 24)).alloc (.cells #[.slice aq nq cq] 26)).alloc (.cells #[.slice ab nb cb] 26)) (.cells #[.int .i64 0, .int .i64 0, .slice none 0 0] 24)
    simpa using this
theorem chk80 (c : Circ) (h : (chkC c).2 ≠ 0) : (chkC c).2 = 80 := by
  unfold chkC at h ⊢
  split
  . rfl
  . rename_i hn
    rw [if_neg hn] at h
    split
    . rfl
    . rename_i hb
      rw [hb] at h
      exact absurd rfl h
theorem cell_one {w : World} {g : Nat} {v : Value} {t : TypeId} (h : w.heap[g]? = some (.cells #[v] t (0, 0))) : w.cell? ⟨g, 0, none⟩ = some v := by simp [World.cell?, h]
theorem cEmbed_80 (c : Circ) (ao : Option Addr) (k : Nat) (qs bs : List Int) (aq ab : Option Addr) (cq cb : Nat) (n m : Int) (hk : (chkC c).2 ≠ 0) (hlq : qs.length <= 1000000000000000) (hcq : qs.length <= cq) (hlb : bs.length <= 1000000000000000) (hcb : bs.length <= cb) (w : World) (hT : Tb w) (hC : Ci w c ao k) (hNq : Ns w aq qs) (hNb : Ns w ab bs) : Calls Tryz.prog 10 #[cV c ao k, .slice aq qs.length cq, .slice ab bs.length cb, .int .i64 n, .int .i64 m] w fun e w' => e = .returned (.tuple #[.agg #[.int .i64 0, .int .i64 0, .slice none 0 0], .int .i64 (chkC c).2]) /\ Below w.heap.size w w' := by
  have c1 := fun V (h : Below w.heap.size w V) => cCheck c ao k V (hT.below h) (hC.below h)
  have c2 := fun V => cCountsMay n m V
  have c3 := fun V (h : Below w.heap.size w V) => cApart aq cq qs n hlq hcq V (hNq.below h)
  have c4 := fun V (h : Below w.heap.size w V) => cApart ab cb bs m hlb hcb V (hNb.below h)
  obtain ⟨q0, b0, l0⟩ := c
  unfold cV at *
  simp only at *
  generalize (chkC ⟨q0, b0, l0⟩).1 = z1 at *
  generalize l0.length = n0 at *
  generalize qs.length = nq at *
  generalize bs.length = nb at *
  have HW := hide (emb_boxes w q0 b0 ao aq ab n0 k nq cq nb cb)
  generalize hW0 : ((((w.alloc (.cells #[.int .i64 q0, .int .i64 b0, .slice ao n0 k] 24)).alloc (.cells #[.slice aq nq cq] 26)).alloc (.cells #[.slice ab nb cb] 26)).alloc (.cells #[.int .i64 0, .int .i64 0, .slice none 0 0] 24)) = W0 at HW
  have HZ := hide hW0
  have HP : Hid (∀ V, Below W0.heap.size W0 V -> Below w.heap.size w V /\ V.heap[w.heap.size]? = some (.cells #[.int .i64 q0, .int .i64 b0, .slice ao n0 k] 24) /\ V.heap[w.heap.size + 1]? = some (.cells #[.slice aq nq cq] 26) /\ V.heap[w.heap.size + 1 + 1]? = some (.cells #[.slice ab nb cb] 26) /\ V.heap[w.heap.size + 1 + 1 + 1]? = some (.cells #[.int .i64 0, .int .i64 0, .slice none 0 0] 24)) := hide (fun V h => ⟨HW.out.1.trans (h.mono HW.out.1.size), (h.block _ (Array.getElem?_eq_some_iff.1 HW.out.2.1).1).trans HW.out.2.1, (h.block _ (Array.getElem?_eq_some_iff.1 HW.out.2.2.1).1).trans HW.out.2.2.1, (h.block _ (Array.getElem?_eq_some_iff.1 HW.out.2.2.2.1).1).trans HW.out.2.2.2.1, (h.block _ (Array.getElem?_eq_some_iff.1 HW.out.2.2.2.2).1).trans HW.out.2.2.2.2⟩)
  clear hW0 hC hNq hNb hT
  generalize (chkC ⟨q0, b0, l0⟩).2 = e1 at *
  have f1 : (e1 == 0) = false := by simpa using hk
  have f2 : (e1 != 0) = true := by simpa using hk
  clear hk
  go_enter Tryz.func10, Tryz.ntmps10
  go_wp2_with fail
  rw [HZ.out]
  go_wp2_with (first
    | (go_at_call 13; (with_reducible refine Calls.mono (c1 _ HW.out.1) ?_); rintro e w1 ⟨rfl, hb1⟩; obtain ⟨p1, m1, m2, m3, m4⟩ := HP.out w1 hb1; obtain ⟨x0, x1, x2, x3⟩ := def_cells m1; have y1 := cell_one m2; have y2 := cell_one m3; have y3 := (Array.getElem?_eq_some_iff.1 m2).1; have y4 := (Array.getElem?_eq_some_iff.1 m3).1; obtain ⟨u0, u1, u2, u3⟩ := def_cells m4; have uf : ∀ i, w1.frozen? ⟨w.heap.size + 1 + 1 + 1, i, none⟩ = false := fun i => (by simp [World.frozen?, m4]))
    | (go_at_call 21; (with_reducible refine Calls.mono (c2 _) ?_); rintro e w2 ⟨rfl, hw⟩; obtain rfl := hw.symm)
    | (go_at_call_of 22 (Value.slice aq nq cq); (with_reducible refine Calls.mono (c3 _ p1) ?_); rintro e w3 ⟨rfl, hw⟩; obtain rfl := hw.symm)
    | (go_at_call 22; (with_reducible refine Calls.mono (c4 _ p1) ?_); rintro e w4 ⟨rfl, hw⟩; obtain rfl := hw.symm))
  rw [c3_set _ _ _ _ _ _ _ _ _ m4]
  refine bodyPost_ret (results_ct rfl _ _ (w.heap.size + 1 + 1 + 1) _ #[.int .i64 0, .int .i64 0, .slice none 0 0] _ _ rfl (setRow_heap _ _ _ _ _ _ m4) Tryz.underlying24 rfl (by exact infoCi)) rfl ?_
  exact ⟨rfl, Below.row p1 _ _ (by omega)⟩
theorem cEmbed_2 (c : Circ) (ao : Option Addr) (k : Nat) (qs bs : List Int) (aq ab : Option Addr) (cq cb : Nat) (n m : Int) (hk : (chkC c).2 = 0) (hf : ¬ fitP c qs bs n m) (hlq : qs.length <= 1000000000000000) (hcq : qs.length <= cq) (hlb : bs.length <= 1000000000000000) (hcb : bs.length <= cb) (w : World) (hT : Tb w) (hC : Ci w c ao k) (hNq : Ns w aq qs) (hNb : Ns w ab bs) : Calls Tryz.prog 10 #[cV c ao k, .slice aq qs.length cq, .slice ab bs.length cb, .int .i64 n, .int .i64 m] w fun e w' => e = .returned (.tuple #[.agg #[.int .i64 0, .int .i64 0, .slice none 0 0], .int .i64 2]) /\ Below w.heap.size w w' := by
  have c1 := fun V (h : Below w.heap.size w V) => cCheck c ao k V (hT.below h) (hC.below h)
  have c2 := fun V => cCountsMay n m V
  have c3 := fun V (h : Below w.heap.size w V) => cApart aq cq qs n hlq hcq V (hNq.below h)
  have c4 := fun V (h : Below w.heap.size w V) => cApart ab cb bs m hlb hcb V (hNb.below h)
  rw [hk] at c1
  unfold fitP at hf
  generalize cntP n m = f3 at *
  generalize apaP qs n = f4 at *
  generalize apaP bs m = f5 at *
  obtain ⟨q0, b0, l0⟩ := c
  unfold cV at *
  simp only at *
  generalize (chkC ⟨q0, b0, l0⟩).1 = z1 at *
  generalize l0.length = n0 at *
  generalize qs.length = nq at *
  generalize bs.length = nb at *
  have HW := hide (emb_boxes w q0 b0 ao aq ab n0 k nq cq nb cb)
  generalize hW0 : ((((w.alloc (.cells #[.int .i64 q0, .int .i64 b0, .slice ao n0 k] 24)).alloc (.cells #[.slice aq nq cq] 26)).alloc (.cells #[.slice ab nb cb] 26)).alloc (.cells #[.int .i64 0, .int .i64 0, .slice none 0 0] 24)) = W0 at HW
  have HZ := hide hW0
  have HP : Hid (∀ V, Below W0.heap.size W0 V -> Below w.heap.size w V /\ V.heap[w.heap.size]? = some (.cells #[.int .i64 q0, .int .i64 b0, .slice ao n0 k] 24) /\ V.heap[w.heap.size + 1]? = some (.cells #[.slice aq nq cq] 26) /\ V.heap[w.heap.size + 1 + 1]? = some (.cells #[.slice ab nb cb] 26) /\ V.heap[w.heap.size + 1 + 1 + 1]? = some (.cells #[.int .i64 0, .int .i64 0, .slice none 0 0] 24)) := hide (fun V h => ⟨HW.out.1.trans (h.mono HW.out.1.size), (h.block _ (Array.getElem?_eq_some_iff.1 HW.out.2.1).1).trans HW.out.2.1, (h.block _ (Array.getElem?_eq_some_iff.1 HW.out.2.2.1).1).trans HW.out.2.2.1, (h.block _ (Array.getElem?_eq_some_iff.1 HW.out.2.2.2.1).1).trans HW.out.2.2.2.1, (h.block _ (Array.getElem?_eq_some_iff.1 HW.out.2.2.2.2).1).trans HW.out.2.2.2.2⟩)
  clear hW0 hC hNq hNb hT
  clear hk
  by_cases h1 : (nq : Int) = q0
  . have g1 : ((nq : Int) == q0) = true := by simpa using h1
    by_cases h2 : (nb : Int) = b0
    . have g2 : ((nb : Int) == b0) = true := by simpa using h2
      have HF : Hid (f3 = false ∨ (f3 = true /\ f4 = false) ∨ (f3 = true /\ f4 = true /\ f5 = false)) := hide (by
        cases f3 <;> cases f4 <;> cases f5 <;> simp_all)
      clear hf h1 h2
      rcases HF.out with rfl | ⟨rfl, rfl⟩ | ⟨rfl, rfl, rfl⟩
      . clear HF
        go_enter Tryz.func10, Tryz.ntmps10
        go_wp2_with fail
        rw [HZ.out]
        go_wp2_with (first
          | (go_at_call 13; (with_reducible refine Calls.mono (c1 _ HW.out.1) ?_); rintro e w1 ⟨rfl, hb1⟩; obtain ⟨p1, m1, m2, m3, m4⟩ := HP.out w1 hb1; obtain ⟨x0, x1, x2, x3⟩ := def_cells m1; have y1 := cell_one m2; have y2 := cell_one m3; have y3 := (Array.getElem?_eq_some_iff.1 m2).1; have y4 := (Array.getElem?_eq_some_iff.1 m3).1; obtain ⟨u0, u1, u2, u3⟩ := def_cells m4; have uf : ∀ i, w1.frozen? ⟨w.heap.size + 1 + 1 + 1, i, none⟩ = false := fun i => (by simp [World.frozen?, m4]))
          | (go_at_call 21; (with_reducible refine Calls.mono (c2 _) ?_); rintro e w2 ⟨rfl, hw⟩; obtain rfl := hw.symm)
          | (go_at_call_of 22 (Value.slice aq nq cq); (with_reducible refine Calls.mono (c3 _ p1) ?_); rintro e w3 ⟨rfl, hw⟩; obtain rfl := hw.symm)
          | (go_at_call 22; (with_reducible refine Calls.mono (c4 _ p1) ?_); rintro e w4 ⟨rfl, hw⟩; obtain rfl := hw.symm))
        rw [c3_set _ _ _ _ _ _ _ _ _ m4]
        refine bodyPost_ret (results_ct rfl _ _ (w.heap.size + 1 + 1 + 1) _ #[.int .i64 0, .int .i64 0, .slice none 0 0] _ _ rfl (setRow_heap _ _ _ _ _ _ m4) Tryz.underlying24 rfl (by exact infoCi)) rfl ?_
        exact ⟨rfl, Below.row p1 _ _ (by omega)⟩
      . clear HF
        go_enter Tryz.func10, Tryz.ntmps10
        go_wp2_with fail
        rw [HZ.out]
        go_wp2_with (first
          | (go_at_call 13; (with_reducible refine Calls.mono (c1 _ HW.out.1) ?_); rintro e w1 ⟨rfl, hb1⟩; obtain ⟨p1, m1, m2, m3, m4⟩ := HP.out w1 hb1; obtain ⟨x0, x1, x2, x3⟩ := def_cells m1; have y1 := cell_one m2; have y2 := cell_one m3; have y3 := (Array.getElem?_eq_some_iff.1 m2).1; have y4 := (Array.getElem?_eq_some_iff.1 m3).1; obtain ⟨u0, u1, u2, u3⟩ := def_cells m4; have uf : ∀ i, w1.frozen? ⟨w.heap.size + 1 + 1 + 1, i, none⟩ = false := fun i => (by simp [World.frozen?, m4]))
          | (go_at_call 21; (with_reducible refine Calls.mono (c2 _) ?_); rintro e w2 ⟨rfl, hw⟩; obtain rfl := hw.symm)
          | (go_at_call_of 22 (Value.slice aq nq cq); (with_reducible refine Calls.mono (c3 _ p1) ?_); rintro e w3 ⟨rfl, hw⟩; obtain rfl := hw.symm)
          | (go_at_call 22; (with_reducible refine Calls.mono (c4 _ p1) ?_); rintro e w4 ⟨rfl, hw⟩; obtain rfl := hw.symm))
        rw [c3_set _ _ _ _ _ _ _ _ _ m4]
        refine bodyPost_ret (results_ct rfl _ _ (w.heap.size + 1 + 1 + 1) _ #[.int .i64 0, .int .i64 0, .slice none 0 0] _ _ rfl (setRow_heap _ _ _ _ _ _ m4) Tryz.underlying24 rfl (by exact infoCi)) rfl ?_
        exact ⟨rfl, Below.row p1 _ _ (by omega)⟩
      . clear HF
        go_enter Tryz.func10, Tryz.ntmps10
        go_wp2_with fail
        rw [HZ.out]
        go_wp2_with (first
          | (go_at_call 13; (with_reducible refine Calls.mono (c1 _ HW.out.1) ?_); rintro e w1 ⟨rfl, hb1⟩; obtain ⟨p1, m1, m2, m3, m4⟩ := HP.out w1 hb1; obtain ⟨x0, x1, x2, x3⟩ := def_cells m1; have y1 := cell_one m2; have y2 := cell_one m3; have y3 := (Array.getElem?_eq_some_iff.1 m2).1; have y4 := (Array.getElem?_eq_some_iff.1 m3).1; obtain ⟨u0, u1, u2, u3⟩ := def_cells m4; have uf : ∀ i, w1.frozen? ⟨w.heap.size + 1 + 1 + 1, i, none⟩ = false := fun i => (by simp [World.frozen?, m4]))
          | (go_at_call 21; (with_reducible refine Calls.mono (c2 _) ?_); rintro e w2 ⟨rfl, hw⟩; obtain rfl := hw.symm)
          | (go_at_call_of 22 (Value.slice aq nq cq); (with_reducible refine Calls.mono (c3 _ p1) ?_); rintro e w3 ⟨rfl, hw⟩; obtain rfl := hw.symm)
          | (go_at_call 22; (with_reducible refine Calls.mono (c4 _ p1) ?_); rintro e w4 ⟨rfl, hw⟩; obtain rfl := hw.symm))
        rw [c3_set _ _ _ _ _ _ _ _ _ m4]
        refine bodyPost_ret (results_ct rfl _ _ (w.heap.size + 1 + 1 + 1) _ #[.int .i64 0, .int .i64 0, .slice none 0 0] _ _ rfl (setRow_heap _ _ _ _ _ _ m4) Tryz.underlying24 rfl (by exact infoCi)) rfl ?_
        exact ⟨rfl, Below.row p1 _ _ (by omega)⟩
    . have g2 : ((nb : Int) == b0) = false := by simpa using h2
      clear hf h1 h2
      go_enter Tryz.func10, Tryz.ntmps10
      go_wp2_with fail
      rw [HZ.out]
      go_wp2_with (first
        | (go_at_call 13; (with_reducible refine Calls.mono (c1 _ HW.out.1) ?_); rintro e w1 ⟨rfl, hb1⟩; obtain ⟨p1, m1, m2, m3, m4⟩ := HP.out w1 hb1; obtain ⟨x0, x1, x2, x3⟩ := def_cells m1; have y1 := cell_one m2; have y2 := cell_one m3; have y3 := (Array.getElem?_eq_some_iff.1 m2).1; have y4 := (Array.getElem?_eq_some_iff.1 m3).1; obtain ⟨u0, u1, u2, u3⟩ := def_cells m4; have uf : ∀ i, w1.frozen? ⟨w.heap.size + 1 + 1 + 1, i, none⟩ = false := fun i => (by simp [World.frozen?, m4]))
        | (go_at_call 21; (with_reducible refine Calls.mono (c2 _) ?_); rintro e w2 ⟨rfl, hw⟩; obtain rfl := hw.symm)
        | (go_at_call_of 22 (Value.slice aq nq cq); (with_reducible refine Calls.mono (c3 _ p1) ?_); rintro e w3 ⟨rfl, hw⟩; obtain rfl := hw.symm)
        | (go_at_call 22; (with_reducible refine Calls.mono (c4 _ p1) ?_); rintro e w4 ⟨rfl, hw⟩; obtain rfl := hw.symm))
      rw [c3_set _ _ _ _ _ _ _ _ _ m4]
      refine bodyPost_ret (results_ct rfl _ _ (w.heap.size + 1 + 1 + 1) _ #[.int .i64 0, .int .i64 0, .slice none 0 0] _ _ rfl (setRow_heap _ _ _ _ _ _ m4) Tryz.underlying24 rfl (by exact infoCi)) rfl ?_
      exact ⟨rfl, Below.row p1 _ _ (by omega)⟩
  . have g1 : ((nq : Int) == q0) = false := by simpa using h1
    clear hf h1
    go_enter Tryz.func10, Tryz.ntmps10
    go_wp2_with fail
    rw [HZ.out]
    go_wp2_with (first
      | (go_at_call 13; (with_reducible refine Calls.mono (c1 _ HW.out.1) ?_); rintro e w1 ⟨rfl, hb1⟩; obtain ⟨p1, m1, m2, m3, m4⟩ := HP.out w1 hb1; obtain ⟨x0, x1, x2, x3⟩ := def_cells m1; have y1 := cell_one m2; have y2 := cell_one m3; have y3 := (Array.getElem?_eq_some_iff.1 m2).1; have y4 := (Array.getElem?_eq_some_iff.1 m3).1; obtain ⟨u0, u1, u2, u3⟩ := def_cells m4; have uf : ∀ i, w1.frozen? ⟨w.heap.size + 1 + 1 + 1, i, none⟩ = false := fun i => (by simp [World.frozen?, m4]))
      | (go_at_call 21; (with_reducible refine Calls.mono (c2 _) ?_); rintro e w2 ⟨rfl, hw⟩; obtain rfl := hw.symm)
      | (go_at_call_of 22 (Value.slice aq nq cq); (with_reducible refine Calls.mono (c3 _ p1) ?_); rintro e w3 ⟨rfl, hw⟩; obtain rfl := hw.symm)
      | (go_at_call 22; (with_reducible refine Calls.mono (c4 _ p1) ?_); rintro e w4 ⟨rfl, hw⟩; obtain rfl := hw.symm))
    rw [c3_set _ _ _ _ _ _ _ _ _ m4]
    refine bodyPost_ret (results_ct rfl _ _ (w.heap.size + 1 + 1 + 1) _ #[.int .i64 0, .int .i64 0, .slice none 0 0] _ _ rfl (setRow_heap _ _ _ _ _ _ m4) Tryz.underlying24 rfl (by exact infoCi)) rfl ?_
    exact ⟨rfl, Below.row p1 _ _ (by omega)⟩
theorem cEmbed_ok (c : Circ) (ao : Option Addr) (k : Nat) (qs bs : List Int) (aq ab : Option Addr) (cq cb : Nat) (n m : Int) (hS : Szs c.ops) (hk : (chkC c).2 = 0) (hf : fitP c qs bs n m) (hlq : qs.length <= 1000000000000000) (hcq : qs.length <= cq) (hlb : bs.length <= 1000000000000000) (hcb : bs.length <= cb) (w : World) (hT : Tb w) (hC : Ci w c ao k) (hNq : Ns w aq qs) (hNb : Ns w ab bs) : Calls Tryz.prog 10 #[cV c ao k, .slice aq qs.length cq, .slice ab bs.length cb, .int .i64 n, .int .i64 m] w fun e w' => ∃ g, e = .returned (.tuple #[.agg #[.int .i64 n, .int .i64 m, .slice (some ⟨g, 0, none⟩) c.ops.length c.ops.length], .int .i64 0]) /\ OpsOwn w' w.heap.size (some ⟨g, 0, none⟩) c.ops.length c.ops.length (c.ops.map (reO (lk qs) (lk bs))) /\ Below w.heap.size w w' := by
  have c1 := fun V (h : Below w.heap.size w V) => cCheck c ao k V (hT.below h) (hC.below h)
  have c2 := fun V => cCountsMay n m V
  have c3 := fun V (h : Below w.heap.size w V) => cApart aq cq qs n hlq hcq V (hNq.below h)
  have c4 := fun V (h : Below w.heap.size w V) => cApart ab cb bs m hlb hcb V (hNb.below h)
  have hok := (chkC_ok hk).2.2.2.2.2
  rw [hk] at c1
  unfold fitP at hf
  obtain ⟨h1, h2, h3, h4, h5⟩ := hf
  have c5 : ∀ V, Below w.heap.size w V -> V.cell? ⟨w.heap.size + 1, 0, none⟩ = some (.slice aq qs.length cq) -> V.cell? ⟨w.heap.size + 1 + 1, 0, none⟩ = some (.slice ab bs.length cb) -> Calls Tryz.prog 15 #[.slice ao c.ops.length k, .func (.func 23) #[] #[.pointer (some ⟨w.heap.size + 1, 0, none⟩)], .func (.func 24) #[] #[.pointer (some ⟨w.heap.size + 1 + 1, 0, none⟩)]] V fun e w' => ∃ g, e = .returned (.slice (some ⟨g, 0, none⟩) c.ops.length c.ops.length) /\ OpsOwn w' V.heap.size (some ⟨g, 0, none⟩) c.ops.length c.ops.length (c.ops.map (reO (lk qs) (lk bs))) /\ Below V.heap.size V w' := fun V hV k1 k2 => by
    have l1 := World.block_lt_of_cell? V _ k1
    have l2 := World.block_lt_of_cell? V _ k2
    refine cRenumE c.ops ao k hS (lk qs) (lk bs) (w.heap.size + 1) (w.heap.size + 1 + 1) V (hC.ops.below hV) (fun W hW o ho q hq => ?_) (fun W hW o ho h2' => ?_) (fun W hW o ho hc => ?_)
    . have hr := (may_rng (hok o ho)).1 q hq
      have := cEm1 q.toNat (lk qs q) (w.heap.size + 1) aq cq qs (lk_at qs q hr.1 (by omega)) W ((hW.cell (p := ⟨w.heap.size + 1, 0, none⟩) l1).trans k1) ((hNq.below hV).below hW)
      rwa [Int.toNat_of_nonneg hr.1] at this
    . have hr := (may_rng (hok o ho)).2.1 h2'
      have := cEm2 o.bit.toNat (lk bs o.bit) (w.heap.size + 1 + 1) ab cb bs (lk_at bs o.bit hr.1 (by omega)) W ((hW.cell (p := ⟨w.heap.size + 1 + 1, 0, none⟩) l2).trans k2) ((hNb.below hV).below hW)
      rwa [Int.toNat_of_nonneg hr.1] at this
    . have hr := (may_rng (hok o ho)).2.2 hc
      have := cEm2 o.cond.toNat (lk bs o.cond) (w.heap.size + 1 + 1) ab cb bs (lk_at bs o.cond hr.1 (by omega)) W ((hW.cell (p := ⟨w.heap.size + 1 + 1, 0, none⟩) l2).trans k2) ((hNb.below hV).below hW)
      rwa [Int.toNat_of_nonneg hr.1] at this
  clear hok hS
  rw [h3] at c2
  rw [h4] at c3
  rw [h5] at c4
  generalize c.ops.map (reO (lk qs) (lk bs)) = RO at *
  obtain ⟨q0, b0, l0⟩ := c
  unfold cV at *
  simp only at *
  generalize (chkC ⟨q0, b0, l0⟩).1 = z1 at *
  generalize l0.length = n0 at *
  generalize qs.length = nq at *
  generalize bs.length = nb at *
  have HW := hide (emb_boxes w q0 b0 ao aq ab n0 k nq cq nb cb)
  generalize hW0 : ((((w.alloc (.cells #[.int .i64 q0, .int .i64 b0, .slice ao n0 k] 24)).alloc (.cells #[.slice aq nq cq] 26)).alloc (.cells #[.slice ab nb cb] 26)).alloc (.cells #[.int .i64 0, .int .i64 0, .slice none 0 0] 24)) = W0 at HW
  have HZ := hide hW0
  have HP : Hid (∀ V, Below W0.heap.size W0 V -> Below w.heap.size w V /\ V.heap[w.heap.size]? = some (.cells #[.int .i64 q0, .int .i64 b0, .slice ao n0 k] 24) /\ V.heap[w.heap.size + 1]? = some (.cells #[.slice aq nq cq] 26) /\ V.heap[w.heap.size + 1 + 1]? = some (.cells #[.slice ab nb cb] 26) /\ V.heap[w.heap.size + 1 + 1 + 1]? = some (.cells #[.int .i64 0, .int .i64 0, .slice none 0 0] 24)) := hide (fun V h => ⟨HW.out.1.trans (h.mono HW.out.1.size), (h.block _ (Array.getElem?_eq_some_iff.1 HW.out.2.1).1).trans HW.out.2.1, (h.block _ (Array.getElem?_eq_some_iff.1 HW.out.2.2.1).1).trans HW.out.2.2.1, (h.block _ (Array.getElem?_eq_some_iff.1 HW.out.2.2.2.1).1).trans HW.out.2.2.2.1, (h.block _ (Array.getElem?_eq_some_iff.1 HW.out.2.2.2.2).1).trans HW.out.2.2.2.2⟩)
  clear hW0 hC hNq hNb hT
  have g1 : ((nq : Int) == q0) = true := by simpa using h1
  have g2 : ((nb : Int) == b0) = true := by simpa using h2
  clear hk h1 h2 h3 h4 h5
  go_enter Tryz.func10, Tryz.ntmps10
  go_wp2_with fail
  rw [HZ.out]
  go_wp2_with (first
    | (go_at_call 13; (with_reducible refine Calls.mono (c1 _ HW.out.1) ?_); rintro e w1 ⟨rfl, hb1⟩; obtain ⟨p1, m1, m2, m3, m4⟩ := HP.out w1 hb1; obtain ⟨x0, x1, x2, x3⟩ := def_cells m1; have y1 := cell_one m2; have y2 := cell_one m3; have y3 := (Array.getElem?_eq_some_iff.1 m2).1; have y4 := (Array.getElem?_eq_some_iff.1 m3).1; obtain ⟨u0, u1, u2, u3⟩ := def_cells m4; have uf : ∀ i, w1.frozen? ⟨w.heap.size + 1 + 1 + 1, i, none⟩ = false := fun i => (by simp [World.frozen?, m4]))
    | (go_at_call 21; (with_reducible refine Calls.mono (c2 _) ?_); rintro e w2 ⟨rfl, hw⟩; obtain rfl := hw.symm)
    | (go_at_call_of 22 (Value.slice aq nq cq); (with_reducible refine Calls.mono (c3 _ p1) ?_); rintro e w3 ⟨rfl, hw⟩; obtain rfl := hw.symm)
    | (go_at_call 22; (with_reducible refine Calls.mono (c4 _ p1) ?_); rintro e w4 ⟨rfl, hw⟩; obtain rfl := hw.symm)
    | (go_at_call 15; (with_reducible refine Calls.mono (c5 _ p1 y1 y2) ?_); rintro e w5 ⟨g5, rfl, hO5, hb5⟩; have p5 := p1.trans (hb5.mono p1.size); have HO5 := hide (hO5.base p1.size); have m5 := (hb5.block _ u3).trans m4; clear hO5; obtain ⟨v0, v1, v2, v3⟩ := def_cells m5; have vf : ∀ i, w5.frozen? ⟨w.heap.size + 1 + 1 + 1, i, none⟩ = false := fun i => (by simp [World.frozen?, m5])))
  rw [c3_set _ _ _ _ _ _ _ _ _ m5]
  refine bodyPost_ret (results_ct rfl _ _ (w.heap.size + 1 + 1 + 1) _ #[.int .i64 n, .int .i64 m, .slice (some ⟨g5, 0, none⟩) n0 n0] _ _ rfl (setRow_heap _ _ _ _ _ _ m5) Tryz.underlying24 rfl (by exact infoCi)) rfl ?_
  exact ⟨g5, rfl, HO5.out.row m5 (by decide) (by decide) _, Below.row p5 _ _ (by omega)⟩
theorem cEmbedA (c : Circ) (ao : Option Addr) (k : Nat) (qs bs : List Int) (aq ab : Option Addr) (cq cb : Nat) (n m : Int) (hS : Szs c.ops) (hlq : qs.length <= 1000000000000000) (hcq : qs.length <= cq) (hlb : bs.length <= 1000000000000000) (hcb : bs.length <= cb) (w : World) (hT : Tb w) (hC : Ci w c ao k) (hNq : Ns w aq qs) (hNb : Ns w ab bs) : Calls Tryz.prog 10 #[cV c ao k, .slice aq qs.length cq, .slice ab bs.length cb, .int .i64 n, .int .i64 m] w fun e w' => ∃ (co : Option Addr) (cap : Nat), e = .returned (.tuple #[cV (embP c qs bs n m).1 co cap, .int .i64 (embP c qs bs n m).2]) /\ OpsOwn w' w.heap.size co (embP c qs bs n m).1.ops.length cap (embP c qs bs n m).1.ops /\ Below w.heap.size w w' := by
  unfold embP
  by_cases hk : (chkC c).2 ≠ 0
  . rw [if_pos hk]
    refine (cEmbed_80 c ao k qs bs aq ab cq cb n m hk hlq hcq hlb hcb w hT hC hNq hNb).mono ?_
    rintro e w' ⟨rfl, hb⟩
    exact ⟨none, 0, by rw [chk80 c hk]; rfl, OpsOwn.nil _ _, hb⟩
  . rw [if_neg hk]
    have hk' : (chkC c).2 = 0 := by omega
    by_cases hf : fitP c qs bs n m
    . rw [if_pos hf]
      refine (cEmbed_ok c ao k qs bs aq ab cq cb n m hS hk' hf hlq hcq hlb hcb w hT hC hNq hNb).mono ?_
      rintro e w' ⟨g, rfl, hO, hb⟩
      exact ⟨some ⟨g, 0, none⟩, c.ops.length, by unfold cV; simp only [List.length_map], by simpa only [List.length_map] using hO, hb⟩
    . rw [if_neg hf]
      refine (cEmbed_2 c ao k qs bs aq ab cq cb n m hk' hf hlq hcq hlb hcb w hT hC hNq hNb).mono ?_
      rintro e w' ⟨rfl, hb⟩
      exact ⟨none, 0, rfl, OpsOwn.nil _ _, hb⟩
end Go.Proofs.YtijemaahibjejaaGreatDoor.Cir
