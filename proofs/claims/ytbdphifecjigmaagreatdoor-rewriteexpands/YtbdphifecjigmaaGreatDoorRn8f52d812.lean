import Derived.Test.YtbdphifecjigmaaGreatDoorRn323b8684
namespace Go.Proofs.YtbdphifecjigmaaGreatDoor.Gt
end Go.Proofs.YtbdphifecjigmaaGreatDoor.Gt
namespace Go.Proofs.YtbdphifecjigmaaGreatDoor.Oct
end Go.Proofs.YtbdphifecjigmaaGreatDoor.Oct
namespace Go.Proofs.YtbdphifecjigmaaGreatDoor.Tok
end Go.Proofs.YtbdphifecjigmaaGreatDoor.Tok
namespace Go.Proofs.YtbdphifecjigmaaGreatDoor.Cir
open Go.RowKit Go.Shelf Go.Proofs.YtbdphifecjigmaaGreatDoor.Oct Go.Proofs.YtbdphifecjigmaaGreatDoor.Tok Go.Proofs.YtbdphifecjigmaaGreatDoor.Gt
theorem opC_len (x : COp × Value) : (opC x).length = 6 := rfl
theorem flat_set (xs : List (COp × Value)) : ∀ (i : Nat) (x x' : COp × Value) (j : Nat) (u : Value), xs[i]? = some x -> j < 6 -> opC x' = (opC x).set j u -> (xs.flatMap opC).set (i * 6 + j) u = (xs.set i x').flatMap opC := by
  induction xs with
  | nil => intro i x x' j u h; simp at h
  | cons a r ih =>
    intro i x x' j u h hj hx
    cases i with
    | zero =>
      simp at h
      subst h
      rw [List.set_cons_zero, List.flatMap_cons, List.flatMap_cons, hx, Nat.zero_mul, Nat.zero_add, List.set_append_left _ _ (by rw [opC_len]; exact hj)]
    | succ i =>
      rw [List.set_cons_succ, List.flatMap_cons, List.flatMap_cons, List.set_append_right _ _ (by rw [opC_len]; omega), opC_len, show (i + 1) * 6 + j - 6 = i * 6 + j by omega, ih i x x' j u (by simpa using h) hj hx]
theorem flat_same (xs : List (COp × Value)) : ∀ (i : Nat) (x x' : COp × Value), xs[i]? = some x -> opC x' = opC x -> (xs.set i x').flatMap opC = xs.flatMap opC := by
  induction xs with
  | nil => intro i x x' h; simp at h
  | cons a r ih =>
    intro i x x' h hx
    cases i with
    | zero =>
      simp at h
      subst h
      rw [List.set_cons_zero, List.flatMap_cons, List.flatMap_cons, hx]
    | succ i => rw [List.set_cons_succ, List.flatMap_cons, List.flatMap_cons, ih i x x' (by simpa using h) hx]
theorem Pw.set {xs : List (COp × Value)} (h : Pw xs) {i : Nat} {x : COp × Value} (hx : xs[i]? = some x) (o : COp) : Pw (xs.set i (o, x.2)) := by
  have key : ∀ ys : List (COp × Value), Pw ys ↔ (ys.map (·.2)).Pairwise (fun a b => ∀ g, a.ownBlock = some g -> b.ownBlock = some g -> False) := fun ys => by unfold Pw; rw [List.pairwise_map]
  rw [key] at h ⊢
  have e : (xs.set i (o, x.2)).map (·.2) = xs.map (·.2) := by
    rw [List.map_set]
    apply List.ext_getElem?
    intro j
    rw [List.getElem?_set]
    split
    . rename_i e
      subst e
      split
      . rw [List.getElem?_map, hx]; rfl
      . rename_i hn
        rw [List.getElem?_eq_none (by omega)]
    . rfl
  rw [e]
  exact h
theorem Pw.apart {xs : List (COp × Value)} (h : Pw xs) {i j : Nat} {x y : COp × Value} (hx : xs[i]? = some x) (hy : xs[j]? = some y) (hne : i ≠ j) (g : Nat) (h1 : x.2.ownBlock = some g) (h2 : y.2.ownBlock = some g) : False := by
  unfold Pw at h
  rw [List.pairwise_iff_getElem] at h
  obtain ⟨hi, rfl⟩ := List.getElem?_eq_some_iff.1 hx
  obtain ⟨hj, rfl⟩ := List.getElem?_eq_some_iff.1 hy
  rcases Nat.lt_or_gt_of_ne hne with hlt | hlt
  . exact h i j hi hj hlt g h1 h2
  . exact h j i hj hi hlt g h2 h1
theorem mem_set {α : Type} {l : List α} {i : Nat} {a x : α} (h : x ∈ l.set i a) : x = a ∨ ∃ j, j ≠ i /\ l[j]? = some x := by
  obtain ⟨j, hj, e⟩ := List.getElem_of_mem h
  have e' : (l.set i a)[j]? = some x := by rw [List.getElem?_eq_getElem hj, e]
  rw [List.getElem?_set] at e'
  split at e'
  . left
    have e2 := e'
    simp at e2
    exact e2.2.symm
  . rename_i hij
    exact .inr ⟨j, fun e => hij e.symm, e'⟩
theorem OpsOwn.one {w : World} {B g n c : Nat} {l : List COp} (h : OpsOwn w B (some ⟨g, 0, none⟩) n c l) {i : Nat} {o : COp} (hi : l[i]? = some o) : ∃ ao cr, B <= g /\ g < w.heap.size /\ w.cell? ⟨g, i * 6, none⟩ = some (.int .i64 o.kind) /\ w.cell? ⟨g, i * 6 + 2, none⟩ = some (.slice ao o.qs.length cr) /\ w.cell? ⟨g, i * 6 + 3, none⟩ = some (.int .i64 o.bit) /\ w.cell? ⟨g, i * 6 + 4, none⟩ = some (.int .i64 o.cond) /\ (∀ k, w.frozen? ⟨g, k, none⟩ = false) /\
    (∀ v, OpsOwn (w.setCell ⟨g, i * 6 + 3, none⟩ (.int .i64 v)) B (some ⟨g, 0, none⟩) n c (l.set i { o with bit := v })) /\
    (∀ v, OpsOwn (w.setCell ⟨g, i * 6 + 4, none⟩ (.int .i64 v)) B (some ⟨g, 0, none⟩) n c (l.set i { o with cond := v })) /\
    ∀ (k : Nat) (z : Int), o.qs[k]? = some z -> ∃ gr, ao = some ⟨gr, 0, none⟩ /\ B <= gr /\ gr < w.heap.size /\ gr ≠ g /\ w.cell? ⟨gr, k, none⟩ = some (.int .i64 z) /\ w.frozen? ⟨gr, k, none⟩ = false /\ ∀ v, OpsOwn (w.setCell ⟨gr, k, none⟩ (.int .i64 v)) B (some ⟨g, 0, none⟩) n c (l.set i { o with qs := o.qs.set k v }) := by
  obtain ⟨xs, h1, h2, h3, h4, h5⟩ := h
  rw [h2, List.getElem?_map] at hi
  obtain ⟨x, hx, rfl⟩ := Option.map_eq_some_iff.1 hi
  obtain ⟨ao, cr, e, hrow⟩ := h4 x (List.mem_of_getElem? hx)
  obtain ⟨gcs, gfr, hgc⟩ := own_cells' h3 (k := g) rfl
  have hg := own_lt h3 g rfl
  have at' : ∀ j u, (opC x)[j]? = some u -> w.cell? ⟨g, i * 6 + j, none⟩ = some u := fun j u hu => own_at h3 _ _ (opC_at xs i x hx j u hu)
  have hwr : ∀ (j : Nat) (v : Int) (o' : COp), j < 6 -> o'.qs = x.1.qs -> opC (o', x.2) = (opC x).set j (.int .i64 v) -> OpsOwn (w.setCell ⟨g, i * 6 + j, none⟩ (.int .i64 v)) B (some ⟨g, 0, none⟩) n c (l.set i o') := fun j v o' hj hq hc => by
    refine ⟨xs.set i (o', x.2), by rw [List.length_set]; exact h1, by rw [h2, List.map_set], ?_, fun y hy => ?_, h5.set hx o'⟩
    . rw [← flat_set xs i x (o', x.2) j _ hx hj hc]
      exact own_set h3 _ _
    . have hk : ∀ (b : Nat) (cs : Array Value) (fr : Nat × Nat), w.heap[b]? = some (Obj.cells cs 3 fr) -> (w.setCell ⟨g, i * 6 + j, none⟩ (.int .i64 v)).heap[b]? = w.heap[b]? := fun b cs fr hb => Below.heap_setCell _ _ _ _ (fun e => by
        have e' : b = g := e
        rw [e', hgc] at hb
        simp at hb)
      rcases mem_set hy with rfl | ⟨j', -, hj'⟩
      . rw [hq]
        exact (h4 x (List.mem_of_getElem? hx)).block hk
      . exact (h4 y (List.mem_of_getElem? hj')).block hk
  refine ⟨ao, cr, hg.1, hg.2, at' 0 _ rfl, by rw [at' 2 x.2 rfl, e], at' 3 _ rfl, at' 4 _ rfl, own_free h3, fun v => hwr 3 v _ (by decide) rfl rfl, fun v => hwr 4 v _ (by decide) rfl rfl, fun k z hk => ?_⟩
  have hkl : k < x.1.qs.length := (List.getElem?_eq_some_iff.1 hk).1
  obtain ⟨gr, rfl, -⟩ := own_some hrow (by omega)
  have hgr := own_lt hrow gr rfl
  obtain ⟨rcs, rfr, hrc⟩ := own_cells' hrow (k := gr) rfl
  have hne : gr ≠ g := fun e' => by
    rw [e', hgc] at hrc
    simp at hrc
  refine ⟨gr, rfl, hgr.1, hgr.2, hne, own_at hrow _ _ (by rw [List.getElem?_map, hk]; rfl), own_free hrow _, fun v => ?_⟩
  have hxb : x.2.ownBlock = some gr := by rw [e]; rfl
  refine ⟨xs.set i ({ x.1 with qs := x.1.qs.set k v }, x.2), by rw [List.length_set]; exact h1, by rw [h2, List.map_set], ?_, fun y hy => ?_, h5.set hx _⟩
  . rw [show (xs.set i (({ x.1 with qs := x.1.qs.set k v } : COp), x.2)).flatMap opC = xs.flatMap opC from flat_same xs i x _ hx rfl]
    exact own_of_block h3 (fun b hb => Below.heap_setCell _ _ _ _ (fun e' => by
      have e'' : b = gr := e'
      simp [ob] at hb
      omega))
  . rcases mem_set hy with rfl | ⟨j', hne', hj'⟩
    . refine ⟨some ⟨gr, 0, none⟩, cr, by rw [List.length_set]; exact e, ?_⟩
      rw [List.length_set, List.map_set]
      exact own_set hrow k _
    . obtain ⟨ao', c', e', hrow'⟩ := h4 y (List.mem_of_getElem? hj')
      refine ⟨ao', c', e', own_of_block hrow' (fun b hb => Below.heap_setCell _ _ _ _ (fun e'' => ?_))⟩
      have e3 : b = gr := e''
      subst e3
      exact h5.apart hx hj' (fun e4 => hne' e4.symm) b hxb (by rw [e', ob_eq]; exact hb)
end Go.Proofs.YtbdphifecjigmaaGreatDoor.Cir
