import Derived.Test.YtbdphifecjigmaaGreatDoorRn3fa258f4
namespace Go.Proofs.YtbdphifecjigmaaGreatDoor.Gt
end Go.Proofs.YtbdphifecjigmaaGreatDoor.Gt
namespace Go.Proofs.YtbdphifecjigmaaGreatDoor.Oct
end Go.Proofs.YtbdphifecjigmaaGreatDoor.Oct
namespace Go.Proofs.YtbdphifecjigmaaGreatDoor.Tok
end Go.Proofs.YtbdphifecjigmaaGreatDoor.Tok
namespace Go.Proofs.YtbdphifecjigmaaGreatDoor.Cir
open Go.RowKit Go.Shelf Go.Proofs.YtbdphifecjigmaaGreatDoor.Oct Go.Proofs.YtbdphifecjigmaaGreatDoor.Tok Go.Proofs.YtbdphifecjigmaaGreatDoor.Gt
theorem own_anyset {w : World} {B e size n : Nat} {ao : Option Addr} {m c : Nat} {xs : List Value} (h : w.ownsRow B e size (.slice ao m c) n xs) (g i : Nat) (v : Value) : ∃ xs', (w.setCell ⟨g, i, none⟩ v).ownsRow B e size (.slice ao m c) n xs' := by
  by_cases hg : ob ao = some g
  . rcases h.2 with ⟨hv, h0⟩ | ⟨g', cap, cur, hv, -⟩
    . simp only [Value.slice.injEq] at hv
      rw [hv.1] at hg
      cases hg
    . simp only [Value.slice.injEq] at hv
      obtain ⟨rfl, rfl, rfl⟩ := hv
      simp [ob] at hg
      subst hg
      exact ⟨_, own_set h i v⟩
  . exact ⟨xs, own_of_block h fun k hk => Below.heap_setCell _ _ _ _ (fun e => hg (by rw [hk]; exact congrArg some e))⟩
def DOwn (w : World) (B E : Nat) (bo : Option Addr) (n j : Nat) (ls : List Nat) : Prop := ∃ xs, w.ownsRow B 40 6 (.slice bo n j) n xs /\ (∀ g, ob bo = some g -> g < E) /\ n = ls.length /\ ∀ i m, ls[i]? = some m -> ∃ ao c ys, xs[i * 6 + 2]? = some (.slice ao m c) /\ w.ownsRow B 3 1 (.slice ao m c) m ys /\ ∀ g, ob ao = some g -> g < E
theorem OpsOwn.down {w : World} {B : Nat} {bo : Option Addr} {n j : Nat} {ops : List COp} (h : OpsOwn w B bo n j ops) : DOwn w B w.heap.size bo n j (ops.map (·.qs.length)) := by
  obtain ⟨xs, h1, h2, h3, h4, -⟩ := h
  refine ⟨xs.flatMap opC, h3, fun g hg => (own_lt h3 g hg).2, by rw [h2, h1]; simp, fun i m hm => ?_⟩
  rw [h2, List.map_map, List.getElem?_map] at hm
  obtain ⟨x, hx, rfl⟩ := Option.map_eq_some_iff.1 hm
  obtain ⟨ao, c, e, ho⟩ := h4 x (List.mem_of_getElem? hx)
  exact ⟨ao, c, _, opC_at xs i x hx 2 _ (by show some x.2 = _; rw [e]; rfl), ho, fun g hg => (own_lt ho g hg).2⟩
theorem DOwn.kept {w w' : World} {B E : Nat} {bo : Option Addr} {n j : Nat} {ls : List Nat} (h : DOwn w B E bo n j ls) (hb : ∀ g, B <= g -> g < E -> w'.heap[g]? = w.heap[g]?) : DOwn w' B E bo n j ls := by
  obtain ⟨xs, h1, h2, h3, h4⟩ := h
  refine ⟨xs, own_of_block h1 (fun k hk => hb k (own_lt h1 k hk).1 (h2 k hk)), h2, h3, fun i m hm => ?_⟩
  obtain ⟨ao, c, ys, e1, e2, e3⟩ := h4 i m hm
  exact ⟨ao, c, ys, e1, own_of_block e2 (fun k hk => hb k (own_lt e2 k hk).1 (e3 k hk)), e3⟩
theorem own_some {w : World} {B e size n : Nat} {ao : Option Addr} {m c : Nat} {xs : List Value} (h : w.ownsRow B e size (.slice ao m c) n xs) (h0 : 0 < n) : ∃ g, ao = some ⟨g, 0, none⟩ /\ m = n := by
  rcases h.2 with ⟨hv, h0'⟩ | ⟨g', cap, cur, hv, -⟩
  . omega
  . simp only [Value.slice.injEq] at hv
    exact ⟨g', hv.1, hv.2.1⟩
theorem DOwn.get {w : World} {B E : Nat} {bo : Option Addr} {n j : Nat} {ls : List Nat} (h : DOwn w B E bo n j ls) {i m : Nat} (hi : ls[i]? = some m) : ∃ gd ao c u, bo = some ⟨gd, 0, none⟩ /\ B <= gd /\ gd < E /\ gd < w.heap.size /\ w.cell? ⟨gd, i * 6 + 2, none⟩ = some (.slice ao m c) /\ w.cell? ⟨gd, i * 6 + 3, none⟩ = some u /\ w.frozen? ⟨gd, i * 6 + 3, none⟩ = false /\ (∀ v, DOwn (w.setCell ⟨gd, i * 6 + 3, none⟩ v) B E bo n j ls) /\
    ∀ k, k < m -> ∃ g x, ao = some ⟨g, 0, none⟩ /\ B <= g /\ g < E /\ g < w.heap.size /\ w.cell? ⟨g, k, none⟩ = some x /\ w.frozen? ⟨g, k, none⟩ = false /\ ∀ v, DOwn (w.setCell ⟨g, k, none⟩ v) B E bo n j ls := by
  obtain ⟨xs, h1, h2, h3, h4⟩ := h
  obtain ⟨ao, c, ys, e1, e2, e3⟩ := h4 i m hi
  have hin : i < n := by rw [h3]; exact (List.getElem?_eq_some_iff.1 hi).1
  obtain ⟨gd, rfl, -⟩ := own_some h1 (by omega)
  have hxl := h1.1
  obtain ⟨u, hu⟩ : ∃ u, xs[i * 6 + 3]? = some u := ⟨_, List.getElem?_eq_getElem (by omega)⟩
  have hgd := own_lt h1 gd rfl
  obtain ⟨dcs, dfr, hdc⟩ := own_cells' h1 (k := gd) rfl
  refine ⟨gd, ao, c, u, rfl, hgd.1, h2 gd rfl, hgd.2, own_at h1 _ _ e1, own_at h1 _ _ hu, own_free h1 _, fun v => ?_, fun k hk => ?_⟩
  . refine ⟨_, own_set h1 _ v, h2, h3, fun i' m' hm' => ?_⟩
    obtain ⟨ao', c', ys', e1', e2', e3'⟩ := h4 i' m' hm'
    refine ⟨ao', c', ys', by rw [List.getElem?_set_ne (by omega)]; exact e1', own_of_block e2' (fun b hb => Below.heap_setCell _ _ _ _ (fun e => ?_)), e3'⟩
    have e' : b = gd := e
    subst e'
    exact own_ne e2' hdc (by decide) hb
  . obtain ⟨g, rfl, -⟩ := own_some e2 (by omega)
    have hyl := e2.1
    obtain ⟨x, hx⟩ : ∃ x, ys[k]? = some x := ⟨_, List.getElem?_eq_getElem (by omega)⟩
    have hg := own_lt e2 g rfl
    obtain ⟨gcs, gfr, hgc⟩ := own_cells' e2 (k := g) rfl
    refine ⟨g, x, rfl, hg.1, e3 g rfl, hg.2, own_at e2 _ _ hx, own_free e2 _, fun v => ?_⟩
    refine ⟨xs, own_of_block h1 (fun b hb => Below.heap_setCell _ _ _ _ (fun e => ?_)), h2, h3, fun i' m' hm' => ?_⟩
    . have e' : b = g := e
      subst e'
      exact own_ne h1 hgc (by decide) hb
    . obtain ⟨ao', c', ys', e1', e2', e3'⟩ := h4 i' m' hm'
      obtain ⟨ys'', hy⟩ := own_anyset e2' g k v
      exact ⟨ao', c', ys'', e1', hy, e3'⟩
end Go.Proofs.YtbdphifecjigmaaGreatDoor.Cir
