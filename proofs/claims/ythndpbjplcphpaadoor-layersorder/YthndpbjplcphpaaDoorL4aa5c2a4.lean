import Derived.Test.YthndpbjplcphpaaDoorL9f81c486
import Derived.Test.YthndpbjplcphpaaDoorLd1e618b1
namespace Go.Proofs.YthndpbjplcphpaaDoor.Cir
open Go.RowKit Go.Shelf Go.Proofs.YthndpbjplcphpaaDoor.Oct Go.Proofs.YthndpbjplcphpaaDoor.Tok Go.Proofs.YthndpbjplcphpaaDoor.Gt
theorem OpsOwn.off {w : World} {B g n c : Nat} {l : List COp} (h : OpsOwn w B (some ⟨g, 0, none⟩) n c l) {i : Nat} {o : COp} (hi : l[i]? = some o) {x : Nat} {cs : Array Value} {fr : Nat × Nat} (hx : w.heap[x]? = some (.cells cs 24 fr)) : x ≠ g /\ ∀ gr cr, w.cell? ⟨g, i * 6 + 2, none⟩ = some (.slice (some ⟨gr, 0, none⟩) o.qs.length cr) -> x ≠ gr := by
  obtain ⟨xs, h1, h2, h3, h4, -⟩ := h
  rw [h2, List.getElem?_map] at hi
  obtain ⟨y, hy, rfl⟩ := Option.map_eq_some_iff.1 hi
  obtain ⟨ao, cr, e, hrow⟩ := h4 y (List.mem_of_getElem? hy)
  refine ⟨fun e' => ?_, fun gr cr' hc e' => ?_⟩
  . subst e'
    exact own_ne h3 hx (by decide) rfl
  . rw [own_at h3 _ _ (opC_at xs i y hy 2 y.2 rfl), e] at hc
    simp only [Option.some.injEq, Value.slice.injEq] at hc
    subst e'
    exact own_ne hrow hx (by decide) (by rw [hc.1]; rfl)
def OpsE (w : World) (B E : Nat) (ao : Option Addr) (n c : Nat) (ops : List COp) : Prop := ∃ xs : List (COp × Value), n = xs.length /\ ops = xs.map (·.1) /\ w.ownsRow B 57 6 (.slice ao n c) n (xs.flatMap opC) /\ (∀ x ∈ xs, RowO w B x.2 x.1.qs) /\ Pw xs /\ ∀ x ∈ xs, ∀ g, x.2.ownBlock = some g -> g < E
theorem OpsE.own {w : World} {B E : Nat} {ao : Option Addr} {n c : Nat} {l : List COp} (h : OpsE w B E ao n c l) : OpsOwn w B ao n c l := by
  obtain ⟨xs, h1, h2, h3, h4, h5, -⟩ := h
  exact ⟨xs, h1, h2, h3, h4, h5⟩
theorem OpsE.base {w : World} {B B' E : Nat} {ao : Option Addr} {n c : Nat} {l : List COp} (h : OpsE w B E ao n c l) (hb : B' <= B) : OpsE w B' E ao n c l := by
  obtain ⟨xs, h1, h2, h3, h4, h5, h6⟩ := h
  refine ⟨xs, h1, h2, ⟨h3.1, ?_⟩, fun x hx => (h4 x hx).base hb, h5, h6⟩
  rcases h3.2 with h2 | ⟨g, cap, cur, e1, e2, e3⟩
  . exact .inl h2
  . exact .inr ⟨g, cap, cur, e1, Nat.le_trans hb e2, e3⟩
theorem OpsE.below {w w' : World} {B E : Nat} {ao : Option Addr} {n c : Nat} {l : List COp} (h : OpsE w B E ao n c l) (hb : Below w.heap.size w w') : OpsE w' B E ao n c l := by
  obtain ⟨xs, h1, h2, h3, h4, h5, h6⟩ := h
  exact ⟨xs, h1, h2, own_of_block h3 (fun k hk => hb.block k (own_lt h3 k hk).2), fun x hx => (h4 x hx).below hb, h5, h6⟩
theorem OpsE.row {w : World} {B E : Nat} {ao : Option Addr} {n c : Nat} {ops : List COp} (h : OpsE w B E ao n c ops) {g : Nat} {cs : Array Value} {fr : Nat × Nat} (hg : w.heap[g]? = some (.cells cs 24 fr)) (cs' : Array Value) : OpsE (w.setRow g cs') B E ao n c ops := by
  obtain ⟨xs, e1, e2, e3, e4, e5, e6⟩ := h
  refine ⟨xs, e1, e2, own_of_block e3 (fun k hk => setRow_other _ _ _ _ (fun e => ?_)), fun x hx => (e4 x hx).block (fun b cs2 fr2 hb => setRow_other _ _ _ _ (fun e => ?_)), e5, e6⟩
  . subst e
    exact own_ne e3 hg (by decide) hk
  . subst e
    rw [hg] at hb
    simp at hb
abbrev Zc : Obj := .cells #[.int .i64 0, .int .i64 0, .slice none 0 0] 24
structure Pr2 (W0 : World) (B n1 n2 : Nat) (l1 l2 : List COp) (x y : Option Nat) (d1 : Option (Nat × Option Addr × Nat)) (d2 : Option (Option Addr × Nat)) (V : World) : Prop where
  bel : Below W0.heap.size W0 V
  hx : ∀ g, x = some g -> W0.heap.size <= g /\ V.heap[g]? = some Zc
  hy : ∀ g, y = some g -> W0.heap.size <= g /\ V.heap[g]? = some Zc
  ne : ∀ g, x = some g -> y = some g -> False
  h1 : ∀ E bo j, d1 = some (E, bo, j) -> OpsE V B E bo n1 j l1 /\ E <= V.heap.size /\ W0.heap.size <= E
  h2 : ∀ bo j, d2 = some (bo, j) -> ∃ E bo1 j1, d1 = some (E, bo1, j1) /\ OpsOwn V E bo n2 j l2
section
variable {W0 V v : World} {B n1 n2 : Nat} {l1 l2 : List COp} {x y : Option Nat} {d1 : Option (Nat × Option Addr × Nat)} {d2 : Option (Option Addr × Nat)}
theorem Pr2.start (h : Below W0.heap.size W0 V) : Pr2 W0 B n1 n2 l1 l2 none none none none V := ⟨h, (fun _ e => by cases e), (fun _ e => by cases e), (fun _ e => by cases e), (fun _ _ _ e => by cases e), (fun _ _ e => by cases e)⟩
theorem Pr2.next (h : Pr2 W0 B n1 n2 l1 l2 x y d1 d2 V) (hb : Below V.heap.size V v) : Pr2 W0 B n1 n2 l1 l2 x y d1 d2 v :=
  ⟨h.bel.trans (hb.mono h.bel.size), fun g e => ⟨(h.hx g e).1, (hb.block g (Array.getElem?_eq_some_iff.1 (h.hx g e).2).1).trans (h.hx g e).2⟩, fun g e => ⟨(h.hy g e).1, (hb.block g (Array.getElem?_eq_some_iff.1 (h.hy g e).2).1).trans (h.hy g e).2⟩, h.ne, fun E bo j e => ⟨(h.h1 E bo j e).1.below hb, Nat.le_trans (h.h1 E bo j e).2.1 hb.size, (h.h1 E bo j e).2.2⟩, fun bo j e => by
    obtain ⟨E, bo1, j1, e1, hO⟩ := h.h2 bo j e
    exact ⟨E, bo1, j1, e1, hO.below hb⟩⟩
theorem Pr2.done {gx gy E j1 j2 : Nat} {bo1 bo2 : Option Addr} (h : Pr2 W0 B n1 n2 l1 l2 (some gx) (some gy) (some (E, bo1, j1)) (some (bo2, j2)) V) (c1 c2 : Array Value) : Below W0.heap.size W0 ((V.setRow gx c1).setRow gy c2) /\ ((V.setRow gx c1).setRow gy c2).heap[gx]? = some (.cells c1 24 (0, 0)) /\ ((V.setRow gx c1).setRow gy c2).heap[gy]? = some (.cells c2 24 (0, 0)) /\ gx ≠ gy /\ OpsE ((V.setRow gx c1).setRow gy c2) B E bo1 n1 j1 l1 /\ OpsOwn ((V.setRow gx c1).setRow gy c2) E bo2 n2 j2 l2 /\ E <= ((V.setRow gx c1).setRow gy c2).heap.size /\ W0.heap.size <= E /\ W0.heap.size <= gx /\ W0.heap.size <= gy := by
  obtain ⟨a1, a2⟩ := h.hx gx rfl
  obtain ⟨b1, b2⟩ := h.hy gy rfl
  have hne : gx ≠ gy := fun e => h.ne gx rfl (by rw [e])
  obtain ⟨o1, o2, o3⟩ := h.h1 E bo1 j1 rfl
  obtain ⟨E', bo', j', e', p1⟩ := h.h2 bo2 j2 rfl
  cases e'
  have b3 : (V.setRow gx c1).heap[gy]? = some Zc := (setRow_other _ _ _ _ hne.symm).trans b2
  refine ⟨Below.row (Below.row h.bel _ _ a1) _ _ b1, (setRow_other _ _ _ _ hne).trans (setRow_heap _ _ _ _ _ _ a2), setRow_heap _ _ _ _ _ _ b3, hne, (o1.row a2 _).row b3 _, (p1.row a2 (by decide) (by decide) _).row b3 (by decide) (by decide) _, by simpa [World.setRow] using o2, o3, a1, b1⟩
end
end Go.Proofs.YthndpbjplcphpaaDoor.Cir
