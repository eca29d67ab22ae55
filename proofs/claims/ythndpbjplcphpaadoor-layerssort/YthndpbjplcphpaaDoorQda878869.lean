import Derived.Test.YthndpbjplcphpaaDoorQ775a2c26
import Derived.Test.YthndpbjplcphpaaDoorQ2ca074ab
namespace Go.Proofs.YthndpbjplcphpaaDoor.Cir
open Go.RowKit Go.Shelf Go.Proofs.YthndpbjplcphpaaDoor.Oct Go.Proofs.YthndpbjplcphpaaDoor.Tok Go.Proofs.YthndpbjplcphpaaDoor.Gt
section
variable {P : Program}
theorem step_push {ops : Array Oper} {o : Oper} {a : Act} {K : Act -> World -> Prop} {Q : Exit -> Act -> World -> Prop} {E : Prop} {w : World} (hgd : o.guard = none) (s x : Operand) (t : TypeId)
    (ho : o.op = .call { callee := .builtin .append, args := #[s, x], argTypes := #[t, t] })
    (e : TypeId) (ht : P.underlying t = some (.slice e)) (z0 : Value) (size by' : Nat) (hinfo : (P.info? e).map (fun i => (i.zero, i.size, i.bytes)) = some (some z0, size, by')) (hz0' : z0.cells.size = size) (hs0 : 0 < size)
    (B : Nat) (ao : Option Addr) (n c : Nat) (xs : List Value) (hs : a.eval s = .slice ao n c) (hown : w.ownsRow B e size (.slice ao n c) n xs)
    (news : List Value) (cells : Array Value) (hz : cells = news.toArray) (hl : news.length = size) (hv : ∀ u ∈ news, u.oneCell' = true) (H : Nat) (hH : w.heap.size = H) (hx : a.eval x = .slice (some ⟨H, 0, none⟩) 1 1) (hlen : (n + 1) * by' <= 140737488355328) (hn : n + 1 <= 140737488355328) (hbase : B <= w.heap.size)
    (h : ∀ g cap w', w'.ownsRow B e size (.slice (some ⟨g, 0, none⟩) (n + 1) cap) (n + 1) (xs ++ news) -> w.grownBy w' (ob ao) -> (ob ao = some g ∨ w.heap.size <= g) -> K (a.put o.dst (.slice (some ⟨g, 0, none⟩) (n + 1) cap)) w') :
    if Region.wanted o (yielded ops a.tmps) = true then Oper.wp P o a (w.alloc (.cells cells e)) K Q else E := by
  obtain ⟨i, hi, hz0, hz1, hz2⟩ := info_parts hinfo
  subst hz
  subst hH
  refine step_append_lies _ hgd s x t ho B e i z0 size by' ht hi hz0 hz1 hz2 hz0' hs0 _ n xs hs (hown.alloc _) ⟨w.heap.size, 0, none⟩ 1 1 news hx (by omega) (fun j u hu => by rw [Addr.add_lit, Nat.zero_add, cell_of_row _ _ _ _ _ _ (heap_alloc_new w _)]; simpa using hu) hv (by decide) (by unfold maxLen; omega) hlen (by simp; omega) _ rfl ?_
  intro g cap w' ho' hg hat hlt
  rw [ob_eq] at hg hat
  refine h g cap w' ho' ((grown_alloc w _ _).trans hg) ?_
  rcases hat with e | e
  . exact .inl e
  . right; simp at e; omega
end
theorem own_set {w : World} {B e size n g c : Nat} {xs : List Value} (h : w.ownsRow B e size (.slice (some ⟨g, 0, none⟩) n c) n xs) (i : Nat) (v : Value) : (w.setCell ⟨g, i, none⟩ v).ownsRow B e size (.slice (some ⟨g, 0, none⟩) n c) n (xs.set i v) := by
  refine ⟨by rw [List.length_set]; exact h.1, ?_⟩
  rcases h.2 with ⟨hv, _⟩ | ⟨g', cap, cur, hv, hbg, hg, h1, h2, h3, h4⟩
  . cases hv
  . simp only [Value.slice.injEq, Option.some.injEq, Addr.mk.injEq] at hv
    obtain ⟨⟨rfl, -⟩, -, rfl⟩ := hv
    refine .inr ⟨g, c, cur.setIfInBounds i v, rfl, hbg, ?_, h1, h2, by simpa using h3, ?_⟩
    . rw [setCell_eq_setRow _ _ i _ _ _ _ hg]
      exact setRow_heap _ _ _ _ _ _ hg
    . rw [Array.toList_setIfInBounds, List.take_set, h4]
theorem own_at {w : World} {B e size n g c : Nat} {xs : List Value} (h : w.ownsRow B e size (.slice (some ⟨g, 0, none⟩) n c) n xs) (i : Nat) (v : Value) (hi : xs[i]? = some v) : w.cell? ⟨g, i, none⟩ = some v := by
  rcases h.2 with ⟨hv, _⟩ | ⟨g', cap, cur, hv, hbg, hg, h1, h2, h3, h4⟩
  . cases hv
  . simp only [Value.slice.injEq, Option.some.injEq, Addr.mk.injEq] at hv
    obtain ⟨⟨rfl, -⟩, -, rfl⟩ := hv
    rw [← h4, List.getElem?_take] at hi
    split at hi
    . exact (cell_of_row _ _ _ _ _ _ hg).trans (by simpa using hi)
    . cases hi
theorem own_free {w : World} {B e size n g c : Nat} {xs : List Value} (h : w.ownsRow B e size (.slice (some ⟨g, 0, none⟩) n c) n xs) (i : Nat) : w.frozen? ⟨g, i, none⟩ = false := by
  rcases h.2 with ⟨hv, _⟩ | ⟨g', cap, cur, hv, hbg, hg, _⟩
  . cases hv
  . simp only [Value.slice.injEq, Option.some.injEq, Addr.mk.injEq] at hv
    obtain ⟨⟨rfl, -⟩, -, rfl⟩ := hv
    simp [World.frozen?, hg]
end Go.Proofs.YthndpbjplcphpaaDoor.Cir
