/- put: a call more in the define that is being made. -/
import Derived.Test.YtkbodljmkhnebaaGreatDoorOm
namespace Go.Proofs.YtkbodljmkhnebaaGreatDoor.Cir
open Go.RowKit Go.Shelf Go.Proofs.YtkbodljmkhnebaaGreatDoor.Oct Go.Proofs.YtkbodljmkhnebaaGreatDoor.Tok Go.Proofs.YtkbodljmkhnebaaGreatDoor.Gt

section
variable {P : Program}
/-- 'append', elements of several cells, at a step of a region that draws its order. -/
theorem step_push {ops : Array Oper} {o : Oper} {a : Act} {K : Act → World → Prop} {Q : Exit → Act → World → Prop} {E : Prop} {w : World} (hgd : o.guard = none) (s x : Operand) (t : TypeId)
    (ho : o.op = .call { callee := .builtin .append, args := #[s, x], argTypes := #[t, t] })
    (e : TypeId) (ht : P.underlying t = some (.slice e)) (z0 : Value) (size by' : Nat) (hinfo : (P.info? e).map (fun i => (i.zero, i.size, i.bytes)) = some (some z0, size, by')) (hz0' : z0.cells.size = size) (hs0 : 0 < size)
    (B : Nat) (ao : Option Addr) (n c : Nat) (xs : List Value) (hs : a.eval s = .slice ao n c) (hown : w.ownsRow B e size (.slice ao n c) n xs)
    (news : List Value) (cells : Array Value) (hz : cells = news.toArray) (hl : news.length = size) (hv : ∀ u ∈ news, u.oneCell' = true) (H : Nat) (hH : w.heap.size = H) (hx : a.eval x = .slice (some ⟨H, 0, none⟩) 1 1) (hlen : (n + 1) * by' ≤ 140737488355328) (hn : n + 1 ≤ 140737488355328) (hbase : B ≤ w.heap.size)
    (h : ∀ g cap w', w'.ownsRow B e size (.slice (some ⟨g, 0, none⟩) (n + 1) cap) (n + 1) (xs ++ news) → w.grownBy w' (ob ao) → (ob ao = some g ∨ w.heap.size ≤ g) → K (a.put o.dst (.slice (some ⟨g, 0, none⟩) (n + 1) cap)) w') :
    if Region.wanted o (yielded ops a.tmps) = true then Oper.wp P o a (w.alloc (.cells cells e)) K Q else E := by
  obtain ⟨i, hi, hz0, hz1, hz2⟩ := info_parts hinfo
  subst hz
  subst hH
  refine step_append_lies _ hgd s x t ho B e i z0 size by' ht hi hz0 hz1 hz2 hz0' hs0 _ n xs hs (hown.alloc _) ⟨w.heap.size, 0, none⟩ 1 1 news hx (by omega) (fun j u hu => by rw [Addr.add_lit, Nat.zero_add, cell_of_row _ _ _ _ _ _ (heap_alloc_new w _)]; simpa using hu) hv (by decide) (by unfold maxLen; omega) hlen (by simp; omega) _ rfl ?_
  intro g cap w' ho' hg hat hlt
  rw [ob_eq] at hg hat
  refine h g cap w' ho' ((grown_alloc w _ _).trans hg) ?_
  rcases hat with e | e
  · exact .inl e
  · right; simp at e; omega
theorem step_pushD {ops : Array Oper} {o : Oper} {a : Act} {K : Act → World → Prop} {Q : Exit → Act → World → Prop} {E : Prop} {w : World} (hgd : o.guard = none) (s x : Operand) (t : TypeId)
    (ho : o.op = .call { callee := .builtin .append, args := #[s, x], argTypes := #[t, t] })
    (e : TypeId) (ht : P.underlying t = some (.slice e)) (z0 : Value) (size by' : Nat) (hinfo : (P.info? e).map (fun i => (i.zero, i.size, i.bytes)) = some (some z0, size, by')) (hz0' : z0.cells.size = size) (hs0 : 0 < size)
    (B : Nat) (ao : Option Addr) (n c : Nat) (xs : List Value) (hs : a.eval s = .slice ao n c) (hown : w.ownsRow B e size (.slice ao n c) n xs)
    (news : List Value) (cells : Array Value) (hz : cells = news.toArray) (hl : news.length = size) (hv : ∀ u ∈ news, u.oneCell' = true) (H : Nat) (hH : w.heap.size = H) (hx : a.eval x = .slice (some ⟨H, 0, none⟩) 1 1) (hlen : (n + 1) * by' ≤ 140737488355328) (hn : n + 1 ≤ 140737488355328) (hbase : B ≤ w.heap.size)
    (h : ∀ g cap w', w'.ownsRow B e size (.slice (some ⟨g, 0, none⟩) (n + 1) cap) (n + 1) (xs ++ news) → w.grownBy w' (ob ao) → (ob ao = some g ∨ w.heap.size ≤ g) → K (a.put o.dst (.slice (some ⟨g, 0, none⟩) (n + 1) cap)) w') :
    if Region.wanted o (yielded ops a.tmps) = true then Oper.wp P o a (w.alloc (.cells cells e)).drew K Q else E :=
  step_push (w := w.drew) hgd s x t ho e ht z0 size by' hinfo hz0' hs0 B ao n c xs hs hown news cells hz hl hv H hH hx hlen hn hbase (fun g cap w' h1 h2 h3 => h g cap w' h1 ⟨h2.os, h2.tape, h2.output, h2.size, h2.block⟩ h3)
end
theorem own_set {w : World} {B e size n g c : Nat} {xs : List Value} (h : w.ownsRow B e size (.slice (some ⟨g, 0, none⟩) n c) n xs) (i : Nat) (v : Value) : (w.setCell ⟨g, i, none⟩ v).ownsRow B e size (.slice (some ⟨g, 0, none⟩) n c) n (xs.set i v) := by
  refine ⟨by rw [List.length_set]; exact h.1, ?_⟩
  rcases h.2 with ⟨hv, _⟩ | ⟨g', cap, cur, hv, hbg, hg, h1, h2, h3, h4⟩
  · cases hv
  · simp only [Value.slice.injEq, Option.some.injEq, Addr.mk.injEq] at hv
    obtain ⟨⟨rfl, -⟩, -, rfl⟩ := hv
    refine .inr ⟨g, c, cur.setIfInBounds i v, rfl, hbg, ?_, h1, h2, by simpa using h3, ?_⟩
    · rw [setCell_eq_setRow _ _ i _ _ _ _ hg]
      exact setRow_heap _ _ _ _ _ _ hg
    · rw [Array.toList_setIfInBounds, List.take_set, h4]
theorem own_at {w : World} {B e size n g c : Nat} {xs : List Value} (h : w.ownsRow B e size (.slice (some ⟨g, 0, none⟩) n c) n xs) (i : Nat) (v : Value) (hi : xs[i]? = some v) : w.cell? ⟨g, i, none⟩ = some v := by
  rcases h.2 with ⟨hv, _⟩ | ⟨g', cap, cur, hv, hbg, hg, h1, h2, h3, h4⟩
  · cases hv
  · simp only [Value.slice.injEq, Option.some.injEq, Addr.mk.injEq] at hv
    obtain ⟨⟨rfl, -⟩, -, rfl⟩ := hv
    rw [← h4, List.getElem?_take] at hi
    split at hi
    · exact (cell_of_row _ _ _ _ _ _ hg).trans (by simpa using hi)
    · cases hi
theorem own_free {w : World} {B e size n g c : Nat} {xs : List Value} (h : w.ownsRow B e size (.slice (some ⟨g, 0, none⟩) n c) n xs) (i : Nat) : w.frozen? ⟨g, i, none⟩ = false := by
  rcases h.2 with ⟨hv, _⟩ | ⟨g', cap, cur, hv, hbg, hg, _⟩
  · cases hv
  · simp only [Value.slice.injEq, Option.some.injEq, Addr.mk.injEq] at hv
    obtain ⟨⟨rfl, -⟩, -, rfl⟩ := hv
    simp [World.frozen?, hg]
/-- Four cells at once. -/
def set4 (w : World) (g i : Nat) (a b c d : Value) : World := (((w.setCell ⟨g, i, none⟩ a).setCell ⟨g, i + 1, none⟩ b).setCell ⟨g, i + 2, none⟩ c).setCell ⟨g, i + 3, none⟩ d
theorem set4_own {w : World} {B e k g c : Nat} {xs : List Value} {z0 z1 z2 z3 : Value} (h : w.ownsRow B e 4 (.slice (some ⟨g, 0, none⟩) (k + 1) c) (k + 1) (xs ++ [z0, z1, z2, z3])) (hx : xs.length = k * 4) (a b d f : Value) :
    (set4 w g (k * 4) a b d f).ownsRow B e 4 (.slice (some ⟨g, 0, none⟩) (k + 1) c) (k + 1) (xs ++ [a, b, d, f]) := by
  have h0 := own_set (own_set (own_set (own_set h (k * 4) a) (k * 4 + 1) b) (k * 4 + 2) d) (k * 4 + 3) f
  have e : ((((xs ++ [z0, z1, z2, z3]).set (k * 4) a).set (k * 4 + 1) b).set (k * 4 + 2) d).set (k * 4 + 3) f = xs ++ [a, b, d, f] := by
    rw [← hx]
    simp
  rw [e] at h0
  exact h0
theorem set4_other (w : World) (g i : Nat) (a b c d : Value) (k : Nat) (h : k ≠ g) : (set4 w g i a b c d).heap[k]? = w.heap[k]? := by
  unfold set4
  rw [Below.heap_setCell _ _ _ _ h, Below.heap_setCell _ _ _ _ h, Below.heap_setCell _ _ _ _ h, Below.heap_setCell _ _ _ _ h]
theorem Kb.set4 {M : List Nat} {a w : World} (h : Kb M a w) {g : Nat} (hg : g ∈ M ∨ a.heap.size ≤ g) (i : Nat) (u v x y : Value) : Kb M a (set4 w g i u v x y) :=
  (((h.setCell (p := ⟨g, i, none⟩) hg _).setCell (p := ⟨g, i + 1, none⟩) hg _).setCell (p := ⟨g, i + 2, none⟩) hg _).setCell (p := ⟨g, i + 3, none⟩) hg _
/-- What has been made of the define by a step more, whichever of the two stores came first. -/
theorem put_fin {V w6 : World} {D B B1 n g6 k c cap : Nat} {ao : Option Addr} {x0 x1 : Value} {ss : List Sx} {z0 z1 z2 z3 : Value} (s : Sx) (dd : Nat)
    (hD : V.heap[D]? = some (.cells #[x0, x1, .slice ao k c] 221 (0, 0))) (hk : k = ss.length)
    (hown : V.ownsRow B1 276 4 (.slice ao k c) k (ss.flatMap Sx.cells)) (h6 : w6.ownsRow B1 276 4 (.slice (some ⟨g6, 0, none⟩) (k + 1) cap) (k + 1) (ss.flatMap Sx.cells ++ [z0, z1, z2, z3])) (hg : V.grownBy w6 (ob ao)) (hat : ob ao = some g6 ∨ V.heap.size ≤ g6)
    (hB : B ≤ B1) (hS : ∀ x ∈ ss ++ [s], StOk dd V B n x) (X : World) (hX : X = (set4 w6 g6 (k * 4) (iv s.kind) (iv s.gate) s.inner s.nm).setCell ⟨D, 2, none⟩ (.slice (some ⟨g6, 0, none⟩) (k + 1) cap) ∨ X = set4 (w6.setCell ⟨D, 2, none⟩ (.slice (some ⟨g6, 0, none⟩) (k + 1) cap)) g6 (k * 4) (iv s.kind) (iv s.gate) s.inner s.nm) :
    X.heap[D]? = some (.cells #[x0, x1, .slice (some ⟨g6, 0, none⟩) (k + 1) cap] 221 (0, 0)) ∧ k + 1 = (ss ++ [s]).length ∧ X.ownsRow B1 276 4 (.slice (some ⟨g6, 0, none⟩) (k + 1) cap) (k + 1) ((ss ++ [s]).flatMap Sx.cells) ∧ (∀ x ∈ ss ++ [s], StOk dd X B n x) ∧ Kb (D :: (ob ao).toList) V X := by
  have hlD := (Array.getElem?_eq_some_iff.1 hD).1
  have hneD : some D ≠ ob ao := (own_ne hown hD (by decide)).symm
  have hD6 := (hg.block D hlD hneD).trans hD
  have hgD : D ≠ g6 := fun e => own_ne h6 hD6 (by decide) (by rw [e]; rfl)
  have hxl : (ss.flatMap Sx.cells).length = k * 4 := hown.1
  have ecell : ∀ (ss : List Sx) (s : Sx), (ss ++ [s]).flatMap Sx.cells = ss.flatMap Sx.cells ++ [iv s.kind, iv s.gate, s.inner, s.nm] := fun ss s => by rw [List.flatMap_append]; simp [Sx.cells]
  have hKV : Kb (D :: (ob ao).toList) V w6 := (Kb.refl _ V).grown hg (fun b hb => .inl (by simp [hb]))
  have hg6 : g6 ∈ D :: (ob ao).toList ∨ V.heap.size ≤ g6 := by
    rcases hat with e | e
    · exact .inl (by simp [e])
    · exact .inr e
  have hKX : Kb (D :: (ob ao).toList) V X := by
    rcases hX with rfl | rfl
    · exact (hKV.set4 hg6 _ _ _ _ _).setCell (.inl (by simp)) _
    · exact (hKV.setCell (p := ⟨D, 2, none⟩) (.inl (by simp)) _).set4 hg6 _ _ _ _ _
  have hblk : ∀ b, b < V.heap.size → b ≠ D → some b ≠ ob ao → X.heap[b]? = V.heap[b]? := fun b hb h1 h2 => hKX.block b hb (by simp; exact ⟨h1, fun e => h2 e.symm⟩)
  have hg6B := (own_lt h6 g6 rfl).1
  have e2 : (2 : Nat) < 3 := by decide
  refine ⟨?_, by rw [List.length_append, ← hk]; rfl, ?_, fun x hx => (hS x hx).block (fun g cs fr hb => ?_) (fun g hgB cs fr hb => ?_), hKX⟩
  · rcases hX with rfl | rfl
    · have h7 := (set4_other w6 g6 (k * 4) (iv s.kind) (iv s.gate) s.inner s.nm D hgD).trans hD6
      rw [setCell_eq_setRow _ _ 2 _ _ _ _ h7]
      exact setRow_heap _ _ _ _ _ _ h7
    · rw [set4_other _ _ _ _ _ _ _ _ hgD, setCell_eq_setRow _ _ 2 _ _ _ _ hD6]
      exact setRow_heap _ _ _ _ _ _ hD6
  · rw [ecell]
    rcases hX with rfl | rfl
    · exact own_of_block (set4_own h6 hxl _ _ _ _) (fun b hb => Below.heap_setCell _ _ _ _ (by cases hb; exact fun e => hgD e.symm))
    · exact set4_own (own_of_block h6 (fun b hb => Below.heap_setCell _ _ _ _ (by cases hb; exact fun e => hgD e.symm))) hxl _ _ _ _
  · refine hblk g (Array.getElem?_eq_some_iff.1 hb).1 (fun e => ?_) (own_ne hown hb (by decide)).symm
    rw [e, hD] at hb
    simp at hb
  · refine hblk g (Array.getElem?_eq_some_iff.1 hb).1 (fun e => ?_) (fun e => ?_)
    · rw [e, hD] at hb
      simp at hb
    · have := (own_lt hown g e.symm).1
      omega
end Go.Proofs.YtkbodljmkhnebaaGreatDoor.Cir
