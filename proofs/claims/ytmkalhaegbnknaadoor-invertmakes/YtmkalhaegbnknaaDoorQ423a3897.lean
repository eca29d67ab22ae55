import Derived.Test.YtmkalhaegbnknaaDoorQ0ea0ffd8
namespace Go.Proofs.YtmkalhaegbnknaaDoor.Cir
open Go.RowKit Go.Shelf Go.Proofs.YtmkalhaegbnknaaDoor.Oct Go.Proofs.YtmkalhaegbnknaaDoor.Tok Go.Proofs.YtmkalhaegbnknaaDoor.Gt Go.Proofs.YtmkalhaegbnknaaDoor.Rf
theorem own_take17 {w : World} {B e c k m : Nat} {ao : Option Addr} {xs : List Value} (h : w.ownsRow B e 1 (.slice ao m c) m xs) (hk : k <= m) : w.ownsRow B e 1 (.slice ao k c) k (xs.take k) := by
  have hl := h.1
  refine ⟨by rw [List.length_take]; omega, ?_⟩
  rcases h.2 with ⟨e1, e2⟩ | ⟨g, cap, cur, e1, e2, e3, e4, e5, e6, e7⟩
  . simp only [Value.slice.injEq] at e1
    obtain rfl : k = 0 := by omega
    exact .inl ⟨by rw [e1.1, e1.2.2], rfl⟩
  . simp only [Value.slice.injEq] at e1
    refine .inr ⟨g, cap, cur, by rw [e1.1, e1.2.2], e2, e3, by omega, e5, e6, ?_⟩
    rw [← e7, List.take_take]
    congr 1
    omega
theorem RowO.take17 {w : World} {B : Nat} {ao : Option Addr} {c m : Nat} {l : List Int} (h : RowO w B (.slice ao m c) l) (k : Nat) (hm : l.length = m) (hk : k <= m) : RowO w B (.slice ao k c) (l.take k) := by
  obtain ⟨a, cc, e, ho⟩ := h
  simp only [Value.slice.injEq] at e
  obtain ⟨rfl, -, rfl⟩ := e
  rw [hm] at ho
  have hl : (l.take k).length = k := by rw [List.length_take]; omega
  refine ⟨ao, c, by rw [hl], ?_⟩
  rw [hl, List.map_take]
  exact own_take17 ho hk
theorem list_push18 {ops : Array Oper} {rest : List Oper} {o : Oper} {a : Act} {Q : Exit -> Act -> World -> Prop} {X : World} (hgd : o.guard = none) (s x : Operand)
    (ho : o.op = .call { callee := .builtin .append, args := #[s, x], argTypes := #[22, 22] }) {B E0 n c : Nat} {ao : Option Addr} {l : List COp} (hO : OpsE X B E0 ao n c l) (hB : B <= E0) (hE : E0 <= X.heap.size) (p : COp) (v : Value) (hv : RowO X E0 v p.qs) (H : Nat) (hH : X.heap.size = H) (hn : n <= 1000000000) (cells : Array Value) (hcells : cells = (opC (p, v)).toArray) (hs : a.eval s = .slice ao n c) (hx : a.eval x = .slice (some ⟨H, 0, none⟩) 1 1)
    (h : ∀ g cap w', OpsOwn w' B (some ⟨g, 0, none⟩) (n + 1) cap (l ++ [p]) -> X.grownBy w' (ob ao) -> (ob ao = some g ∨ X.heap.size <= g) -> wpList Tryd.prog ops Q rest (a.put o.dst (.slice (some ⟨g, 0, none⟩) (n + 1) cap)) w') : wpList Tryd.prog ops Q (o :: rest) a (X.alloc (.cells cells 41)) := by
  subst hH
  have hb : Below X.heap.size X (X.alloc (.cells cells 41)) := bnew _ _
  obtain ⟨i0, hi, hz0, hz1, hz2⟩ := info_parts infoOp
  obtain ⟨xs, h1, h2, h3, h4, h5, h6⟩ := hO.below hb
  have hv1 : v.oneCell' = true := by
    obtain ⟨a', k', e, -⟩ := hv
    rw [e]
    rfl
  refine wpList_append_lies _ hgd s x 22 ho B 41 i0 _ 6 64 Tryd.underlying22 hi hz0 hz1 hz2 rfl (by decide) _ n _ hs h3 ⟨X.heap.size, 0, none⟩ 1 1 (opC (p, v)) hx rfl (fun j u hu => by rw [Addr.add_lit, Nat.zero_add, cell_of_row _ _ _ _ _ _ (heap_alloc_new X _), hcells]; simpa using hu) (opC_one17 p v hv1) (by decide) (by unfold maxLen; omega) (by omega) (Nat.le_trans hB (Nat.le_trans hE hb.size)) _ rfl ?_
  intro g cap w' ho' hg hat hlt
  rw [ob_eq] at hg hat
  refine h g cap w' (OpsOwn.push h1 h2 h3 h4 h5 p v ((hv.below hb).base hB) (fun x hx g1 e1 e2 => ?_) hg ho') ((grown_alloc X _ _).trans hg) ?_
  . have q1 := h6 x hx g1 e1
    have q2 := (hv.lt e2).1
    omega
  . rcases hat with e | e
    . exact .inl e
    . right
      simp at e
      omega
theorem app_emp17 {ops : Array Oper} {rest : List Oper} {o : Oper} {a : Act} {Q : Exit -> Act -> World -> Prop} {X : World} (hgd : o.guard = none) (s x : Operand)
    (ho : o.op = .call { callee := .builtin .append, args := #[s, x], argTypes := #[39, 39] }) (pre : List Int) (np : Nat) (hnp : pre.length = np) (cells : Array Value) (hcells : cells = (pre.map (Value.int .i64)).toArray) (H : Nat) (hH : X.heap.size = H) (hs : a.eval s = .slice (some ⟨H, 0, none⟩) np np)
    (ao : Option Addr) (c : Nat) (l : List Int) (n : Nat) (hn : l.length = n) (h0 : 0 < n) (hx : a.eval x = .slice ao n c) (hN : Ns X ao l) (hl : n <= 1000000000) (hp : np <= 1000)
    (h : ∀ ao' c' w', RowO w' X.heap.size (.slice ao' (np + n) c') (pre ++ l) -> Below X.heap.size X w' -> wpList Tryd.prog ops Q rest (a.put o.dst (.slice ao' (np + n) c')) w') : wpList Tryd.prog ops Q (o :: rest) a (X.alloc (.cells cells 3)) := by
  subst hH hn hnp hcells
  have hb : Below X.heap.size X (X.alloc (.cells (pre.map (Value.int .i64)).toArray 3)) := bnew _ _
  obtain ⟨i0, hi, hz0, hz1, hz2⟩ := info_parts Gt.infoI
  have hne : l ≠ [] := fun e => by rw [e] at h0; simp at h0
  obtain ⟨g, off, rfl, hc⟩ := hN.resolve_left hne
  have hown : (X.alloc (.cells (pre.map (Value.int .i64)).toArray 3)).ownsRow X.heap.size 3 1 (.slice (some ⟨X.heap.size, 0, none⟩) pre.length pre.length) pre.length (pre.map (Value.int .i64)) := ⟨by simp, .inr ⟨X.heap.size, pre.length, (pre.map (Value.int .i64)).toArray, rfl, Nat.le_refl _, heap_alloc_new _ _, Nat.le_refl _, by unfold maxLen; omega, by simp, by simp only [Nat.mul_one]; exact List.take_of_length_le (by simp)⟩⟩
  refine wpList_append_lies _ hgd s x 39 ho X.heap.size 3 i0 (.int .i64 0) 1 8 Tryd.underlying39 hi hz0 hz1 hz2 rfl (by decide) _ pre.length _ hs hown ⟨g, off, none⟩ l.length c (l.map (Value.int .i64)) hx (by simp) (fun j u hu => ?_) (fun u hu => ?_) h0 (by unfold maxLen; omega) (by omega) hb.size _ rfl ?_
  . rw [Addr.add_lit]
    rw [List.getElem?_map] at hu
    obtain ⟨z, hz, rfl⟩ := Option.map_eq_some_iff.1 hu
    exact cell_below (hc j z hz) hb
  . obtain ⟨z, _, rfl⟩ := List.mem_map.1 hu
    rfl
  . intro g2 cap w2 hown2 hgrow hat hlt
    refine h _ _ w2 ⟨_, _, by rw [List.length_append], ?_⟩ (hb.grown hgrow hb.size (fun q hq => by
      rw [ob_eq] at hq
      cases hq
      exact Nat.le_refl _))
    rw [List.length_append, List.map_append]
    exact hown2
end Go.Proofs.YtmkalhaegbnknaaDoor.Cir
