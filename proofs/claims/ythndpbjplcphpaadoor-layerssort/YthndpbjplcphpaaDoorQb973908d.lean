import Derived.Test.YthndpbjplcphpaaDoorQ172024a8
import Derived.Test.YthndpbjplcphpaaDoorQf8447b3f
namespace Go.Proofs.YthndpbjplcphpaaDoor.Cir
open Go.RowKit Go.Shelf Go.Proofs.YthndpbjplcphpaaDoor.Oct Go.Proofs.YthndpbjplcphpaaDoor.Tok Go.Proofs.YthndpbjplcphpaaDoor.Gt
def rgV (r : Rg) : Value := .agg #[.int .i64 (r.fr : Int), .int .i64 (r.sz : Int)]
def RM (w : World) (b : Nat) (f : Nm -> Option Rg) : Prop := ∃ n : Nat, True /\ Mp w b n (fun x => (f x).map rgV)
theorem RM.kept {w w' : World} {b : Nat} {f : Nm -> Option Rg} {M : List Nat} (h : RM w b f) (hk : Kb M w w') (hm : b ∉ M) : RM w' b f := by
  obtain ⟨n, hn, h⟩ := h
  exact ⟨n, hn, h.kept hk hm⟩
theorem RM.below {w w' : World} {b : Nat} {f : Nm -> Option Rg} (h : RM w b f) (hb : Below w.heap.size w w') : RM w' b f := by
  obtain ⟨n, hn, h⟩ := h
  exact ⟨n, hn, h.below hb⟩
section
variable {P : Program}
theorem push {ops : Array Oper} {rest : List Oper} {o : Oper} {a : Act} {Q : Exit -> Act -> World -> Prop} {w : World} (hgd : o.guard = none) (s x : Operand) (t : TypeId)
    (ho : o.op = .call { callee := .builtin .append, args := #[s, x], argTypes := #[t, t] })
    (e : TypeId) (ht : P.underlying t = some (.slice e)) (z0 : Value) (size by' : Nat) (hinfo : (P.info? e).map (fun i => (i.zero, i.size, i.bytes)) = some (some z0, size, by')) (hz0' : z0.cells.size = size) (hs0 : 0 < size)
    (B : Nat) (ao : Option Addr) (n c : Nat) (xs : List Value) (hs : a.eval s = .slice ao n c) (hown : w.ownsRow B e size (.slice ao n c) n xs)
    (news : List Value) (cells : Array Value) (hz : cells = news.toArray) (hl : news.length = size) (hv : ∀ u ∈ news, u.oneCell' = true) (H : Nat) (hH : w.heap.size = H) (hx : a.eval x = .slice (some ⟨H, 0, none⟩) 1 1) (hlen : (n + 1) * by' <= 140737488355328) (hn : n + 1 <= 140737488355328) (hbase : B <= w.heap.size)
    (h : ∀ g cap w', w'.ownsRow B e size (.slice (some ⟨g, 0, none⟩) (n + 1) cap) (n + 1) (xs ++ news) -> w.grownBy w' (ob ao) -> (ob ao = some g ∨ w.heap.size <= g) -> wpList P ops Q rest (a.put o.dst (.slice (some ⟨g, 0, none⟩) (n + 1) cap)) w') :
    wpList P ops Q (o :: rest) a (w.alloc (.cells cells e)) := by
  obtain ⟨i, hi, hz0, hz1, hz2⟩ := info_parts hinfo
  subst hz
  subst hH
  refine wpList_append_lies _ hgd s x t ho B e i z0 size by' ht hi hz0 hz1 hz2 hz0' hs0 _ n xs hs (hown.alloc _) ⟨w.heap.size, 0, none⟩ 1 1 news hx (by omega) (fun j u hu => by rw [Addr.add_lit, Nat.zero_add, cell_of_row _ _ _ _ _ _ (heap_alloc_new w _)]; simpa using hu) hv (by decide) (by unfold maxLen; omega) hlen (by simp; omega) _ rfl ?_
  intro g cap w' ho' hg hat hlt
  rw [ob_eq] at hg hat
  refine h g cap w' ho' ((grown_alloc w _ _).trans hg) ?_
  rcases hat with e | e
  . exact .inl e
  . right; simp at e; omega
end
theorem infoI : (Tryd.prog.info? 3).map (fun i => (i.zero, i.size, i.bytes)) = some (some (.int .i64 0), 1, 8) := by kernel_rfl
def iv (z : Nat) : Value := .int .i64 (z : Int)
def Is (w : World) (v : Value) (l : List Nat) : Prop := (l = [] /\ ∃ ao c, v = .slice ao 0 c) ∨ ∃ g off c cs fr, v = .slice (some ⟨g, off, none⟩) l.length c /\ w.heap[g]? = some (.cells cs 3 fr) /\ ∀ j z, l[j]? = some z -> cs[off + j]? = some (iv z)
theorem Is.block {w w' : World} {v : Value} {l : List Nat} (h : Is w v l) (hk : ∀ (g : Nat) (cs : Array Value) (fr : Nat × Nat), w.heap[g]? = some (Obj.cells cs 3 fr) -> w'.heap[g]? = w.heap[g]?) : Is w' v l := by
  rcases h with h | ⟨g, off, c, cs, fr, h1, h2, h3⟩
  . exact .inl h
  . exact .inr ⟨g, off, c, cs, fr, h1, (hk g cs fr h2).trans h2, h3⟩
theorem Is.below {w w' : World} {v : Value} {l : List Nat} (h : Is w v l) (hb : Below w.heap.size w w') : Is w' v l :=
  h.block fun g _ _ hg => hb.block g (Array.getElem?_eq_some_iff.1 hg).1
theorem Is.of_own {w : World} {B : Nat} {ao : Option Addr} {c : Nat} {l : List Nat} (h : w.ownsRow B 3 1 (.slice ao l.length c) l.length (l.map iv)) : Is w (.slice ao l.length c) l := by
  rcases h.2 with ⟨hv, h0⟩ | ⟨g, cap, cur, hv, hbg, hg, h1, h2, h3, h4⟩
  . exact .inl ⟨List.length_eq_zero_iff.1 h0, ao, c, by rw [h0]⟩
  . refine .inr ⟨g, 0, cap, cur, _, hv, hg, fun j z hj => ?_⟩
    have hlt := (List.getElem?_eq_some_iff.1 hj).1
    have : (l.map iv)[j]? = some (iv z) := by rw [List.getElem?_map, hj]; rfl
    rw [← h4, List.getElem?_take, if_pos (by omega)] at this
    rw [Nat.zero_add]
    simpa using this
def Isb (C : Nat) (w : World) (v : Value) (l : List Nat) : Prop := (l = [] /\ ∃ ao c, v = .slice ao 0 c) ∨ ∃ g off c cs fr, g < C /\ v = .slice (some ⟨g, off, none⟩) l.length c /\ w.heap[g]? = some (.cells cs 3 fr) /\ ∀ j z, l[j]? = some z -> cs[off + j]? = some (iv z)
theorem Is.b {w : World} {v : Value} {l : List Nat} (h : Is w v l) : Isb w.heap.size w v l := by
  rcases h with h | ⟨g, off, c, cs, fr, h1, h2, h3⟩
  . exact .inl h
  . exact .inr ⟨g, off, c, cs, fr, (Array.getElem?_eq_some_iff.1 h2).1, h1, h2, h3⟩
theorem Isb.mono {C C' : Nat} {w : World} {v : Value} {l : List Nat} (h : Isb C w v l) (hC : C <= C') : Isb C' w v l := by
  rcases h with h | ⟨g, off, c, cs, fr, h0, h⟩
  . exact .inl h
  . exact .inr ⟨g, off, c, cs, fr, by omega, h⟩
theorem Isb.block {C : Nat} {w w' : World} {v : Value} {l : List Nat} (h : Isb C w v l) (hk : ∀ (g : Nat), g < C -> ∀ (cs : Array Value) (fr : Nat × Nat), w.heap[g]? = some (Obj.cells cs 3 fr) -> w'.heap[g]? = w.heap[g]?) : Isb C w' v l := by
  rcases h with h | ⟨g, off, c, cs, fr, h0, h1, h2, h3⟩
  . exact .inl h
  . exact .inr ⟨g, off, c, cs, fr, h0, h1, (hk g h0 cs fr h2).trans h2, h3⟩
structure Sx where
  kind : Nat
  gate : Nat
  inner : Value
  nm : Value
  ops : List PO
def Sx.cells (s : Sx) : List Value := [iv s.kind, iv s.gate, s.inner, s.nm]
theorem Is.cell {w : World} {ao : Option Addr} {c n : Nat} {l : List Nat} (h : Is w (.slice ao n c) l) {j z : Nat} (hj : l[j]? = some z) : ∃ g off, ao = some ⟨g, off, none⟩ /\ w.cell? ⟨g, off + j, none⟩ = some (.int .i64 (z : Int)) := by
  rcases h with ⟨rfl, _⟩ | ⟨g, off, c', cs, fr, h1, h2, h3⟩
  . simp at hj
  . simp only [Value.slice.injEq] at h1
    exact ⟨g, off, h1.1, (cell_of_row _ _ _ _ _ _ h2).trans (h3 j z hj)⟩
end Go.Proofs.YthndpbjplcphpaaDoor.Cir
