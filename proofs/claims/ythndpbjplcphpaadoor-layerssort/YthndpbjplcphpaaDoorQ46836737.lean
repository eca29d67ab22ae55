import Derived.Test.YthndpbjplcphpaaDoorQ962363ed
namespace Go.Proofs.YthndpbjplcphpaaDoor.Cir
open Go.RowKit Go.Shelf Go.Proofs.YthndpbjplcphpaaDoor.Oct Go.Proofs.YthndpbjplcphpaaDoor.Tok Go.Proofs.YthndpbjplcphpaaDoor.Gt
def IsI (w : World) (v : Value) (l : List Int) : Prop := (l = [] /\ ∃ ao c, v = .slice ao 0 c) ∨ ∃ g off c cs fr, v = .slice (some ⟨g, off, none⟩) l.length c /\ l.length <= c /\ w.heap[g]? = some (.cells cs 3 fr) /\ ∀ (j : Nat) (z : Int), l[j]? = some z -> cs[off + j]? = some (.int .i64 z)
theorem Is.int {w : World} {ao : Option Addr} {n c : Nat} {l : List Nat} (h : Is w (.slice ao n c) l) (hc : n <= c) : IsI w (.slice ao n c) (l.map Int.ofNat) := by
  rcases h with ⟨rfl, h⟩ | ⟨g, off, c, cs, fr, h1, h2, h3⟩
  . exact .inl ⟨rfl, h⟩
  . simp only [Value.slice.injEq] at h1
    obtain ⟨rfl, rfl, rfl⟩ := h1
    refine .inr ⟨g, off, c, cs, fr, by rw [List.length_map], by rw [List.length_map]; exact hc, h2, fun j z hj => ?_⟩
    rw [List.getElem?_map] at hj
    cases hl : l[j]? with
    | none => rw [hl] at hj; cases hj
    | some y =>
      rw [hl] at hj
      simp at hj
      rw [h3 j y hl, ← hj]
      rfl
theorem IsI.block {w w' : World} {v : Value} {l : List Int} (h : IsI w v l) (hk : ∀ (g : Nat) (cs : Array Value) (fr : Nat × Nat), w.heap[g]? = some (Obj.cells cs 3 fr) -> w'.heap[g]? = w.heap[g]?) : IsI w' v l := by
  rcases h with h | ⟨g, off, c, cs, fr, h1, h0, h2, h3⟩
  . exact .inl h
  . exact .inr ⟨g, off, c, cs, fr, h1, h0, (hk g cs fr h2).trans h2, h3⟩
def opC (x : COp × Value) : List Value := [.int .i64 x.1.kind, .int .i64 x.1.gate, x.2, .int .i64 x.1.bit, .int .i64 x.1.cond, .int .i64 x.1.whn]
theorem infoOp : (Tryd.prog.info? 57).map (fun i => (i.zero, i.size, i.bytes)) = some (some (.agg #[.int .i64 0, .int .i64 0, .slice none 0 0, .int .i64 0, .int .i64 0, .int .i64 0]), 6, 64) := by kernel_rfl
def OpsAt (w : World) (B : Nat) (ao : Option Addr) (n c : Nat) (ops : List COp) : Prop := ∃ xs : List (COp × Value), n = xs.length /\ ops = xs.map (·.1) /\ w.ownsRow B 57 6 (.slice ao n c) n (xs.flatMap opC) /\ ∀ x ∈ xs, IsI w x.2 x.1.qs
theorem OpsAt.len {w : World} {B : Nat} {ao : Option Addr} {n c : Nat} {ops : List COp} (h : OpsAt w B ao n c ops) : n = ops.length := by
  obtain ⟨xs, h1, h2, _⟩ := h
  rw [h1, h2, List.length_map]
theorem OpsAt.below {w w' : World} {B : Nat} {ao : Option Addr} {n c : Nat} {ops : List COp} (h : OpsAt w B ao n c ops) (hb : Below w.heap.size w w') : OpsAt w' B ao n c ops := by
  obtain ⟨xs, h1, h2, h3, h4⟩ := h
  exact ⟨xs, h1, h2, own_of_block h3 (fun k hk => hb.block k (own_lt h3 k hk).2), fun x hx => (h4 x hx).block fun g _ _ hg => hb.block g (Array.getElem?_eq_some_iff.1 hg).1⟩
theorem OpsAt.push {w w' : World} {B : Nat} {ao : Option Addr} {n c : Nat} {ops : List COp} (h : OpsAt w B ao n c ops) (op : COp) (v : Value) (hv : IsI w v op.qs) {g cap : Nat} (hg : w.grownBy w' (ob ao))
    (ho : w'.ownsRow B 57 6 (.slice (some ⟨g, 0, none⟩) (n + 1) cap) (n + 1) ((h.choose).flatMap opC ++ opC (op, v))) : OpsAt w' B (some ⟨g, 0, none⟩) (n + 1) cap (ops ++ [op]) := by
  have hs := h.choose_spec
  obtain ⟨h1, h2, h3, h4⟩ := hs
  have hno : ∀ (b : Nat) (cs : Array Value) (fr : Nat × Nat), w.heap[b]? = some (Obj.cells cs 3 fr) -> w'.heap[b]? = w.heap[b]? := fun b cs fr hb => hg.block b (Array.getElem?_eq_some_iff.1 hb).1 (own_ne h3 hb (by decide)).symm
  refine ⟨h.choose ++ [(op, v)], by rw [List.length_append, ← h1]; rfl, by rw [List.map_append, ← h2]; rfl, by rw [List.flatMap_append]; simpa using ho, fun x hx => ?_⟩
  rcases List.mem_append.1 hx with e | e
  . exact (h4 x e).block hno
  . rw [List.mem_singleton] at e
    rw [e]
    exact hv.block hno
theorem own_cells' {w : World} {B e size n : Nat} {ao : Option Addr} {m c : Nat} {xs : List Value} (h : w.ownsRow B e size (.slice ao m c) n xs) {k : Nat} (hk : ob ao = some k) : ∃ cs fr, w.heap[k]? = some (Obj.cells cs e fr) := by
  rcases h.2 with h0 | ⟨g, cap, cur, hv, hbg, hg, h1⟩
  . simp only [Value.slice.injEq] at h0
    rw [h0.1.1] at hk
    cases hk
  . simp only [Value.slice.injEq] at hv
    rw [hv.1] at hk
    cases hk
    exact ⟨cur, (0, 0), hg⟩
end Go.Proofs.YthndpbjplcphpaaDoor.Cir
