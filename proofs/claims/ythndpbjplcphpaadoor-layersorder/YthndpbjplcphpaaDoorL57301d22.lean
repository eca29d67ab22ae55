import Derived.Test.YthndpbjplcphpaaDoorL22316e4d
import Derived.Test.YthndpbjplcphpaaDoorL3af34478
namespace Go.Proofs.YthndpbjplcphpaaDoor.Cir
open Go.RowKit Go.Shelf Go.Proofs.YthndpbjplcphpaaDoor.Oct Go.Proofs.YthndpbjplcphpaaDoor.Tok Go.Proofs.YthndpbjplcphpaaDoor.Gt
def rgV (r : Rg) : Value := .agg #[.int .i64 (r.fr : Int), .int .i64 (r.sz : Int)]
def RM (w : World) (b : Nat) (f : Nm -> Option Rg) : Prop := ∃ n : Nat, True /\ Mp w b n (fun x => (f x).map rgV)
theorem RM.kept {w w' : World} {b : Nat} {f : Nm -> Option Rg} {M : List Nat} (h : RM w b f) (hk : Kb M w w') (hm : b ∉ M) : RM w' b f := by
  obtain ⟨n, hn, h⟩ := h
  exact ⟨n, hn, h.kept hk hm⟩
theorem RM.below {w w' : World} {b : Nat} {f : Nm -> Option Rg} (h : RM w b f) (hb : Below w.heap.size w w') : RM w' b f := by
  obtain ⟨n, hn, h⟩ := h
  exact ⟨n, hn, h.below hb⟩
section
variable {P : Program}
end
theorem infoI : (Tryd.prog.info? 3).map (fun i => (i.zero, i.size, i.bytes)) = some (some (.int .i64 0), 1, 8) := by kernel_rfl
def iv (z : Nat) : Value := .int .i64 (z : Int)
def Is (w : World) (v : Value) (l : List Nat) : Prop := (l = [] /\ ∃ ao c, v = .slice ao 0 c) ∨ ∃ g off c cs fr, v = .slice (some ⟨g, off, none⟩) l.length c /\ w.heap[g]? = some (.cells cs 3 fr) /\ ∀ j z, l[j]? = some z -> cs[off + j]? = some (iv z)
theorem Is.block {w w' : World} {v : Value} {l : List Nat} (h : Is w v l) (hk : ∀ (g : Nat) (cs : Array Value) (fr : Nat × Nat), w.heap[g]? = some (Obj.cells cs 3 fr) -> w'.heap[g]? = w.heap[g]?) : Is w' v l := by
  rcases h with h | ⟨g, off, c, cs, fr, h1, h2, h3⟩
  . exact .inl h
  . exact .inr ⟨g, off, c, cs, fr, h1, (hk g cs fr h2).trans h2, h3⟩
theorem Is.below {w w' : World} {v : Value} {l : List Nat} (h : Is w v l) (hb : Below w.heap.size w w') : Is w' v l :=
  h.block fun g _ _ hg => hb.block g (Array.getElem?_eq_some_iff.1 hg).1
theorem Is.of_own {w : World} {B : Nat} {ao : Option Addr} {c : Nat} {l : List Nat} (h : w.ownsRow B 3 1 (.slice ao l.length c) l.length (l.map iv)) : Is w (.slice ao l.length c) l := by
  rcases h.2 with ⟨hv, h0⟩ | ⟨g, cap, cur, hv, hbg, hg, h1, h2, h3, h4⟩
  . exact .inl ⟨List.length_eq_zero_iff.1 h0, ao, c, by rw [h0]⟩
  . refine .inr ⟨g, 0, cap, cur, _, hv, hg, fun j z hj => ?_⟩
    have hlt := (List.getElem?_eq_some_iff.1 hj).1
    have : (l.map iv)[j]? = some (iv z) := by rw [List.getElem?_map, hj]; rfl
    rw [← h4, List.getElem?_take, if_pos (by omega)] at this
    rw [Nat.zero_add]
    simpa using this
def Isb (C : Nat) (w : World) (v : Value) (l : List Nat) : Prop := (l = [] /\ ∃ ao c, v = .slice ao 0 c) ∨ ∃ g off c cs fr, g < C /\ v = .slice (some ⟨g, off, none⟩) l.length c /\ w.heap[g]? = some (.cells cs 3 fr) /\ ∀ j z, l[j]? = some z -> cs[off + j]? = some (iv z)
theorem Is.b {w : World} {v : Value} {l : List Nat} (h : Is w v l) : Isb w.heap.size w v l := by
  rcases h with h | ⟨g, off, c, cs, fr, h1, h2, h3⟩
  . exact .inl h
  . exact .inr ⟨g, off, c, cs, fr, (Array.getElem?_eq_some_iff.1 h2).1, h1, h2, h3⟩
theorem Isb.mono {C C' : Nat} {w : World} {v : Value} {l : List Nat} (h : Isb C w v l) (hC : C <= C') : Isb C' w v l := by
  rcases h with h | ⟨g, off, c, cs, fr, h0, h⟩
  . exact .inl h
  . exact .inr ⟨g, off, c, cs, fr, by omega, h⟩
theorem Isb.block {C : Nat} {w w' : World} {v : Value} {l : List Nat} (h : Isb C w v l) (hk : ∀ (g : Nat), g < C -> ∀ (cs : Array Value) (fr : Nat × Nat), w.heap[g]? = some (Obj.cells cs 3 fr) -> w'.heap[g]? = w.heap[g]?) : Isb C w' v l := by
  rcases h with h | ⟨g, off, c, cs, fr, h0, h1, h2, h3⟩
  . exact .inl h
  . exact .inr ⟨g, off, c, cs, fr, h0, h1, (hk g h0 cs fr h2).trans h2, h3⟩
structure Sx where
  kind : Nat
  gate : Nat
  inner : Value
  nm : Value
  ops : List PO
def Sx.cells (s : Sx) : List Value := [iv s.kind, iv s.gate, s.inner, s.nm]
theorem Is.cell {w : World} {ao : Option Addr} {c n : Nat} {l : List Nat} (h : Is w (.slice ao n c) l) {j z : Nat} (hj : l[j]? = some z) : ∃ g off, ao = some ⟨g, off, none⟩ /\ w.cell? ⟨g, off + j, none⟩ = some (.int .i64 (z : Int)) := by
  rcases h with ⟨rfl, _⟩ | ⟨g, off, c', cs, fr, h1, h2, h3⟩
  . simp at hj
  . simp only [Value.slice.injEq] at h1
    exact ⟨g, off, h1.1, (cell_of_row _ _ _ _ _ _ h2).trans (h3 j z hj)⟩
end Go.Proofs.YthndpbjplcphpaaDoor.Cir
