import Derived.Test.YthndpbjplcphpaaDoorQe0f3afd7
namespace Go.Proofs.YthndpbjplcphpaaDoor.Cir
open Go.RowKit Go.Shelf Go.Proofs.YthndpbjplcphpaaDoor.Oct Go.Proofs.YthndpbjplcphpaaDoor.Tok Go.Proofs.YthndpbjplcphpaaDoor.Gt
def NM (w : World) (b : Nat) (ns : List Nm) : Prop := ∃ D : DataW Value, w.ownsMap Tryd.prog 9 hv b ns.length D /\ Maps.size D = ns.length /\ ∀ x, Maps.has D (.string x) = (ixN ns x).isSome /\ ∀ z, D.atKey (.string x) z = match ixN ns x with
  | some n => .held (iv n)
  | none => z
namespace NM
variable {w w' : World} {b : Nat} {ns : List Nm}
theorem mp (h : NM w b ns) : Mp w b ns.length (fun x => (ixN ns x).map iv) := by
  obtain ⟨D, h1, _, h3⟩ := h
  refine ⟨D, h1, fun x => ⟨by rw [(h3 x).1, Option.isSome_map], fun z => ?_⟩⟩
  rw [(h3 x).2]
  show _ = match (ixN ns x).map iv with
    | some v => DataW.held v
    | none => z
  cases ixN ns x <;> rfl
theorem of_block (h : NM w b ns) (e : w'.heap[b]? = w.heap[b]?) : NM w' b ns := by
  obtain ⟨D, ⟨es, cl, hb, r⟩, k⟩ := h
  exact ⟨D, ⟨es, cl, e.trans hb, r⟩, k⟩
theorem lt (h : NM w b ns) : b < w.heap.size := h.mp.lt
theorem below (h : NM w b ns) (hb : Below w.heap.size w w') : NM w' b ns := h.of_block (hb.block b h.lt)
theorem kept {M : List Nat} (h : NM w b ns) (hk : Kb M w w') (hm : b ∉ M) : NM w' b ns := h.of_block (hk.block b h.lt hm)
theorem ne (h : NM w b ns) {k : Nat} {cs : Array Value} {t : TypeId} {fr : Nat × Nat} (hk : w.heap[k]? = some (.cells cs t fr)) : b ≠ k := h.mp.ne hk
end NM
end Go.Proofs.YthndpbjplcphpaaDoor.Cir
