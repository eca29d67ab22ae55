/- The define that is being made. -/
import Derived.Test.YtkbodljmkhnebaaGreatDoorOe
namespace Go.Proofs.YtkbodljmkhnebaaGreatDoor.Cir
open Go.RowKit Go.Shelf Go.Proofs.YtkbodljmkhnebaaGreatDoor.Oct Go.Proofs.YtkbodljmkhnebaaGreatDoor.Tok Go.Proofs.YtkbodljmkhnebaaGreatDoor.Gt

/-- A step of the define that is being made. -/
def StOk (dd : Nat) (w : World) (B n : Nat) (s : Sx) : Prop := ∃ ns, Is w s.nm ns ∧ (∀ i ∈ ns, i < n) ∧ ns.length ≤ 4398046511104 ∧ (((∃ ao c, s.inner = .slice ao 0 c) ∧ s.ops = [⟨s.kind, s.gate, ns⟩]) ∨ ∃ k' l', 0 < k' ∧ SpAt dd w B B ns.length s.inner k' l' ∧ s.ops = l'.map (onP ns))
theorem StOk.block {dd : Nat} {w w' : World} {B n : Nat} {s : Sx} (h : StOk dd w B n s) (h1 : ∀ (g : Nat) (cs : Array Value) (fr : Nat × Nat), w.heap[g]? = some (Obj.cells cs 3 fr) → w'.heap[g]? = w.heap[g]?) (h2 : ∀ (g : Nat), g < B → ∀ (cs : Array Value) (fr : Nat × Nat), w.heap[g]? = some (Obj.cells cs 276 fr) → w'.heap[g]? = w.heap[g]?) : StOk dd w' B n s := by
  obtain ⟨ns, a1, a2, a3, a4⟩ := h
  refine ⟨ns, a1.block h1, a2, a3, ?_⟩
  rcases a4 with a4 | ⟨k', l', b1, b2, b3⟩
  · exact .inl a4
  · exact .inr ⟨k', l', b1, SpAt.block (fun g _ cs fr hg => h1 g cs fr hg) h2 _ _ _ _ _ b2, b3⟩
theorem StOk.up {dd e : Nat} {w : World} {B n : Nat} {s : Sx} (h : StOk dd w B n s) (he : dd ≤ e) : StOk e w B n s := by
  obtain ⟨ns, a1, a2, a3, a4⟩ := h
  refine ⟨ns, a1, a2, a3, ?_⟩
  rcases a4 with a4 | ⟨k', l', b1, b2, b3⟩
  · exact .inl a4
  · exact .inr ⟨k', l', b1, b2.max he, b3⟩
/-- The define that is being made: at D, its steps in a row of its own from B1 on; inner steps lie below B. -/
def DfAt (w : World) (D B B1 n : Nat) (ao : Option Addr) (body : List PO) : Prop := ∃ (dd k c : Nat) (ss : List Sx), w.heap[D]? = some (.cells #[iv n, iv body.length, .slice ao k c] 221 (0, 0)) ∧ k = ss.length ∧ body = ss.flatMap Sx.ops ∧ w.ownsRow B1 276 4 (.slice ao k c) k (ss.flatMap Sx.cells) ∧ ∀ s ∈ ss, StOk dd w B n s
theorem DfAt.kept {w w' : World} {D B B1 n : Nat} {ao : Option Addr} {body : List PO} {M : List Nat} (h : DfAt w D B B1 n ao body) (hk : Kb M w w') (hM : ∀ m, m ∈ M → ∀ cs t fr, w.heap[m]? = some (.cells cs t fr) → t ≠ 3 ∧ t ≠ 276 ∧ t ≠ 221) : DfAt w' D B B1 n ao body := by
  obtain ⟨dd, k, c, ss, h1, h2, h3, h4, h5⟩ := h
  have key : ∀ (g : Nat) (cs : Array Value) (t : TypeId) (fr : Nat × Nat), w.heap[g]? = some (Obj.cells cs t fr) → (t = 3 ∨ t = 276 ∨ t = 221) → w'.heap[g]? = w.heap[g]? := fun g cs t fr hg ht => hk.block g (Array.getElem?_eq_some_iff.1 hg).1 (fun e => by
    obtain ⟨a, b, c⟩ := hM g e _ _ _ hg
    rcases ht with h | h | h
    · exact a h
    · exact b h
    · exact c h)
  refine ⟨dd, k, c, ss, (key _ _ _ _ h1 (.inr (.inr rfl))).trans h1, h2, h3, own_of_block h4 (fun b hb => ?_), fun s hs => (h5 s hs).block (fun g cs fr hg => key _ _ _ _ hg (.inl rfl)) (fun g _ cs fr hg => key _ _ _ _ hg (.inr (.inl rfl)))⟩
  obtain ⟨cs, fr, hg⟩ := own_cells' h4 hb
  exact key _ _ _ _ hg (.inr (.inl rfl))
theorem DfAt.below {w w' : World} {D B B1 n : Nat} {ao : Option Addr} {body : List PO} (h : DfAt w D B B1 n ao body) (hb : Below w.heap.size w w') : DfAt w' D B B1 n ao body :=
  h.kept (M := []) (Kb.of_below hb) (fun m hm => by cases hm)
theorem DfAt.turn {w w' : World} {D B B1 n : Nat} {ao : Option Addr} {body : List PO} {R : Nat} {x : X} {o : Value} {ts : List T} (h : DfAt w D B B1 n ao body) (hR : Rt w R x o ts) (hk : Kb [R] w w') : DfAt w' D B B1 n ao body := by
  obtain ⟨⟨v, hb, _⟩, _⟩ := hR
  unfold rbO at hb
  refine h.kept hk fun m hm cs t fr hg => ?_
  rw [List.mem_singleton] at hm
  subst hm
  rw [hb] at hg
  simp only [Option.some.injEq, Obj.cells.injEq] at hg
  rw [← hg.2.1]
  exact ⟨by decide, by decide, by decide⟩
theorem DfAt.cells {w : World} {D B B1 n : Nat} {ao : Option Addr} {body : List PO} (h : DfAt w D B B1 n ao body) : w.cell? ⟨D, 0, none⟩ = some (iv n) ∧ w.cell? ⟨D, 1, none⟩ = some (iv body.length) ∧ D < w.heap.size := by
  obtain ⟨dd, k, c, ss, h1, _⟩ := h
  exact ⟨cell_of_row _ _ 0 _ _ _ h1, cell_of_row _ _ 1 _ _ _ h1, (Array.getElem?_eq_some_iff.1 h1).1⟩
/-- What it stands for, once it is made. -/
theorem DfAt.defv {w : World} {D B B1 n : Nat} {ao : Option Addr} {body : List PO} (h : DfAt w D B B1 n ao body) (hB : B ≤ w.heap.size) (hn : n ≤ 4398046511104) (hl : body.length ≤ 4096) : ∃ k c, w.heap[D]? = some (.cells #[iv n, iv body.length, .slice ao k c] 221 (0, 0)) ∧ DefV w w.heap.size ⟨n, body⟩ (.agg #[iv n, iv body.length, .slice ao k c]) := by
  obtain ⟨dd, k, c, ss, h1, h2, h3, h4, h5⟩ := h
  refine ⟨k, c, h1, dd + 1, ao, k, c, rfl, ⟨ao, c, ss, by rw [h2], h2, h3, fun s hs => ?_, ?_⟩, hn, hl⟩
  · obtain ⟨ns, a1, a2, a3, a4⟩ := h5 s hs
    refine ⟨ns, a1.b, a2, a3, ?_⟩
    rcases a4 with a4 | ⟨k', l', b1, b2, b3⟩
    · exact .inl a4
    · exact .inr ⟨k', l', b1, SpAt.mono hB hB _ _ _ _ _ b2, b3⟩
  · rcases h4.2 with ⟨hv, h0⟩ | ⟨g, cap, cur, hv, hbg, hg, e1, e2, e3, e4⟩
    · exact .inl (List.length_eq_zero_iff.1 (by rw [← h2]; exact h0))
    · simp only [Value.slice.injEq] at hv
      refine .inr ⟨g, 0, cur, _, hv.1, (Array.getElem?_eq_some_iff.1 hg).1, hg, fun j u hu => ?_⟩
      have hlt := (List.getElem?_eq_some_iff.1 hu).1
      rw [← e4, List.getElem?_take] at hu
      split at hu
      · rw [Nat.zero_add]
        simpa using hu
      · cases hu
theorem onP_onP (qs ns : List Nat) (l : List PO) (h : ∀ o ∈ l, ∀ i ∈ o.ns, i < ns.length) : (l.map (onP ns)).map (onP qs) = l.map (onP (pk qs ns)) := by
  rw [List.map_map]
  refine List.map_congr_left fun o ho => ?_
  show onP qs (onP ns o) = onP (pk qs ns) o
  unfold onP
  simp only
  rw [pk_pk qs ns o.ns (h o ho)]
end Go.Proofs.YtkbodljmkhnebaaGreatDoor.Cir
