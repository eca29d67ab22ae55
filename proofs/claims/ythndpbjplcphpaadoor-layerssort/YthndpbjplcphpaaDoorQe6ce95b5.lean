import Derived.Test.YthndpbjplcphpaaDoorQ6b502a3b
namespace Go.Proofs.YthndpbjplcphpaaDoor.Cir
open Go.RowKit Go.Proofs.YthndpbjplcphpaaDoor.Oct
structure Kb (M : List Nat) (w w' : World) : Prop where
  os : w'.os = w.os
  tape : w'.tape = w.tape
  output : w'.output = w.output
  size : w.heap.size <= w'.heap.size
  block : ∀ k, k < w.heap.size -> k ∉ M -> w'.heap[k]? = w.heap[k]?
namespace Kb
variable {M : List Nat} {a w w' : World}
theorem refl (M : List Nat) (w : World) : Kb M w w := ⟨rfl, rfl, rfl, Nat.le_refl _, fun _ _ _ => rfl⟩
theorem trans (h : Kb M a w) (k : Kb M w w') : Kb M a w' :=
  ⟨k.os.trans h.os, k.tape.trans h.tape, k.output.trans h.output, Nat.le_trans h.size k.size, fun i hi hm => (k.block i (Nat.lt_of_lt_of_le hi h.size) hm).trans (h.block i hi hm)⟩
theorem mono {M' : List Nat} (h : Kb M w w') (hm : ∀ m, m ∈ M -> m ∈ M') : Kb M' w w' := ⟨h.os, h.tape, h.output, h.size, fun k hk hn => h.block k hk (fun e => hn (hm k e))⟩
theorem of_below (h : Below w.heap.size w w') : Kb M w w' := ⟨h.os, h.tape, h.output, h.size, fun k hk _ => h.block k hk⟩
theorem below {B : Nat} (h : Kb M w w') (hB : B <= w.heap.size) (hM : ∀ m, m ∈ M -> B <= m) : Below B w w' :=
  ⟨h.os, h.tape, h.output, h.size, fun k hk => h.block k (by omega) (fun e => by have := hM k e; omega)⟩
theorem alloc (h : Kb M a w) (o : Obj) : Kb M a (w.alloc o) := h.trans (of_below ((Below.refl _ _).alloc (Nat.le_refl _) _))
theorem setCell (h : Kb M a w) {p : Addr} (hp : p.block ∈ M ∨ a.heap.size <= p.block) (u : Value) : Kb M a (w.setCell p u) :=
  ⟨h.os, h.tape, h.output, by simp [World.setCell]; exact h.size, fun k hk hn => (Below.heap_setCell _ _ _ _ (fun e => by
    rcases hp with hp | hp
    . exact hn (e ▸ hp)
    . omega)).trans (h.block k hk hn)⟩
theorem drewN (h : Kb M a w) (n : Nat) : Kb M a (w.drewN n) := ⟨h.os, h.tape, h.output, h.size, h.block⟩
theorem grown {row : Option Nat} (h : Kb M a w) (hg : w.grownBy w' row) (hr : ∀ k, row = some k -> k ∈ M ∨ a.heap.size <= k) : Kb M a w' :=
  ⟨hg.os.trans h.os, hg.tape.trans h.tape, hg.output.trans h.output, Nat.le_trans h.size hg.size, fun k hk hn => (hg.block k (Nat.lt_of_lt_of_le hk h.size) (fun e => by
    rcases hr k e.symm with hp | hp
    . exact hn hp
    . omega)).trans (h.block k hk hn)⟩
theorem cell (h : Kb M w w') {p : Addr} (hp : p.block < w.heap.size) (hn : p.block ∉ M) : w'.cell? p = w.cell? p := World.cell?_of_block (w := w) (h.block p.block hp hn)
end Kb
def hv (v : Value) : Option (DataW Value × List MemPlace) := some (.held v, [])
def Mp (w : World) (b n : Nat) (f : List UInt8 -> Option Value) : Prop := ∃ D : DataW Value, w.ownsMap Tryd.prog 9 hv b n D /\ ∀ x, Maps.has D (.string x) = (f x).isSome /\ ∀ z, D.atKey (.string x) z = match f x with
  | some v => .held v
  | none => z
namespace Mp
variable {w : World} {b n : Nat} {f : List UInt8 -> Option Value}
theorem lt (h : Mp w b n f) : b < w.heap.size := by
  obtain ⟨D, h, _⟩ := h
  exact h.lt
theorem mono (h : Mp w b n f) {n' : Nat} (hn : n <= n') : Mp w b n' f := by
  obtain ⟨D, h, k⟩ := h
  exact ⟨D, h.mono hn, k⟩
theorem block (h : Mp w b n f) : ∃ es cl, w.heap[b]? = some (.map es cl) := by
  obtain ⟨D, ⟨es, cl, hb, _⟩, _⟩ := h
  exact ⟨es, cl, hb⟩
theorem of_block {w' : World} (h : Mp w b n f) (e : w'.heap[b]? = w.heap[b]?) : Mp w' b n f := by
  obtain ⟨D, ⟨es, cl, hb, r⟩, k⟩ := h
  exact ⟨D, ⟨es, cl, e.trans hb, r⟩, k⟩
theorem kept {M : List Nat} {w' : World} (h : Mp w b n f) (hk : Kb M w w') (hm : b ∉ M) : Mp w' b n f := h.of_block (hk.block b h.lt hm)
theorem below {w' : World} (h : Mp w b n f) (hk : Below w.heap.size w w') : Mp w' b n f := h.of_block (hk.block b h.lt)
theorem ne (h : Mp w b n f) {k : Nat} {cs : Array Value} {t : TypeId} {fr : Nat × Nat} (hk : w.heap[k]? = some (.cells cs t fr)) : b ≠ k := by
  intro e
  obtain ⟨es, cl, hb⟩ := h.block
  rw [e, hk] at hb
  cases hb
end Mp
end Go.Proofs.YthndpbjplcphpaaDoor.Cir
