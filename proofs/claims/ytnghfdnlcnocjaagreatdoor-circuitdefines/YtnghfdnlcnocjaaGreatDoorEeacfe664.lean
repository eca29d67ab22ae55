import Derived.Test.YtnghfdnlcnocjaaGreatDoorE86df15d9
import Derived.Test.YtnghfdnlcnocjaaGreatDoorProg
namespace Go.Proofs.YtnghfdnlcnocjaaGreatDoor.Cir
open Go.RowKit Go.Proofs.YtnghfdnlcnocjaaGreatDoor.Oct
structure Kb (M : List Nat) (w w' : World) : Prop where
  os : w'.os = w.os
  tape : w'.tape = w.tape
  output : w'.output = w.output
  size : w.heap.size <= w'.heap.size
  block : ∀ k, k < w.heap.size -> k ∉ M -> w'.heap[k]? = w.heap[k]?
namespace Kb
variable {M : List Nat} {a w w' : World}
theorem refl (M : List Nat) (w : World) : Kb M w w := ⟨rfl, rfl, rfl, Nat.le_refl _, fun _ _ _ => rfl⟩
theorem trans (h : Kb M a w) (k : Kb M w w') : Kb M a w' :=
  ⟨k.os.trans h.os, k.tape.trans h.tape, k.output.trans h.output, Nat.le_trans h.size k.size, fun i hi hm => (k.block i (Nat.lt_of_lt_of_le hi h.size) hm).trans (h.block i hi hm)⟩
theorem mono {M' : List Nat} (h : Kb M w w') (hm : ∀ m, m ∈ M -> m ∈ M') : Kb M' w w' := ⟨h.os, h.tape, h.output, h.size, fun k hk hn => h.block k hk (fun e => hn (hm k e))⟩
theorem of_below (h : Below w.heap.size w w') : Kb M w w' := ⟨h.os, h.tape, h.output, h.size, fun k hk _ => h.block k hk⟩
theorem below {B : Nat} (h : Kb M w w') (hB : B <= w.heap.size) (hM : ∀ m, m ∈ M -> B <= m) : Below B w w' :=
  ⟨h.os, h.tape, h.output, h.size, fun k hk => h.block k (by omega) (fun e => by have := hM k e; omega)⟩
theorem alloc (h : Kb M a w) (o : Obj) : Kb M a (w.alloc o) := h.trans (of_below ((Below.refl _ _).alloc (Nat.le_refl _) _))
theorem setCell (h : Kb M a w) {p : Addr} (hp : p.block ∈ M ∨ a.heap.size <= p.block) (u : Value) : Kb M a (w.setCell p u) :=
  ⟨h.os, h.tape, h.output, by simp [World.setCell]; exact h.size, fun k hk hn => (Below.heap_setCell _ _ _ _ (fun e => by
    rcases hp with hp | hp
    . exact hn (e ▸ hp)
    . omega)).trans (h.block k hk hn)⟩
theorem drewN (h : Kb M a w) (n : Nat) : Kb M a (w.drewN n) := ⟨h.os, h.tape, h.output, h.size, h.block⟩
theorem grown {row : Option Nat} (h : Kb M a w) (hg : w.grownBy w' row) (hr : ∀ k, row = some k -> k ∈ M ∨ a.heap.size <= k) : Kb M a w' :=
  ⟨hg.os.trans h.os, hg.tape.trans h.tape, hg.output.trans h.output, Nat.le_trans h.size hg.size, fun k hk hn => (hg.block k (Nat.lt_of_lt_of_le hk h.size) (fun e => by
    rcases hr k e.symm with hp | hp
    . exact hn hp
    . omega)).trans (h.block k hk hn)⟩
theorem then_below (h : Kb M a w) (hb : Below w.heap.size w w') : Kb M a w' := h.trans (of_below hb)
theorem cell (h : Kb M w w') {p : Addr} (hp : p.block < w.heap.size) (hn : p.block ∉ M) : w'.cell? p = w.cell? p := World.cell?_of_block (w := w) (h.block p.block hp hn)
end Kb
def hv (v : Value) : Option (DataW Value × List MemPlace) := some (.held v, [])
theorem strK : Maps.Keyed Tryz.prog 9 := Maps.string_keyed Tryz.underlying9
theorem ba_size (x : List UInt8) : (⟨x.toArray⟩ : ByteArray).size = x.length := by simp [ByteArray.size]
theorem keyS (x : List UInt8) (h : x.length <= 140737488355328) : keyOf Tryz.prog 9 (.string ⟨x.toArray⟩) = some (.string x) :=
  Go.WideMaps.keyOf_string_mk Tryz.underlying9 (s := ⟨x.toArray⟩) (by rw [ba_size]; unfold maxLen; omega)
def Mp (w : World) (b n : Nat) (f : List UInt8 -> Option Value) : Prop := ∃ D : DataW Value, w.ownsMap Tryz.prog 9 hv b n D /\ ∀ x, Maps.has D (.string x) = (f x).isSome /\ ∀ z, D.atKey (.string x) z = match f x with
  | some v => .held v
  | none => z
theorem isKey (x : List UInt8) : WideAt.IsKeyLit (.string x) := trivial
namespace Mp
variable {w : World} {b n : Nat} {f : List UInt8 -> Option Value}
theorem new (w : World) : Mp (w.alloc (.map #[] 0)) w.heap.size 0 (fun _ => none) :=
  ⟨.map [], World.ownsMap_made w _ _ _, fun _ => ⟨rfl, fun _ => rfl⟩⟩
theorem lt (h : Mp w b n f) : b < w.heap.size := by
  obtain ⟨D, h, _⟩ := h
  exact h.lt
theorem mono (h : Mp w b n f) {n' : Nat} (hn : n <= n') : Mp w b n' f := by
  obtain ⟨D, h, k⟩ := h
  exact ⟨D, h.mono hn, k⟩
theorem block (h : Mp w b n f) : ∃ es cl, w.heap[b]? = some (.map es cl) := by
  obtain ⟨D, ⟨es, cl, hb, _⟩, _⟩ := h
  exact ⟨es, cl, hb⟩
theorem of_block {w' : World} (h : Mp w b n f) (e : w'.heap[b]? = w.heap[b]?) : Mp w' b n f := by
  obtain ⟨D, ⟨es, cl, hb, r⟩, k⟩ := h
  exact ⟨D, ⟨es, cl, e.trans hb, r⟩, k⟩
theorem kept {M : List Nat} {w' : World} (h : Mp w b n f) (hk : Kb M w w') (hm : b ∉ M) : Mp w' b n f := h.of_block (hk.block b h.lt hm)
theorem below {w' : World} (h : Mp w b n f) (hk : Below w.heap.size w w') : Mp w' b n f := h.of_block (hk.block b h.lt)
theorem ne (h : Mp w b n f) {k : Nat} {cs : Array Value} {t : TypeId} {fr : Nat × Nat} (hk : w.heap[k]? = some (.cells cs t fr)) : b ≠ k := by
  intro e
  obtain ⟨es, cl, hb⟩ := h.block
  rw [e, hk] at hb
  cases hb
theorem look (h : Mp w b n f) {t e : TypeId} (ht : Tryz.prog.underlying t = some (.map 9 e)) {z : Value} (hz : (zeroValue e).run Tryz.prog w = .ok z w) (x : List UInt8) (hx : x.length <= 140737488355328) :
    (Instr.lookup t (.map (some b)) (.string ⟨x.toArray⟩) true).run Tryz.prog w = .ok (.tuple #[(f x).getD z, .bool (f x).isSome]) w := by
  obtain ⟨D, h, k⟩ := h
  obtain ⟨v, ps, hr, hv'⟩ := h.look_ok strK ht hz (show hv z = _ from rfl) (keyS x hx)
  rw [hr, (k x).1]
  rw [(k x).2] at hv'
  unfold hv at hv'
  cases hf : f x with
  | none =>
    rw [hf] at hv'
    simp at hv'
    rw [hv'.1]
    rfl
  | some u =>
    rw [hf] at hv'
    simp at hv'
    rw [hv'.1]
    rfl
theorem look1 (h : Mp w b n f) {t e : TypeId} (ht : Tryz.prog.underlying t = some (.map 9 e)) {z : Value} (hz : (zeroValue e).run Tryz.prog w = .ok z w) (x : List UInt8) (hx : x.length <= 140737488355328) :
    (Instr.lookup t (.map (some b)) (.string ⟨x.toArray⟩) false).run Tryz.prog w = .ok ((f x).getD z) w := by
  obtain ⟨D, h, k⟩ := h
  obtain ⟨v, ps, hr, hv'⟩ := h.lookup strK ht hz (show hv z = _ from rfl) (keyS x hx)
  rw [hr]
  rw [(k x).2] at hv'
  unfold hv at hv'
  cases hf : f x with
  | none =>
    rw [hf] at hv'
    simp at hv'
    rw [hv'.1]
    rfl
  | some u =>
    rw [hf] at hv'
    simp at hv'
    rw [hv'.1]
    rfl
theorem store (h : Mp w b n f) {t e : TypeId} (ht : Tryz.prog.underlying t = some (.map 9 e)) (hn : n < 140737488355328) (x : List UInt8) (hx : x.length <= 140737488355328) (v : Value) :
    ∃ w', (Instr.mapUpdate t (.map (some b)) (.string ⟨x.toArray⟩) v).run Tryz.prog w = .ok () w' /\ Mp w' b (n + 1) (fun y => if y = x then some v else f y) /\ w.grownBy w' (some b) := by
  obtain ⟨D, h, k⟩ := h
  obtain ⟨w', hr, ho, hg⟩ := h.update strK ht (by unfold maxLen; omega) (keyS x hx) (show hv v = _ from rfl)
  refine ⟨w', hr, ⟨_, ho, fun y => ?_⟩, hg⟩
  have hm : Maps.IsMap D := h.isMap
  by_cases e : y = x
  . subst e
    simp only [if_true]
    exact ⟨Maps.has_put_same hm (isKey _) _, fun z => Maps.atKey_put_same hm (isKey _) _ z⟩
  . simp only [if_neg e]
    have ne : (Lit.string y) ≠ Lit.string x := fun h => e (by cases h; rfl)
    exact ⟨(Maps.has_put_other ne _).trans (k y).1, fun z => (Maps.atKey_put_other ne _ z).trans ((k y).2 z)⟩
end Mp
end Go.Proofs.YtnghfdnlcnocjaaGreatDoor.Cir
