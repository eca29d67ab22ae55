import Derived.Test.YthndpbjplcphpaaDoorProg
import Derived.WalkSpells
import Derived.WalkLawsBesides
import Derived.Deep.AppendLies
import Derived.Deep.AppendSrc
namespace Go.Proofs.YthndpbjplcphpaaDoor.Oct
open Go.RowKit
theorem hide {p : Prop} (h : p) : Hid p := h
def bv (l : List UInt8) : List Value := l.map fun b => Value.int .u8 (b.toNat : Int)
theorem bv_length (l : List UInt8) : (bv l).length = l.length := by simp [bv]
def le : Nat -> Nat -> List UInt8
  | 0, _ => []
  | n + 1, x => UInt8.ofNat x :: le n (x / 256)
def ob (ao : Option Addr) : Option Nat := ao.map (·.block)
theorem ob_eq (ao : Option Addr) (n c : Nat) : (Value.slice ao n c).ownBlock = ob ao := by cases ao <;> rfl
structure Wr (e : TypeId) (w : World) (B : Nat) (p : Addr) (ao : Option Addr) (c : Nat) (l : List UInt8) : Prop where
  cell : w.cell? p = some (.slice ao l.length c)
  froz : w.frozen? p = false
  own : w.ownsRow B e 1 (.slice ao l.length c) l.length (bv l)
  apart : ob ao ≠ some p.block
  base : B <= w.heap.size
structure Fr (w w' : World) (p : Addr) (ao ao' : Option Addr) : Prop where
  os : w'.os = w.os
  tape : w'.tape = w.tape
  output : w'.output = w.output
  size : w.heap.size <= w'.heap.size
  block : ∀ k, k < w.heap.size -> k ≠ p.block -> some k ≠ ob ao -> w'.heap[k]? = w.heap[k]?
  lies : ob ao' = ob ao ∨ ∃ k, ob ao' = some k /\ w.heap.size <= k
theorem Fr.refl (w : World) (p : Addr) (ao : Option Addr) : Fr w w p ao ao := ⟨rfl, rfl, rfl, Nat.le_refl _, fun _ _ _ _ => rfl, .inl rfl⟩
theorem Fr.trans {a b c : World} {p : Addr} {u v x : Option Addr} (h : Fr a b p u v) (k : Fr b c p v x) : Fr a c p u x := by
  refine ⟨k.os.trans h.os, k.tape.trans h.tape, k.output.trans h.output, Nat.le_trans h.size k.size, fun i hi hp hs => ?_, ?_⟩
  . refine (k.block i (Nat.lt_of_lt_of_le hi h.size) hp ?_).trans (h.block i hi hp hs)
    rcases h.lies with e | ⟨g, e, hg⟩
    . rw [e]; exact hs
    . rw [e]; intro he; cases he; omega
  . rcases k.lies with e | ⟨g, e, hg⟩
    . rw [e]; exact h.lies
    . exact .inr ⟨g, e, Nat.le_trans h.size hg⟩
theorem Fr.below {w w' : World} {p : Addr} {ao ao' : Option Addr} {B : Nat} (h : Fr w w' p ao ao') (hB : B <= w.heap.size) (hp : B <= p.block) (hs : ∀ k, ob ao = some k -> B <= k) : Below B w w' :=
  ⟨h.os, h.tape, h.output, h.size, fun k hk => h.block k (by omega) (by omega) (fun e => by have := hs k e.symm; omega)⟩
theorem cell_far (w : World) (p a : Addr) (v : Value) (h : a.block ≠ p.block) : (w.setCell p v).cell? a = w.cell? a := World.cell?_of_block (Below.heap_setCell _ _ _ _ h)
theorem grown_alloc (w : World) (o : Obj) (r : Option Nat) : w.grownBy (w.alloc o) r := ⟨rfl, rfl, rfl, by simp, fun _ hk _ => Below.heap_alloc _ _ _ hk⟩
section
variable {P : Program}
end
def num : List UInt8 -> Nat
  | [] => 0
  | b :: r => b.toNat + 256 * num r
section
variable {P : Program}
end
theorem ownsRow_of_block {w w' : World} {B : Nat} {e : TypeId} {ao : Option Addr} {n c : Nat} {xs : List Value} (h : w.ownsRow B e 1 (.slice ao n c) n xs) (hb : ∀ k, ob ao = some k -> w'.heap[k]? = w.heap[k]?) : w'.ownsRow B e 1 (.slice ao n c) n xs := by
  refine ⟨h.1, ?_⟩
  rcases h.2 with h0 | ⟨g, cap, cur, hv, hbg, hg, h1⟩
  . exact .inl h0
  . refine .inr ⟨g, cap, cur, hv, hbg, ?_, h1⟩
    simp only [Value.slice.injEq] at hv
    rw [hb g (by rw [hv.1]; rfl)]
    exact hg
theorem Wr.below {e : TypeId} {w w' : World} {B : Nat} {p : Addr} {ao : Option Addr} {c : Nat} {l : List UInt8} (h : Wr e w B p ao c l) (hb : Below w.heap.size w w') : Wr e w' B p ao c l /\ Fr w w' p ao ao := by
  have hp := World.block_lt_of_cell? w p h.cell
  refine ⟨⟨(hb.cell hp).trans h.cell, (hb.frozen hp).trans h.froz, ownsRow_of_block h.own (fun k hk => hb.block k ?_), h.apart, Nat.le_trans h.base hb.size⟩, ⟨hb.os, hb.tape, hb.output, hb.size, fun k hk _ _ => hb.block k hk, .inl rfl⟩⟩
  have := h.own.lt k (by rw [ob_eq]; exact hk)
  exact this.2
def Bs (w : World) (ao : Option Addr) (l : List UInt8) : Prop := ∀ j b, l[j]? = some b -> ∃ g off, ao = some ⟨g, off, none⟩ /\ w.cell? ⟨g, off + j, none⟩ = some (.int .u8 (b.toNat : Int))
theorem Bs.below {w w' : World} {ao : Option Addr} {l : List UInt8} (h : Bs w ao l) (hb : Below w.heap.size w w') : Bs w' ao l := by
  intro j b hj
  obtain ⟨g, off, e, hc⟩ := h j b hj
  exact ⟨g, off, e, (hb.cell (World.block_lt_of_cell? w _ hc)).trans hc⟩
theorem Bs.of_own {w : World} {B : Nat} {e : TypeId} {ao : Option Addr} {n c : Nat} {l : List UInt8} (h : w.ownsRow B e 1 (.slice ao n c) n (bv l)) : Bs w ao l := by
  intro j b hj
  rcases h.2 with ⟨_, h0⟩ | ⟨g, cap, cur, hv, _⟩
  . have := h.1
    rw [bv_length, h0] at this
    have hl := (List.getElem?_eq_some_iff.1 hj).1
    omega
  . simp only [Value.slice.injEq] at hv
    refine ⟨g, 0, hv.1, ?_⟩
    have hc := h.cells (g := g) (by rw [ob_eq, hv.1]; rfl) j (.int .u8 (b.toNat : Int)) (by simp [bv, hj])
    rw [Addr.add_lit] at hc
    exact hc
end Go.Proofs.YthndpbjplcphpaaDoor.Oct
