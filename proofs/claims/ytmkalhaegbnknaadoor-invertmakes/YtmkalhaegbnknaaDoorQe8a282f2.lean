import Derived.Test.YtmkalhaegbnknaaDoorProg
import Derived.Lib.DecodeN
import Derived.Lib.AtoiAll
import Derived.Lib.ItoaNum
import Derived.WalkSpells
import Derived.WalkLawsBesides
import Derived.Deep.AppendLies
import Derived.Deep.AppendSrc
namespace Go.Proofs.YtmkalhaegbnknaaDoor.Tok
def isD (b : UInt8) : Bool := decide (48 <= b.toNat) && decide (b.toNat <= 57)
def isL (b : UInt8) : Bool := (decide (97 <= b.toNat) && decide (b.toNat <= 122)) || (decide (65 <= b.toNat) && decide (b.toNat <= 90)) || b.toNat == 95
def inW (b : UInt8) : Bool := isL b || isD b
def inQ (b : UInt8) : Bool := b.toNat != 34 && b.toNat != 10
def sp (p : UInt8 -> Bool) : List UInt8 -> Nat
  | [] => 0
  | a :: r => if p a then sp p r + 1 else 0
def dv (acc : Nat) : List UInt8 -> Nat
  | [] => acc
  | c :: r => dv (acc * 10 + (c.toNat - 48)) r
inductive Cut where
  | tok (kind : Nat) (text : List UInt8) (num : Nat) (n : Nat)
  | bad (e : Nat)
  deriving DecidableEq
def cName (l : List UInt8) : Cut := if 32 < sp inW l then .bad 42 else .tok 1 (l.take (sp inW l)) 0 (sp inW l)
def frac : List UInt8 -> Nat
  | [] => 0
  | a :: r => if a = 46 then (if sp isD r = 0 then 0 else 1 + sp isD r) else 0
def cNum (l : List UInt8) : Cut :=
  if (1 < sp isD l /\ l.head? = some 48) ∨ 0 < sp isL (l.drop (sp isD l + frac (l.drop (sp isD l)))) then .bad 41
  else if 0 < frac (l.drop (sp isD l)) then .tok 3 (l.take (sp isD l + frac (l.drop (sp isD l)))) 0 (sp isD l + frac (l.drop (sp isD l)))
  else if 1000000000 < dv 0 (l.take (sp isD l)) then .bad 41
  else .tok 2 [] (dv 0 (l.take (sp isD l))) (sp isD l)
def cQuoT (t : List UInt8) (n : Nat) : List UInt8 -> Cut
  | [] => .bad 43
  | b :: _ => if b = 34 then .tok 4 t 0 (n + 2) else .bad 43
def cQuo (l : List UInt8) : Cut := cQuoT ((l.drop 1).take (sp inQ (l.drop 1))) (sp inQ (l.drop 1)) ((l.drop 1).drop (sp inQ (l.drop 1)))
def marks : List (List UInt8) := [[59], [44], [40], [41], [91], [93], [123], [125], [45, 62], [61, 61]]
def cMarkF (l : List UInt8) : List (List UInt8) -> Cut
  | [] => .bad 40
  | m :: r => if m.isPrefixOf l then .tok 5 m 0 m.length else cMarkF l r
def cMark (l : List UInt8) : Cut := cMarkF l marks
def cut (l : List UInt8) : Cut := match l with
  | [] => .tok 0 [] 0 0
  | a :: _ => if isL a then cName l else if isD a then cNum l else if a = 34 then cQuo l else cMark l
structure T where
  kind : Nat
  text : List UInt8
  num : Nat
  off : Nat
  line : Nat
  col : Nat
  deriving DecidableEq
structure Flt where
  code : Nat
  off : Nat
  line : Nat
  col : Nat
  deriving DecidableEq
inductive Sc where
  | ok (ts : List T)
  | bad (f : Flt)
  deriving DecidableEq
def Sc.pre (ts : List T) : Sc -> Sc
  | .ok us => .ok (ts ++ us)
  | .bad f => .bad f
end Go.Proofs.YtmkalhaegbnknaaDoor.Tok
namespace Go.Proofs.YtmkalhaegbnknaaDoor.Oct
open Go.RowKit
theorem hide {p : Prop} (h : p) : Hid p := h
def bv (l : List UInt8) : List Value := l.map fun b => Value.int .u8 (b.toNat : Int)
theorem bv_length (l : List UInt8) : (bv l).length = l.length := by simp [bv]
def le : Nat -> Nat -> List UInt8
  | 0, _ => []
  | n + 1, x => UInt8.ofNat x :: le n (x / 256)
def ob (ao : Option Addr) : Option Nat := ao.map (·.block)
theorem ob_eq (ao : Option Addr) (n c : Nat) : (Value.slice ao n c).ownBlock = ob ao := by cases ao <;> rfl
structure Wr (e : TypeId) (w : World) (B : Nat) (p : Addr) (ao : Option Addr) (c : Nat) (l : List UInt8) : Prop where
  cell : w.cell? p = some (.slice ao l.length c)
  froz : w.frozen? p = false
  own : w.ownsRow B e 1 (.slice ao l.length c) l.length (bv l)
  apart : ob ao ≠ some p.block
  base : B <= w.heap.size
structure Fr (w w' : World) (p : Addr) (ao ao' : Option Addr) : Prop where
  os : w'.os = w.os
  tape : w'.tape = w.tape
  output : w'.output = w.output
  size : w.heap.size <= w'.heap.size
  block : ∀ k, k < w.heap.size -> k ≠ p.block -> some k ≠ ob ao -> w'.heap[k]? = w.heap[k]?
  lies : ob ao' = ob ao ∨ ∃ k, ob ao' = some k /\ w.heap.size <= k
theorem Fr.refl (w : World) (p : Addr) (ao : Option Addr) : Fr w w p ao ao := ⟨rfl, rfl, rfl, Nat.le_refl _, fun _ _ _ _ => rfl, .inl rfl⟩
theorem Fr.trans {a b c : World} {p : Addr} {u v x : Option Addr} (h : Fr a b p u v) (k : Fr b c p v x) : Fr a c p u x := by
  refine ⟨k.os.trans h.os, k.tape.trans h.tape, k.output.trans h.output, Nat.le_trans h.size k.size, fun i hi hp hs => ?_, ?_⟩
  . refine (k.block i (Nat.lt_of_lt_of_le hi h.size) hp ?_).trans (h.block i hi hp hs)
    rcases h.lies with e | ⟨g, e, hg⟩
    . rw [e]; exact hs
    . rw [e]; intro he; cases he; omega
  . rcases k.lies with e | ⟨g, e, hg⟩
    . rw [e]; exact h.lies
    . exact .inr ⟨g, e, Nat.le_trans h.size hg⟩
theorem Fr.below {w w' : World} {p : Addr} {ao ao' : Option Addr} {B : Nat} (h : Fr w w' p ao ao') (hB : B <= w.heap.size) (hp : B <= p.block) (hs : ∀ k, ob ao = some k -> B <= k) : Below B w w' :=
  ⟨h.os, h.tape, h.output, h.size, fun k hk => h.block k (by omega) (by omega) (fun e => by have := hs k e.symm; omega)⟩
theorem cell_far (w : World) (p a : Addr) (v : Value) (h : a.block ≠ p.block) : (w.setCell p v).cell? a = w.cell? a := World.cell?_of_block (Below.heap_setCell _ _ _ _ h)
theorem grown_alloc (w : World) (o : Obj) (r : Option Nat) : w.grownBy (w.alloc o) r := ⟨rfl, rfl, rfl, by simp, fun _ hk _ => Below.heap_alloc _ _ _ hk⟩
theorem grown_refl (w : World) (r : Option Nat) : w.grownBy w r := ⟨rfl, rfl, rfl, Nat.le_refl _, fun _ _ _ => rfl⟩
section
variable {P : Program}
end
def num : List UInt8 -> Nat
  | [] => 0
  | b :: r => b.toNat + 256 * num r
section
variable {P : Program}
end
theorem ownsRow_of_block {w w' : World} {B : Nat} {e : TypeId} {ao : Option Addr} {n c : Nat} {xs : List Value} (h : w.ownsRow B e 1 (.slice ao n c) n xs) (hb : ∀ k, ob ao = some k -> w'.heap[k]? = w.heap[k]?) : w'.ownsRow B e 1 (.slice ao n c) n xs := by
  refine ⟨h.1, ?_⟩
  rcases h.2 with h0 | ⟨g, cap, cur, hv, hbg, hg, h1⟩
  . exact .inl h0
  . refine .inr ⟨g, cap, cur, hv, hbg, ?_, h1⟩
    simp only [Value.slice.injEq] at hv
    rw [hb g (by rw [hv.1]; rfl)]
    exact hg
theorem Wr.below {e : TypeId} {w w' : World} {B : Nat} {p : Addr} {ao : Option Addr} {c : Nat} {l : List UInt8} (h : Wr e w B p ao c l) (hb : Below w.heap.size w w') : Wr e w' B p ao c l /\ Fr w w' p ao ao := by
  have hp := World.block_lt_of_cell? w p h.cell
  refine ⟨⟨(hb.cell hp).trans h.cell, (hb.frozen hp).trans h.froz, ownsRow_of_block h.own (fun k hk => hb.block k ?_), h.apart, Nat.le_trans h.base hb.size⟩, ⟨hb.os, hb.tape, hb.output, hb.size, fun k hk _ _ => hb.block k hk, .inl rfl⟩⟩
  have := h.own.lt k (by rw [ob_eq]; exact hk)
  exact this.2
def Bs (w : World) (ao : Option Addr) (l : List UInt8) : Prop := ∀ j b, l[j]? = some b -> ∃ g off, ao = some ⟨g, off, none⟩ /\ w.cell? ⟨g, off + j, none⟩ = some (.int .u8 (b.toNat : Int))
theorem Bs.below {w w' : World} {ao : Option Addr} {l : List UInt8} (h : Bs w ao l) (hb : Below w.heap.size w w') : Bs w' ao l := by
  intro j b hj
  obtain ⟨g, off, e, hc⟩ := h j b hj
  exact ⟨g, off, e, (hb.cell (World.block_lt_of_cell? w _ hc)).trans hc⟩
theorem Bs.of_own {w : World} {B : Nat} {e : TypeId} {ao : Option Addr} {n c : Nat} {l : List UInt8} (h : w.ownsRow B e 1 (.slice ao n c) n (bv l)) : Bs w ao l := by
  intro j b hj
  rcases h.2 with ⟨_, h0⟩ | ⟨g, cap, cur, hv, _⟩
  . have := h.1
    rw [bv_length, h0] at this
    have hl := (List.getElem?_eq_some_iff.1 hj).1
    omega
  . simp only [Value.slice.injEq] at hv
    refine ⟨g, 0, hv.1, ?_⟩
    have hc := h.cells (g := g) (by rw [ob_eq, hv.1]; rfl) j (.int .u8 (b.toNat : Int)) (by simp [bv, hj])
    rw [Addr.add_lit] at hc
    exact hc
end Go.Proofs.YtmkalhaegbnknaaDoor.Oct
