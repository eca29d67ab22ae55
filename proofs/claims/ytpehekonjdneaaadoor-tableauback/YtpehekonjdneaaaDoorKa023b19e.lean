import Derived.Test.YtpehekonjdneaaaDoorK02373143
namespace Go.Proofs.YtpehekonjdneaaaDoor.Tbl
open Go.RowKit Go.Shelf Go.Proofs.YtpehekonjdneaaaDoor.Pau Go.Proofs.YtpehekonjdneaaaDoor.Gt
def Gr (w : World) (B : Nat) (ao : Option Addr) (c : Nat) (l : List P) : Prop := w.ownsRow B 49 4 (.slice ao l.length c) l.length (fl l)
def blk (ao : Option Addr) : Option Nat := ao.map (·.block)
theorem Gr.lt {w : World} {B : Nat} {ao : Option Addr} {c : Nat} {l : List P} (h : Gr w B ao c l) {g : Nat} (hg : blk ao = some g) : B <= g /\ g < w.heap.size := by
  obtain ⟨-, h2 | ⟨g', cap, cur, e, hB, hh, -⟩⟩ := h
  . have e := h2.1
    injection e with e1 e2 e3
    subst e1
    cases hg
  . cases e
    cases hg
    exact ⟨hB, (Array.getElem?_eq_some_iff.1 hh).1⟩
theorem Gr.of_block {w w' : World} {B : Nat} {ao : Option Addr} {c : Nat} {l : List P} (h : Gr w B ao c l) (e : ∀ g, blk ao = some g -> w'.heap[g]? = w.heap[g]?) : Gr w' B ao c l := by
  obtain ⟨h1, h2⟩ := h
  refine ⟨h1, ?_⟩
  rcases h2 with h2 | ⟨g', cap, cur, ev, hB, hh, hr⟩
  . exact .inl h2
  . refine .inr ⟨g', cap, cur, ev, hB, ?_, hr⟩
    cases ev
    rw [e g' rfl]
    exact hh
theorem Gr.below {w w' : World} {B : Nat} {ao : Option Addr} {c : Nat} {l : List P} (h : Gr w B ao c l) (hb : Below w.heap.size w w') : Gr w' B ao c l := h.of_block (fun g hg => hb.block g (h.lt hg).2)
theorem Gr.pin {w : World} {B : Nat} {ao : Option Addr} {c : Nat} {l : List P} (h : Gr w B ao c l) : PIn w ao l /\ l.length <= c := by
  obtain ⟨h1, h2 | ⟨g', cap, cur, e, hB, hh, hc, hm, hs, ht⟩⟩ := h
  . have : l = [] := List.length_eq_zero_iff.1 h2.2
    subst this
    exact ⟨.inl rfl, Nat.zero_le _⟩
  . cases e
    have := po_own (w := w) (B := B) (g := g') (n := l.length) (c := c) (l := l) ⟨h1, .inr ⟨g', c, cur, rfl, hB, hh, hc, hm, hs, ht⟩⟩
    exact ⟨this.1.pin, this.2.2.1⟩
theorem Gr.nil (w : World) (B : Nat) : Gr w B none 0 [] := ⟨rfl, .inl ⟨rfl, rfl⟩⟩
theorem fl_snoc (l : List P) (p : P) : fl (l ++ [p]) = fl l ++ c4 p := by unfold fl; rw [List.flatMap_append]; simp
theorem Gr.snoc {w : World} {B g cap : Nat} {l : List P} {p : P} {n : Nat} (hn : n = l.length) (h : w.ownsRow B 49 4 (.slice (some ⟨g, 0, none⟩) (n + 1) cap) (n + 1) (fl l ++ c4 p)) : Gr w B (some ⟨g, 0, none⟩) cap (l ++ [p]) := by
  unfold Gr
  rw [fl_snoc, List.length_append, ← hn]
  exact h
structure Nw (w V : World) (N : Nat) (a b : Option Addr) (ca cb : Nat) (l1 l2 : List P) : Prop where
  bx : At3 V (w.heap.size + 1) (.int .i64 (N : Int)) (.slice a l1.length ca) (.slice b l2.length cb)
  g1 : Gr V (w.heap.size + 2) a ca l1
  g2 : Gr V (w.heap.size + 2) b cb l2
  ne : ∀ g, blk a = some g -> blk b = some g -> False
  bw : Below w.heap.size w V
  zr : At3 V w.heap.size (.int .i64 0) (.slice none 0 0) (.slice none 0 0)
theorem Nw.below {w V V' : World} {N : Nat} {a b : Option Addr} {ca cb : Nat} {l1 l2 : List P} (h : Nw w V N a b ca cb l1 l2) (hb : Below V.heap.size V V') : Nw w V' N a b ca cb l1 l2 := ⟨h.bx.below hb, h.g1.below hb, h.g2.below hb, h.ne, bkp h.bw hb, h.zr.below hb⟩
theorem At3.set1 {w : World} {g : Nat} {x y z : Value} (h : At3 w g x y z) (v : Value) : At3 (w.setCell ⟨g, 1, none⟩ v) g x v z := by
  unfold At3 at *
  simp [World.setCell, Array.getElem?_modify, h]
theorem At3.set2 {w : World} {g : Nat} {x y z : Value} (h : At3 w g x y z) (v : Value) : At3 (w.setCell ⟨g, 2, none⟩ v) g x y v := by
  unfold At3 at *
  simp [World.setCell, Array.getElem?_modify, h]
theorem Nw.drew {w V : World} {N : Nat} {a b : Option Addr} {ca cb : Nat} {l1 l2 : List P} (h : Nw w V N a b ca cb l1 l2) : Nw w V.drew N a b ca cb l1 l2 := ⟨h.bx, h.g1, h.g2, h.ne, h.bw.drew, h.zr⟩
end Go.Proofs.YtpehekonjdneaaaDoor.Tbl
