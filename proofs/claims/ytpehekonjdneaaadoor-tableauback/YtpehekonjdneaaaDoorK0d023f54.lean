import Derived.Test.YtpehekonjdneaaaDoorKa023b19e
namespace Go.Proofs.YtpehekonjdneaaaDoor.Tbl
open Go.RowKit Go.Shelf Go.Proofs.YtpehekonjdneaaaDoor.Pau Go.Proofs.YtpehekonjdneaaaDoor.Gt
structure Cp (w V : World) (n : Int) (a b : Option Addr) (ns nd ca cb : Nat) (x y : Value) : Prop where
  tb : At3 V w.heap.size (.int .i64 n) (.slice a ns ca) (.slice b nd cb)
  zr : At3 V (w.heap.size + 1) (.int .i64 0) (.slice none 0 0) (.slice none 0 0)
  cp : At3 V (w.heap.size + 1 + 1) (.int .i64 n) x y
  bw : Below w.heap.size w V
theorem Cp.keep {w V V' : World} {n : Int} {a b : Option Addr} {ns nd ca cb : Nat} {x y : Value} (h : Cp w V n a b ns nd ca cb x y) {B : Nat} (hB : V.heap.size = B) (hb : Below B V V') : Cp w V' n a b ns nd ca cb x y := by
  subst hB
  exact ⟨h.tb.below hb, h.zr.below hb, h.cp.below hb, bkp h.bw hb⟩
theorem Cp.set1 {w V : World} {n : Int} {a b : Option Addr} {ns nd ca cb : Nat} {x y : Value} (h : Cp w V n a b ns nd ca cb x y) (v : Value) : Cp w (V.setCell ⟨w.heap.size + 1 + 1, 1, none⟩ v) n a b ns nd ca cb v y :=
  ⟨(Below.heap_setCell _ _ _ _ (show w.heap.size ≠ w.heap.size + 1 + 1 by omega)).trans h.tb, (Below.heap_setCell _ _ _ _ (show w.heap.size + 1 ≠ w.heap.size + 1 + 1 by omega)).trans h.zr, h.cp.set1 v, h.bw.setCell (p := ⟨w.heap.size + 1 + 1, 1, none⟩) (by show w.heap.size <= w.heap.size + 1 + 1; omega) _⟩
theorem Cp.set2 {w V : World} {n : Int} {a b : Option Addr} {ns nd ca cb : Nat} {x y : Value} (h : Cp w V n a b ns nd ca cb x y) (v : Value) : Cp w (V.setCell ⟨w.heap.size + 1 + 1, 2, none⟩ v) n a b ns nd ca cb x v :=
  ⟨(Below.heap_setCell _ _ _ _ (show w.heap.size ≠ w.heap.size + 1 + 1 by omega)).trans h.tb, (Below.heap_setCell _ _ _ _ (show w.heap.size + 1 ≠ w.heap.size + 1 + 1 by omega)).trans h.zr, h.cp.set2 v, h.bw.setCell (p := ⟨w.heap.size + 1 + 1, 2, none⟩) (by show w.heap.size <= w.heap.size + 1 + 1; omega) _⟩
end Go.Proofs.YtpehekonjdneaaaDoor.Tbl
