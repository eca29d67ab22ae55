import Derived.Test.YthndpbjplcphpaaDoorQa0422fca
import Derived.Lib.AppendIntMem
import Derived.Lib.ItoaLen
import Derived.Deep.OwnRows
namespace Go.Proofs.YthndpbjplcphpaaDoor.Tok
open Go.RowKit Go.Shelf Go.Proofs.YthndpbjplcphpaaDoor.Oct
def wholeB (l : List UInt8) (kd : Int) (tx : List UInt8) (nm : Int) : Bool := match cut l with
  | .tok k t v n => n == l.length && ((k : Int) == kd && t == tx && (v : Int) == nm)
  | .bad _ => false
def T10 (w : World) : Prop := Lib.TabIs Tryd.prog w "internal/strconv.uint64pow10" .u64 Lib.pow10Tab
theorem T10.below {w w' : World} (h : T10 w) (hb : Below w.heap.size w w') : T10 w' := Lib.tabBelow_of_tabIs h w' hb
def draftL (kd : Int) (tx : List UInt8) (nm : Int) : List UInt8 := if kd = 2 then Lib.itoa nm else if kd = 4 then 34 :: (tx ++ [34]) else tx
def writeR (kd : Int) (tx : List UInt8) (nm : Int) : Option (List UInt8) := if wholeB (draftL kd tx nm) kd tx nm then some (draftL kd tx nm) else none
structure TA where
  kd : Int
  tx : List UInt8
  nm : Int
  o1 : Int
  o2 : Int
  o3 : Int
def TA.cells (t : TA) : List Value := [.int .i64 t.kd, .string ⟨t.tx.toArray⟩, .int .i64 t.nm, .int .i64 t.o1, .int .i64 t.o2, .int .i64 t.o3]
def Ta (w : World) (ao : Option Addr) (ts : List TA) : Prop := ∀ j t, ts[j]? = some t -> ∃ g off, ao = some ⟨g, off, none⟩ /\ ∀ i v, t.cells[i]? = some v -> w.cell? ⟨g, off + j * 6 + i, none⟩ = some v
theorem Ta.below {w w' : World} {ao : Option Addr} {ts : List TA} (h : Ta w ao ts) (hb : Below w.heap.size w w') : Ta w' ao ts := by
  intro j t hj
  obtain ⟨g, off, e, hc⟩ := h j t hj
  exact ⟨g, off, e, fun i v hv => cell_below (hc i v hv) hb⟩
def TA.wr (t : TA) : Option (List UInt8) := writeR t.kd t.tx t.nm
end Go.Proofs.YthndpbjplcphpaaDoor.Tok
