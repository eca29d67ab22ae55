import Derived.Test.YtjiopaojhenanaaGreatDoorProg
import Derived.WalkSpells
import Derived.WalkLawsBesides
import Derived.Deep.AppendLies
import Derived.Deep.AppendSrc
import Derived.Deep.OwnRows
namespace Go.Proofs.YtjiopaojhenanaaGreatDoor.Oct
end Go.Proofs.YtjiopaojhenanaaGreatDoor.Oct
namespace Go.Proofs.YtjiopaojhenanaaGreatDoor.Oct
open Go.RowKit
theorem hide {p : Prop} (h : p) : Hid p := h
def ob (ao : Option Addr) : Option Nat := ao.map (·.block)
theorem ob_eq (ao : Option Addr) (n c : Nat) : (Value.slice ao n c).ownBlock = ob ao := by cases ao <;> rfl
section
variable {P : Program}
end
section
variable {P : Program}
end
end Go.Proofs.YtjiopaojhenanaaGreatDoor.Oct
namespace Go.Proofs.YtjiopaojhenanaaGreatDoor.Gt
open Go.RowKit Go.Proofs.YtjiopaojhenanaaGreatDoor.Oct
structure Rw where
  nm : List UInt8
  q : Int
  c : Int
  t : Int
  v : Int
  o : Int
deriving DecidableEq
def r0 : Rw := ⟨[], 0, 0, 0, 0, 0⟩
def tab : List Rw := [
  ⟨[], 0, 0, 0, 0, 0⟩,
  ⟨[105, 100], 1, 0, 6, 1, 1⟩,
  ⟨[120], 1, 0, 2, 2, 2⟩,
  ⟨[121], 1, 0, 2, 3, 3⟩,
  ⟨[122], 1, 0, 6, 4, 4⟩,
  ⟨[115], 1, 0, 6, 6, 5⟩,
  ⟨[115, 100, 103], 1, 0, 6, 5, 6⟩,
  ⟨[115, 120], 1, 0, 3, 8, 7⟩,
  ⟨[115, 120, 100, 103], 1, 0, 3, 7, 8⟩,
  ⟨[115, 121], 1, 0, 3, 10, 9⟩,
  ⟨[115, 121, 100, 103], 1, 0, 3, 9, 10⟩,
  ⟨[99, 120], 2, 1, 2, 11, 2⟩,
  ⟨[99, 121], 2, 1, 2, 12, 3⟩,
  ⟨[99, 122], 2, 0, 6, 13, 4⟩,
  ⟨[115, 119, 97, 112], 2, 0, 2, 14, 14⟩,
  ⟨[105, 115, 119, 97, 112], 2, 0, 2, 16, 15⟩,
  ⟨[105, 115, 119, 97, 112, 100, 103], 2, 0, 2, 15, 16⟩,
  ⟨[104, 104], 2, 0, 3, 17, 17⟩,
  ⟨[99, 99, 120], 3, 2, 0, 18, 2⟩,
  ⟨[99, 99, 122], 3, 0, 4, 19, 4⟩,
  ⟨[99, 115, 119, 97, 112], 3, 1, 0, 20, 14⟩]
def rw' (k : Int) : Rw := if 0 <= k /\ k < 21 then tab.getD k.toNat r0 else r0
def Rw.cells (r : Rw) : List Value := [.string ⟨r.nm.toArray⟩, .int .i64 r.q, .int .i64 r.c, .int .i64 r.t, .int .i64 r.v, .int .i64 r.o]
def tabV : List Value := tab.flatMap Rw.cells
def Tb (w : World) : Prop := ∀ j v, tabV[j]? = some v -> w.cell? ⟨1, j, none⟩ = some v
theorem Tb.lt {w : World} (h : Tb w) : 1 < w.heap.size := World.block_lt_of_cell? w _ (h 0 (.string ⟨#[]⟩) rfl)
theorem Tb.below {w w' : World} (h : Tb w) (hb : Below w.heap.size w w') : Tb w' := fun j v hv => (hb.cell h.lt).trans (h j v hv)
section
variable {P : Program}
end
theorem infoR : (Tryz.prog.info? 152).map (·.size) = some 6 := by kernel_rfl
end Go.Proofs.YtjiopaojhenanaaGreatDoor.Gt
