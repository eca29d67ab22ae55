import Derived.Shelf.SlicesQ.Reverse
import Derived.Test.YtmkalhaegbnknaaDoorProg
namespace Go.Proofs
open Go.Shelf
def Tryd.reverseOp_ren : Go.Shelf.Ren := ⟨fun | 35 => 21 | n => n, fun | 22 => 22 | 23 => 41 | 3 => 3 | 4 => 4 | 0 => 0 | n => n, fun | n => n⟩
theorem Tryd.reverseOp : Go.Proofs.SlLaysE0.n35 Tryd.prog Tryd.reverseOp_ren := {
  mixed := by kernel_rfl
  f35 := ⟨Tryd.f21.name, by decide, Tryd.func21.trans (congrArg some (by kernel_rfl))⟩
  t0 := Tryd.underlying0
  a0 := Tryd.isAgg0
  z0 := Tryd.sizeOf0
  v0 := Tryd.zeroValue0
  t3 := Tryd.underlying3
  a3 := Tryd.isAgg3
  z3 := Tryd.sizeOf3
  v3 := Tryd.zeroValue3
  t4 := Tryd.underlying4
  a4 := Tryd.isAgg4
  z4 := Tryd.sizeOf4
  v4 := Tryd.zeroValue4
  t22 := Tryd.underlying22
  a22 := Tryd.isAgg22
  z22 := Tryd.sizeOf22
  v22 := Tryd.zeroValue22 }
end Go.Proofs
