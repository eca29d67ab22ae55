import Derived.Test.YtoickolhekhgmaaGreatDoorEn4231915e
import Derived.Stop.Asserts
namespace Go.Proofs.YtoickolhekhgmaaGreatDoor.Cir
end Go.Proofs.YtoickolhekhgmaaGreatDoor.Cir
namespace Go.Proofs.YtoickolhekhgmaaGreatDoor.Gt
end Go.Proofs.YtoickolhekhgmaaGreatDoor.Gt
namespace Go.Proofs.YtoickolhekhgmaaGreatDoor.Oct
end Go.Proofs.YtoickolhekhgmaaGreatDoor.Oct
namespace Go.Proofs.YtoickolhekhgmaaGreatDoor.Tok
end Go.Proofs.YtoickolhekhgmaaGreatDoor.Tok
namespace Go.Proofs.YtoickolhekhgmaaGreatDoor.Lay
open Go.RowKit Go.Shelf Go.Proofs.YtoickolhekhgmaaGreatDoor.Oct Go.Proofs.YtoickolhekhgmaaGreatDoor.Tok Go.Proofs.YtoickolhekhgmaaGreatDoor.Gt Go.Proofs.YtoickolhekhgmaaGreatDoor.Cir
abbrev O0 : COp := ⟨0, 0, [], 0, 0, 0⟩
def oa (ops : List COp) (k : Nat) : COp := ops.getD k O0
theorem oa_some {ops : List COp} {i : Nat} (h : i < ops.length) : ops[i]? = some (oa ops i) := by unfold oa; simp [List.getD, List.getElem?_eq_getElem h]
theorem wrapI (x : Int) (h0 : -1000000000 <= x) (h1 : x <= 1000000000) : IntKind.i64.wrap x = x := by
  rw [IntKind.wrap_i64]; omega
end Go.Proofs.YtoickolhekhgmaaGreatDoor.Lay
