import Derived.Test.YtoickolhekhgmaaGreatDoorEn28fda4da
namespace Go.Proofs.YtoickolhekhgmaaGreatDoor.Cir
end Go.Proofs.YtoickolhekhgmaaGreatDoor.Cir
namespace Go.Proofs.YtoickolhekhgmaaGreatDoor.Gt
end Go.Proofs.YtoickolhekhgmaaGreatDoor.Gt
namespace Go.Proofs.YtoickolhekhgmaaGreatDoor.Oct
end Go.Proofs.YtoickolhekhgmaaGreatDoor.Oct
namespace Go.Proofs.YtoickolhekhgmaaGreatDoor.Tok
end Go.Proofs.YtoickolhekhgmaaGreatDoor.Tok
namespace Go.Proofs.YtoickolhekhgmaaGreatDoor.Lay
open Go.RowKit Go.Shelf Go.Proofs.YtoickolhekhgmaaGreatDoor.Oct Go.Proofs.YtoickolhekhgmaaGreatDoor.Tok Go.Proofs.YtoickolhekhgmaaGreatDoor.Gt Go.Proofs.YtoickolhekhgmaaGreatDoor.Cir
attribute [local go_sem] Oper.semAt_some
theorem lBackward (ao : Option Addr) (n k : Nat) (w : World) : Calls Tryz.prog 16 #[.slice ao n k] w fun e w' => e = .returned (.func (.func 48) #[] #[.pointer (some ⟨w.heap.size, 0, none⟩)]) /\ w' = w.alloc (.cells #[.slice ao n k] 22) := by
  go_enter Tryz.func16, Tryz.ntmps16
  go_wp2_with fail
  go_ret
  exact ⟨rfl, rfl⟩
end Go.Proofs.YtoickolhekhgmaaGreatDoor.Lay
