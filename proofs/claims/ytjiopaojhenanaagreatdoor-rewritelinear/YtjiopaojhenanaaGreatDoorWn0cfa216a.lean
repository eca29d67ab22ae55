import Derived.Test.YtjiopaojhenanaaGreatDoorWn3ad591bb
import Derived.Stop.Asserts
namespace Go.Proofs.YtjiopaojhenanaaGreatDoor.Cir
end Go.Proofs.YtjiopaojhenanaaGreatDoor.Cir
namespace Go.Proofs.YtjiopaojhenanaaGreatDoor.Gt
end Go.Proofs.YtjiopaojhenanaaGreatDoor.Gt
namespace Go.Proofs.YtjiopaojhenanaaGreatDoor.Oct
end Go.Proofs.YtjiopaojhenanaaGreatDoor.Oct
namespace Go.Proofs.YtjiopaojhenanaaGreatDoor.Tok
end Go.Proofs.YtjiopaojhenanaaGreatDoor.Tok
namespace Go.Proofs.YtjiopaojhenanaaGreatDoor.Rwt
open Go.RowKit Go.Shelf Go.Proofs.YtjiopaojhenanaaGreatDoor.Oct Go.Proofs.YtjiopaojhenanaaGreatDoor.Tok Go.Proofs.YtjiopaojhenanaaGreatDoor.Gt Go.Proofs.YtjiopaojhenanaaGreatDoor.Cir
def plP (o : COp) : Bool := (o.kind == 1) && (o.cond == -1)
theorem rPlain (g off : Nat) (o : COp) (aq : Option Addr) (cq : Nat) (w : World) (h : Oc w g off o aq cq) : Calls Tryz.prog 34 #[.pointer (some ⟨g, off, none⟩)] w fun e w' => e = .returned (.bool (plP o)) /\ w' = w := by
  have h0 := h.kind
  have h4 := h.cond
  have hlt := World.block_lt_of_cell? _ _ h0
  unfold plP
  obtain ⟨kind, gate, qs, bit, cond, whn⟩ := o
  simp only at *
  clear h
  cases k1 : (kind == 1)
  . go_enter Tryz.func34, Tryz.ntmps34
    go_wp2_with fail
    go_ret
    exact ⟨rfl, rfl⟩
  . go_enter Tryz.func34, Tryz.ntmps34
    go_wp2_with fail
    go_ret
    exact ⟨rfl, rfl⟩
theorem sh64 (j : Nat) (h : j < 64) : IntKind.u64.wrap ((2 : Int) ^ j) = ((1 <<< j : Nat) : Int) :=
  (by decide +kernel : ∀ i : Fin 64, IntKind.u64.wrap ((2 : Int) ^ i.1) = ((1 <<< i.1 : Nat) : Int)) ⟨j, h⟩
end Go.Proofs.YtjiopaojhenanaaGreatDoor.Rwt
