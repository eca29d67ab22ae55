import Derived.Test.YtjiopaojhenanaaGreatDoorWn10340ca3
import Derived.Test.YtjiopaojhenanaaGreatDoorWn8dd6fa82
namespace Go.Proofs.YtjiopaojhenanaaGreatDoor.Gt
end Go.Proofs.YtjiopaojhenanaaGreatDoor.Gt
namespace Go.Proofs.YtjiopaojhenanaaGreatDoor.Oct
end Go.Proofs.YtjiopaojhenanaaGreatDoor.Oct
namespace Go.Proofs.YtjiopaojhenanaaGreatDoor.Tok
end Go.Proofs.YtjiopaojhenanaaGreatDoor.Tok
namespace Go.Proofs.YtjiopaojhenanaaGreatDoor.Cir
open Go.RowKit Go.Shelf Go.Proofs.YtjiopaojhenanaaGreatDoor.Oct Go.Proofs.YtjiopaojhenanaaGreatDoor.Tok Go.Proofs.YtjiopaojhenanaaGreatDoor.Gt
def OpsE (w : World) (B E : Nat) (ao : Option Addr) (n c : Nat) (ops : List COp) : Prop := ∃ xs : List (COp × Value), n = xs.length /\ ops = xs.map (·.1) /\ w.ownsRow B 49 6 (.slice ao n c) n (xs.flatMap opC) /\ (∀ x ∈ xs, RowO w B x.2 x.1.qs) /\ Pw xs /\ ∀ x ∈ xs, ∀ g, x.2.ownBlock = some g -> g < E
theorem OpsOwn.upto {w : World} {B : Nat} {ao : Option Addr} {n c : Nat} {l : List COp} (h : OpsOwn w B ao n c l) : OpsE w B w.heap.size ao n c l := by
  obtain ⟨xs, h1, h2, h3, h4, h5⟩ := h
  exact ⟨xs, h1, h2, h3, h4, h5, fun x hx g hg => ((h4 x hx).lt hg).2⟩
theorem OpsE.below {w w' : World} {B E : Nat} {ao : Option Addr} {n c : Nat} {l : List COp} (h : OpsE w B E ao n c l) (hb : Below w.heap.size w w') : OpsE w' B E ao n c l := by
  obtain ⟨xs, h1, h2, h3, h4, h5, h6⟩ := h
  exact ⟨xs, h1, h2, own_of_block h3 (fun k hk => hb.block k (own_lt h3 k hk).2), fun x hx => (h4 x hx).below hb, h5, h6⟩
section
variable {W0 V v : World} {B n1 n2 : Nat} {l1 l2 : List COp} {x y : Option Nat} {d1 : Option (Nat × Option Addr × Nat)} {d2 : Option (Option Addr × Nat)}
end
end Go.Proofs.YtjiopaojhenanaaGreatDoor.Cir
