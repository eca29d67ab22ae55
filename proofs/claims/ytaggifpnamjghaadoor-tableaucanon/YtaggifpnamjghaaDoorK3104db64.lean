import Derived.Test.YtaggifpnamjghaaDoorK777c35e5
import Derived.Deep.Cut
namespace Go.Proofs.YtaggifpnamjghaaDoor.Tbl
open Go.RowKit Go.Shelf Go.Proofs.YtaggifpnamjghaaDoor.Pau Go.Proofs.YtaggifpnamjghaaDoor.Gt
structure Fi2 (t : TT) (p : P) (N k : Nat) : Prop where
  n : t.n = (N : Int)
  n64 : N <= 64
  ls : t.s.length = N
  ld : t.d.length = N
  kl : k < N
  lo : loI t p = (k : Int)
  ix : lsI t p = k
  ts : ∀ i, i < N -> tnB p (t.s.getD i oP) = !comB (t.s.getD i oP) p
  td : ∀ i, i < N -> tnB p (t.d.getD i oP) = !comB (t.d.getD i oP) p
  ws : ∀ i, i < N -> Wd (t.s.getD i oP)
  wd : ∀ i, i < N -> Wd (t.d.getD i oP)
theorem get_some {w : World} {B : Nat} {ao : Option Addr} {l : List P} (h : POo w B ao l) (h0 : 0 < l.length) : ∃ g, ao = some ⟨g, 0, none⟩ /\ B <= g /\ PO w g l := by
  rcases h with h | h
  . rw [h] at h0; simp at h0
  . exact h
end Go.Proofs.YtaggifpnamjghaaDoor.Tbl
