import Derived.Test.YthndpbjplcphpaaDoorQ1f39317f
import Derived.Test.YthndpbjplcphpaaDoorQ28c6d548
namespace Go.Proofs.YthndpbjplcphpaaDoor.Cir
open Go.Proofs.YthndpbjplcphpaaDoor.Tok Go.Proofs.YthndpbjplcphpaaDoor.Gt
abbrev Nm := List UInt8
inductive Res (α : Type) where
  | ok (a : α) (ts : List T)
  | no (c : Nat) (t : T)
def t0 : T := ⟨0, [], 0, 0, 0, 0⟩
def hd : List T -> T
  | [] => t0
  | t :: _ => t
def Ends : List T -> Prop
  | [] => False
  | t :: r => (t.kind = 0 /\ r = []) ∨ (t.kind ≠ 0 /\ Ends r)
theorem Ends.ne : ∀ {ts : List T}, Ends ts -> ts ≠ []
  | [], h => h.elim
  | _ :: _, _ => by simp
structure Rg where
  fr : Nat
  sz : Nat
structure Bk where
  find : Nm -> Option Rg
  size : Nat
structure PO where
  kind : Nat
  gate : Nat
  ns : List Nat
structure Df where
  names : Nat
  ops : List PO
structure Dc where
  q : Bk
  b : Bk
  defs : Nm -> Option Df
structure COp where
  kind : Int
  gate : Int
  qs : List Int
  bit : Int
  cond : Int
  whn : Int
deriving DecidableEq
def put {α : Type} (f : Nm -> Option α) (x : Nm) (a : α) : Nm -> Option α := fun y => if y = x then some a else f y
structure Ag where
  fr : Nat
  sz : Nat
  whole : Bool
def ixN : List Nm -> Nm -> Option Nat
  | [], _ => none
  | a :: r, x => if x = a then some 0 else (ixN r x).map (· + 1)
structure St where
  d : Dc
  ops : List COp
def Res.map {α β : Type} (f : α -> β) : Res α -> Res β
  | .ok a ts => .ok (f a) ts
  | .no c t => .no c t
structure Circ where
  q : Int
  b : Int
  ops : List COp
deriving DecidableEq
inductive PR where
  | ok (c : Circ)
  | bad (f : Flt)
deriving DecidableEq
end Go.Proofs.YthndpbjplcphpaaDoor.Cir
