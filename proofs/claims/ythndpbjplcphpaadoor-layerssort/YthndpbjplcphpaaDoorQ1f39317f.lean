import Derived.Test.YthndpbjplcphpaaDoorProg
import Derived.Lib.DecodeN
import Derived.Lib.AtoiAll
import Derived.Lib.ItoaNum
namespace Go.Proofs.YthndpbjplcphpaaDoor.Tok
def isD (b : UInt8) : Bool := decide (48 <= b.toNat) && decide (b.toNat <= 57)
def isL (b : UInt8) : Bool := (decide (97 <= b.toNat) && decide (b.toNat <= 122)) || (decide (65 <= b.toNat) && decide (b.toNat <= 90)) || b.toNat == 95
def inW (b : UInt8) : Bool := isL b || isD b
def inQ (b : UInt8) : Bool := b.toNat != 34 && b.toNat != 10
def sp (p : UInt8 -> Bool) : List UInt8 -> Nat
  | [] => 0
  | a :: r => if p a then sp p r + 1 else 0
def dv (acc : Nat) : List UInt8 -> Nat
  | [] => acc
  | c :: r => dv (acc * 10 + (c.toNat - 48)) r
inductive Cut where
  | tok (kind : Nat) (text : List UInt8) (num : Nat) (n : Nat)
  | bad (e : Nat)
  deriving DecidableEq
def cName (l : List UInt8) : Cut := if 32 < sp inW l then .bad 42 else .tok 1 (l.take (sp inW l)) 0 (sp inW l)
def frac : List UInt8 -> Nat
  | [] => 0
  | a :: r => if a = 46 then (if sp isD r = 0 then 0 else 1 + sp isD r) else 0
def cNum (l : List UInt8) : Cut :=
  if (1 < sp isD l /\ l.head? = some 48) ∨ 0 < sp isL (l.drop (sp isD l + frac (l.drop (sp isD l)))) then .bad 41
  else if 0 < frac (l.drop (sp isD l)) then .tok 3 (l.take (sp isD l + frac (l.drop (sp isD l)))) 0 (sp isD l + frac (l.drop (sp isD l)))
  else if 1000000000 < dv 0 (l.take (sp isD l)) then .bad 41
  else .tok 2 [] (dv 0 (l.take (sp isD l))) (sp isD l)
def cQuoT (t : List UInt8) (n : Nat) : List UInt8 -> Cut
  | [] => .bad 43
  | b :: _ => if b = 34 then .tok 4 t 0 (n + 2) else .bad 43
def cQuo (l : List UInt8) : Cut := cQuoT ((l.drop 1).take (sp inQ (l.drop 1))) (sp inQ (l.drop 1)) ((l.drop 1).drop (sp inQ (l.drop 1)))
def marks : List (List UInt8) := [[59], [44], [40], [41], [91], [93], [123], [125], [45, 62], [61, 61]]
def cMarkF (l : List UInt8) : List (List UInt8) -> Cut
  | [] => .bad 40
  | m :: r => if m.isPrefixOf l then .tok 5 m 0 m.length else cMarkF l r
def cMark (l : List UInt8) : Cut := cMarkF l marks
def cut (l : List UInt8) : Cut := match l with
  | [] => .tok 0 [] 0 0
  | a :: _ => if isL a then cName l else if isD a then cNum l else if a = 34 then cQuo l else cMark l
structure T where
  kind : Nat
  text : List UInt8
  num : Nat
  off : Nat
  line : Nat
  col : Nat
  deriving DecidableEq
structure Flt where
  code : Nat
  off : Nat
  line : Nat
  col : Nat
  deriving DecidableEq
inductive Sc where
  | ok (ts : List T)
  | bad (f : Flt)
  deriving DecidableEq
def Sc.pre (ts : List T) : Sc -> Sc
  | .ok us => .ok (ts ++ us)
  | .bad f => .bad f
end Go.Proofs.YthndpbjplcphpaaDoor.Tok
