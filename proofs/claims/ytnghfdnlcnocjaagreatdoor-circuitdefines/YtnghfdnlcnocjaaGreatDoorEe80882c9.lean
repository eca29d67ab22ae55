import Derived.Test.YtnghfdnlcnocjaaGreatDoorEf9877d50
import Derived.Test.YtnghfdnlcnocjaaGreatDoorEac203bb5
namespace Go.Proofs.YtnghfdnlcnocjaaGreatDoor.Cir
open Go.Proofs.YtnghfdnlcnocjaaGreatDoor.Tok Go.Proofs.YtnghfdnlcnocjaaGreatDoor.Gt
abbrev Nm := List UInt8
inductive Res (α : Type) where
  | ok (a : α) (ts : List T)
  | no (c : Nat) (t : T)
def t0 : T := ⟨0, [], 0, 0, 0, 0⟩
def hd : List T -> T
  | [] => t0
  | t :: _ => t
def tl : List T -> List T
  | [] => []
  | t :: r => if t.kind = 0 then t :: r else r
def Ends : List T -> Prop
  | [] => False
  | t :: r => (t.kind = 0 /\ r = []) ∨ (t.kind ≠ 0 /\ Ends r)
theorem Ends.ne : ∀ {ts : List T}, Ends ts -> ts ≠ []
  | [], h => h.elim
  | _ :: _, _ => by simp
theorem tl_cons (t : T) (r : List T) : tl (t :: r) = if t.kind = 0 then t :: r else r := rfl
theorem Ends.tl : ∀ {ts : List T}, Ends ts -> Ends (tl ts)
  | [], h => h.elim
  | t :: r, h => by
    rw [tl_cons]
    by_cases hk : t.kind = 0
    . rw [if_pos hk]; exact h
    . rw [if_neg hk]
      rcases h with ⟨h, _⟩ | ⟨_, h⟩
      . exact absurd h hk
      . exact h
theorem tl_length : ∀ ts : List T, (tl ts).length <= ts.length
  | [] => Nat.le_refl _
  | t :: r => by
    rw [tl_cons]
    split <;> simp
def isT (k : Nat) (x : Nm) (t : T) : Bool := t.kind == k && t.text == x
def pExp (k : Nat) (x : Nm) (ts : List T) : Res Unit := if isT k x (hd ts) then .ok () (tl ts) else .no 81 (hd ts)
def pMks : List Nm -> List T -> Res Unit
  | [], ts => .ok () ts
  | m :: r, ts => if isT 5 m (hd ts) then pMks r (tl ts) else .no 81 (hd ts)
def rsvL : List Nm := [[79, 80, 69, 78, 81, 65, 83, 77], [105, 110, 99, 108, 117, 100, 101], [113, 114, 101, 103], [99, 114, 101, 103], [103, 97, 116, 101], [105, 102], [109, 101, 97, 115, 117, 114, 101], [114, 101, 115, 101, 116], [98, 97, 114, 114, 105, 101, 114], [111, 112, 97, 113, 117, 101]]
def rsv (x : Nm) : Bool := rsvL.contains x
def isN (t : T) : Bool := t.kind == 1 && !rsv t.text
def pNam (ts : List T) : Res T := if isN (hd ts) then .ok (hd ts) (tl ts) else .no 81 (hd ts)
def pNum (lo hi : Int) (ts : List T) : Res Nat :=
  if (hd ts).kind ≠ 2 then .no 81 (hd ts) else if ((hd ts).num : Int) < lo ∨ hi < ((hd ts).num : Int) then .no 84 (hd ts) else .ok (hd ts).num (tl ts)
structure Rg where
  fr : Nat
  sz : Nat
structure Bk where
  find : Nm -> Option Rg
  size : Nat
structure PO where
  kind : Nat
  gate : Nat
  ns : List Nat
structure Df where
  names : Nat
  ops : List PO
structure Dc where
  q : Bk
  b : Bk
  defs : Nm -> Option Df
structure COp where
  kind : Int
  gate : Int
  qs : List Int
  bit : Int
  cond : Int
  whn : Int
deriving DecidableEq
def put {α : Type} (f : Nm -> Option α) (x : Nm) (a : α) : Nm -> Option α := fun y => if y = x then some a else f y
def dc0 : Dc := ⟨⟨fun _ => none, 0⟩, ⟨fun _ => none, 0⟩, fun _ => none⟩
def sng (kind gate n : Nat) : Df := ⟨n, [⟨kind, gate, List.range n⟩]⟩
def gOfD (d : Dc) (x : Nm) : Option Df := if (ofP x).2 = 0 then some (sng 1 (ofP x).1.toNat (rw' (ofP x).1).q.toNat) else d.defs x
def taken (d : Dc) (x : Nm) : Bool := (gOfD d x).isSome || (d.q.find x).isSome || (d.b.find x).isSome
def pNew (d : Dc) (ts : List T) : Res Nm := match pNam ts with
  | .no c t => .no c t
  | .ok t ts' => if taken d t.text then .no 83 t else .ok t.text ts'
def pReg (b : Bk) (ts : List T) : Res Rg := match pNam ts with
  | .no c t => .no c t
  | .ok t ts' => match b.find t.text with
    | none => .no 82 t
    | some r => .ok r ts'
def pIdx (r : Rg) (ts : List T) : Res Nat := match pMks [[91]] ts with
  | .no c t => .no c t
  | .ok _ ts1 => match pNum 0 ((r.sz : Int) - 1) ts1 with
    | .no c t => .no c t
    | .ok n ts2 => match pMks [[93]] ts2 with
      | .no c t => .no c t
      | .ok _ ts3 => .ok (r.fr + n) ts3
structure Ag where
  fr : Nat
  sz : Nat
  whole : Bool
def pArg (b : Bk) (ts : List T) : Res Ag := match pReg b ts with
  | .no c t => .no c t
  | .ok r ts1 => if isT 5 [91] (hd ts1) then (match pIdx r ts1 with
    | .no c t => .no c t
    | .ok i ts2 => .ok ⟨i, 1, false⟩ ts2) else .ok ⟨r.fr, r.sz, true⟩ ts1
def pRow {α : Type} (one : List α -> List T -> Res α) : Nat -> List α -> List T -> Res (List α)
  | 0, _, ts => .no 0 (hd ts)
  | f + 1, acc, ts => match one acc ts with
    | .no c t => .no c t
    | .ok a ts1 => if isT 5 [44] (hd ts1) then pRow one f (acc ++ [a]) (tl ts1) else .ok (acc ++ [a]) ts1
def pArgs (d : Dc) (ts : List T) : Res (List Ag) := match pRow (fun _ => pArg d.q) (ts.length + 1) [] ts with
  | .no c t => .no c t
  | .ok l ts1 => match pMks [[59]] ts1 with
    | .no c t => .no c t
    | .ok _ ts2 => .ok l ts2
def oneName (acc : List Nm) (ts : List T) : Res Nm := match pNam ts with
  | .no c t => .no c t
  | .ok t ts1 => if acc.contains t.text then .no 83 t else .ok t.text ts1
def pNames (ts : List T) : Res (List Nm) := pRow oneName (ts.length + 1) [] ts
def ixN : List Nm -> Nm -> Option Nat
  | [], _ => none
  | a :: r, x => if x = a then some 0 else (ixN r x).map (· + 1)
def oneGiven (names : List Nm) (ts : List T) : Res Nat := match pNam ts with
  | .no c t => .no c t
  | .ok t ts1 => match ixN names t.text with
    | none => .no 82 t
    | some n => .ok n ts1
def pGiven (names : List Nm) (ts : List T) : Res (List Nat) := match pRow (fun _ => oneGiven names) (ts.length + 1) [] ts with
  | .no c t => .no c t
  | .ok l ts1 => match pMks [[59]] ts1 with
    | .no c t => .no c t
    | .ok _ ts2 => .ok l ts2
def pCallee (d : Dc) (t : T) (ts : List T) : Res Df := if isN t then (match gOfD d t.text with
    | none => .no 82 t
    | some g => .ok g ts) else .no 81 t
def pk (l : List Nat) (ns : List Nat) : List Nat := ns.map fun i => l.getD i 0
def onP (l : List Nat) (o : PO) : PO := ⟨o.kind, o.gate, pk l o.ns⟩
def barX : Nm := [98, 97, 114, 114, 105, 101, 114]
def pInner (d : Dc) (names : List Nm) (body : List PO) (ts : List T) : Res (List PO) :=
  let t := hd ts
  let bar := isT 1 barX t
  match (if bar then .ok ⟨0, []⟩ (tl ts) else pCallee d t (tl ts)) with
  | .no c t => .no c t
  | .ok g ts1 => match pGiven names ts1 with
    | .no c t => .no c t
    | .ok l ts2 =>
      let g' := if bar then sng 4 0 l.length else g
      if ¬ l.Nodup ∨ l.length ≠ g'.names then .no 85 t else if 4096 < body.length + g'.ops.length then .no 86 t else .ok (body ++ g'.ops.map (onP l)) ts2
def pBody (d : Dc) (names : List Nm) : Nat -> List PO -> List T -> Res (List PO)
  | 0, _, ts => .no 0 (hd ts)
  | f + 1, body, ts => if isT 5 [125] (hd ts) then .ok body ts else match pInner d names body ts with
    | .no c t => .no c t
    | .ok b ts1 => pBody d names f b ts1
def pDefine (d : Dc) (ts : List T) : Res Dc := match pNew d ts with
  | .no c t => .no c t
  | .ok x ts1 => match pNames ts1 with
    | .no c t => .no c t
    | .ok ns ts2 => match pMks [[123]] ts2 with
      | .no c t => .no c t
      | .ok _ ts3 => match pBody d ns (ts3.length + 1) [] ts3 with
        | .no c t => .no c t
        | .ok body ts4 => match pMks [[125]] ts4 with
          | .no c t => .no c t
          | .ok _ ts5 => .ok ⟨d.q, d.b, put d.defs x ⟨ns.length, body⟩⟩ ts5
def pRegister (d : Dc) (b : Bk) (ts : List T) : Res Bk := match pNew d ts with
  | .no c t => .no c t
  | .ok x ts1 => match pMks [[91]] ts1 with
    | .no c t => .no c t
    | .ok _ ts2 => match pNum 1 (64 - (b.size : Int)) ts2 with
      | .no c t => .no c t
      | .ok n ts3 => match pMks [[93], [59]] ts3 with
        | .no c t => .no c t
        | .ok _ ts4 => .ok ⟨put b.find x ⟨b.size, n⟩, b.size + n⟩ ts4
def pInclude (ts : List T) : Res Unit := match pExp 4 [113, 101, 108, 105, 98, 49, 46, 105, 110, 99] ts with
  | .no c t => .no c t
  | .ok _ ts1 => pMks [[59]] ts1
def hmP : Nat -> List Ag -> Option Nat
  | n, [] => some (max n 1)
  | n, a :: r => if a.whole then (if n ≠ 0 /\ n ≠ a.sz then none else hmP a.sz r) else hmP n r
def atP (k : Nat) (a : Ag) : Nat := if a.whole then a.fr + k else a.fr
def callsP (args : List Ag) : Option (List (List Nat)) := match hmP 0 args with
  | none => none
  | some n => if ∀ k, k < n -> (args.map (atP k)).Nodup then some ((List.range n).map fun k => args.map (atP k)) else none
def layO (on : Int × Nat) (qs : List Nat) (o : PO) : COp :=
  if o.kind = 1 then ⟨1, o.gate, (pk qs o.ns).map Int.ofNat, 0, on.1, on.2⟩ else ⟨o.kind, 0, (pk qs o.ns).map Int.ofNat, 0, -1, 0⟩
def layP (on : Int × Nat) (ops : List PO) (qs : List Nat) : List COp := ops.map (layO on qs)
def pCall (d : Dc) (ops : List COp) (t : T) (on : Int × Nat) (ts : List T) : Res (List COp) := match pCallee d t ts with
  | .no c t => .no c t
  | .ok g ts1 => match pArgs d ts1 with
    | .no c t => .no c t
    | .ok args ts2 => match callsP args with
      | none => .no 85 t
      | some calls => if args.length ≠ g.names then .no 85 t else if 4096 < ops.length + calls.length * g.ops.length then .no 86 t
        else .ok (ops ++ calls.flatMap (layP on g.ops)) ts2
def pIf (d : Dc) (ops : List COp) (ts : List T) : Res (List COp) := match pMks [[40]] ts with
  | .no c t => .no c t
  | .ok _ ts1 => match pReg d.b ts1 with
    | .no c t => .no c t
    | .ok r ts2 => match pIdx r ts2 with
      | .no c t => .no c t
      | .ok i ts3 => match pMks [[61, 61]] ts3 with
        | .no c t => .no c t
        | .ok _ ts4 => match pNum 0 1 ts4 with
          | .no c t => .no c t
          | .ok w ts5 => match pMks [[41]] ts5 with
            | .no c t => .no c t
            | .ok _ ts6 => pCall d ops (hd ts6) ((i : Int), w) (tl ts6)
def msO (a b : Ag) (k : Nat) : COp := ⟨2, 0, [(atP k a : Int)], (atP k b : Int), -1, 0⟩
def pMeasure (d : Dc) (ops : List COp) (t : T) (ts : List T) : Res (List COp) := match pArg d.q ts with
  | .no c t => .no c t
  | .ok a ts1 => match pMks [[45, 62]] ts1 with
    | .no c t => .no c t
    | .ok _ ts2 => match pArg d.b ts2 with
      | .no c t => .no c t
      | .ok b ts3 => match pMks [[59]] ts3 with
        | .no c t => .no c t
        | .ok _ ts4 => if a.whole ≠ b.whole ∨ a.sz ≠ b.sz then .no 85 t else if 4096 < ops.length + a.sz then .no 86 t
          else .ok (ops ++ (List.range a.sz).map (msO a b)) ts4
def rsO (a : Ag) (k : Nat) : COp := ⟨3, 0, [(atP k a : Int)], 0, -1, 0⟩
def pReset (d : Dc) (ops : List COp) (t : T) (ts : List T) : Res (List COp) := match pArg d.q ts with
  | .no c t => .no c t
  | .ok a ts1 => match pMks [[59]] ts1 with
    | .no c t => .no c t
    | .ok _ ts2 => if 4096 < ops.length + a.sz then .no 86 t else .ok (ops ++ (List.range a.sz).map (rsO a)) ts2
def eachP (a : Ag) : List Nat := (List.range a.sz).map fun k => atP k a
def pBarrier (d : Dc) (ops : List COp) (t : T) (ts : List T) : Res (List COp) := match pArgs d ts with
  | .no c t => .no c t
  | .ok l ts1 => if ¬ (l.flatMap eachP).Nodup then .no 85 t else if 4096 < ops.length + 1 then .no 86 t
    else .ok (ops ++ [⟨4, 0, (l.flatMap eachP).map Int.ofNat, 0, -1, 0⟩]) ts1
structure St where
  d : Dc
  ops : List COp
def Res.map {α β : Type} (f : α -> β) : Res α -> Res β
  | .ok a ts => .ok (f a) ts
  | .no c t => .no c t
def kwX (n : Nat) : Nm := rsvL.getD n []
def pStmt (s : St) (ts : List T) : Res St :=
  let t := hd ts
  let r := tl ts
  if t.kind ≠ 1 then .no 81 t
  else if t.text = kwX 1 then (pInclude r).map fun _ => s
  else if t.text = kwX 2 then (pRegister s.d s.d.q r).map fun b => ⟨⟨b, s.d.b, s.d.defs⟩, s.ops⟩
  else if t.text = kwX 3 then (pRegister s.d s.d.b r).map fun b => ⟨⟨s.d.q, b, s.d.defs⟩, s.ops⟩
  else if t.text = kwX 4 then (pDefine s.d r).map fun d => ⟨d, s.ops⟩
  else if t.text = kwX 5 then (pIf s.d s.ops r).map fun o => ⟨s.d, o⟩
  else if t.text = kwX 6 then (pMeasure s.d s.ops t r).map fun o => ⟨s.d, o⟩
  else if t.text = kwX 7 then (pReset s.d s.ops t r).map fun o => ⟨s.d, o⟩
  else if t.text = kwX 8 then (pBarrier s.d s.ops t r).map fun o => ⟨s.d, o⟩
  else (pCall s.d s.ops t (-1, 0) r).map fun o => ⟨s.d, o⟩
def pStmts : Nat -> St -> List T -> Res St
  | 0, _, ts => .no 0 (hd ts)
  | f + 1, s, ts => if (hd ts).kind = 0 then .ok s ts else match pStmt s ts with
    | .no c t => .no c t
    | .ok s' ts' => pStmts f s' ts'
def pProg (ts : List T) : Res St := match pExp 1 (kwX 0) ts with
  | .no c t => .no c t
  | .ok _ ts1 => match pExp 3 [50, 46, 48] ts1 with
    | .no c t => .no c t
    | .ok _ ts2 => match pMks [[59]] ts2 with
      | .no c t => .no c t
      | .ok _ ts3 => pStmts (ts3.length + 1) ⟨dc0, []⟩ ts3
structure Circ where
  q : Int
  b : Int
  ops : List COp
deriving DecidableEq
inductive PR where
  | ok (c : Circ)
  | bad (f : Flt)
deriving DecidableEq
def parP (l : List UInt8) : PR := match scanAll l with
  | .bad f => .bad f
  | .ok ts => match pProg ts with
    | .no c t => .bad ⟨c, t.off, t.line, t.col⟩
    | .ok s _ => .ok ⟨s.d.q.size, s.d.b.size, s.ops⟩
end Go.Proofs.YtnghfdnlcnocjaaGreatDoor.Cir
