/- What the document's read answers, as a function. -/
import Derived.Test.YtnpdfkcjjedamaaGreatDoorPd
import Derived.Test.YtnpdfkcjjedamaaGreatDoorQe
namespace Go.Proofs.YtnpdfkcjjedamaaGreatDoor.Sca
open Go.RowKit Go.Lib Go.Shelf Go.Proofs.YtnpdfkcjjedamaaGreatDoor.Oct

/-- A digit's number; 0: it is none. -/
def dz (c : Nat) : Nat := (dgt c).toNat
theorem dz_lt (c : Nat) : dz c < 16 := by unfold dz dgt; split; omega; split <;> omega
theorem dz_max (c : Nat) : max (dgt c) 0 = (dz c : Int) := by unfold dz; omega
theorem dz_fin : ∀ d : Fin 16, dz (hxd d.val).toNat = d.val ∧ hxd d.val ≠ 112 ∧ hxd d.val ≠ 46 := by decide +kernel
/-- The digits ahead of the power. -/
def g1 : List UInt8 → Nat → Nat → Nat → List UInt8 × Nat × Nat
  | [], _, m, k => ([], m, k)
  | c :: r, 0, m, k => (c :: r, m, k)
  | c :: r, n + 1, m, k => if c = 112 then (c :: r, m, k) else if c = 46 then g1 r n m k else g1 r n (m * 16 % 18446744073709551616 + dz c.toNat) (k + 1)
/-- The power's digits. -/
def g2 : List UInt8 → Nat → Nat
  | [], n => n
  | c :: r, n => if n < 10000 then g2 r (10 * n + dz c.toNat) else n
def expo (r : List UInt8) : Int := if r.head? = some 45 then -(g2 (r.drop 1) 0 : Int) else (g2 r 0 : Int)
def rdT (t : List UInt8) : Nat := rung (g1 (t.drop 3) 15 1 0).2.1 (-(4 * ((g1 (t.drop 3) 15 1 0).2.2 : Int)) + expo ((g1 (t.drop 3) 15 1 0).1.drop 1))
def rdX (t : List UInt8) : Nat := if t = [105, 110, 102] then 9218868437227405312 else if 4 < t.length ∧ t.take 3 = [48, 120, 49] then rdT t else 0
def rdS (mi : Bool) (t : List UInt8) : Nat := if t = [110, 97, 110] then 9221120237041090561 else rdX t + if mi then 9223372036854775808 else 0
def rdQ (l : List UInt8) : Nat := if l.head? = some 45 then rdS true (l.drop 1) else rdS false l
theorem rdX_le (t : List UInt8) : rdX t ≤ 9218868437227405312 := by
  unfold rdX
  split
  · omega
  split
  · exact rung_le _ _
  · omega
theorem rdQ_lt (l : List UInt8) : rdQ l < 18446744073709551616 := by
  have h : ∀ mi t, rdS mi t < 18446744073709551616 := fun mi t => by
    have := rdX_le t
    unfold rdS
    split
    · omega
    · split <;> omega
  unfold rdQ
  split <;> exact h _ _
end Go.Proofs.YtnpdfkcjjedamaaGreatDoor.Sca
