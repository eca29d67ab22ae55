/- IndexRune in a text of the two signs. -/
import Derived.Test.YthpkmbgollollabDoorIa
import Derived.Laws.RangeAny
namespace Go.Proofs.YthpkmbgollollabDoor.Dy
open Go.RowKit Go.Lib Go.Shelf Go.Proofs.YthpkmbgollollabDoor.Sca

theorem iRune_near (r : Nat) (h : r < 128) (w : World) : Calls Tryd.prog 59 #[.string ⟨#[43, 45]⟩, .int .i32 (r : Int)] w fun e w' => e = .returned (.int .i64 (if r = 43 then 0 else if r = 45 then 1 else -1)) ∧ w' = w := by
  have c := Any.strings_IndexRune_ascii Tryd.laysIndexRune ⟨#[43, 45]⟩ (r : Int) w (by omega) (by omega)
  have e : Lib.indexByte (⟨#[43, 45]⟩ : ByteArray).data.toList (r : Int).toNat.toUInt8 = if r = 43 then 0 else if r = 45 then 1 else -1 := by
    have : ∀ k : Fin 128, Lib.indexByte (⟨#[43, 45]⟩ : ByteArray).data.toList ((k.val : Nat) : Int).toNat.toUInt8 = if k.val = 43 then 0 else if k.val = 45 then 1 else -1 := by decide +kernel
    exact this ⟨r, h⟩
  rw [e] at c
  exact c
/-- A sign? -/
def isS (c : UInt8) : Bool := c = 43 || c = 45
/-- The place of the last sign; -1: there is none. -/
def lastA : Nat → List UInt8 → Int
  | 0, _ => -1
  | i + 1, l => if isS (l.getD i 0) then (i : Int) else lastA i l
theorem lastA_lt : ∀ (i : Nat) (l : List UInt8), -1 ≤ lastA i l ∧ lastA i l < i
  | 0, _ => by unfold lastA; omega
  | i + 1, l => by
    unfold lastA
    split
    · omega
    · have := lastA_lt i l; omega
set_option maxRecDepth 100000 in
set_option maxHeartbeats 1000000 in
theorem dlast_ascii (l : List UInt8) (i : Nat) (h : i < l.length) (hl : l.length ≤ 140737488355328) (ha : (l.getD i 0).toNat < 128) (w : World) : Calls Tryd.prog 63 #[.string ⟨(l.take (i + 1)).toArray⟩] w fun e w' => e = .returned (.tuple #[.int .i32 ((l.getD i 0).toNat : Int), .int .i64 1]) ∧ w' = w := by
  have hsz : (⟨(l.take (i + 1)).toArray⟩ : ByteArray).size = i + 1 := by show (l.take (i + 1)).toArray.size = _; simp; omega
  have hat : ∀ hh : i < (⟨(l.take (i + 1)).toArray⟩ : ByteArray).size, (⟨(l.take (i + 1)).toArray⟩ : ByteArray)[i]'hh = l.getD i 0 := fun hh => by
    show (l.take (i + 1)).toArray[i]'_ = _
    simp [List.getElem?_eq_getElem h]
  have z1 : ((l.getD i 0).toNat : Int) < 128 := by omega
  generalize (⟨(l.take (i + 1)).toArray⟩ : ByteArray) = s at *
  have hn : (s.size : Int) - 1 = (i : Int) := by omega
  have z0 : ((s.size : Int) == 0) = false := by rw [beq_eq_false_iff_ne]; omega
  have hlt : (i : Int) < (s.size : Int) := by omega
  have hge : (0 : Int) ≤ (i : Int) := by omega
  have hi : i < s.size := by omega
  have hi47 : (i : Int) < 140737488355328 := by omega
  have hat' := hat hi
  clear hat hsz
  generalize l.getD i 0 = c at *
  clear h hl
  have hcl : (c.toNat : Int) < 256 := by omega
  go_enter Tryd.func63, Tryd.ntmps63
  go_wp2_with fail
  go_ret2
  exact ⟨rfl, rfl⟩
end Go.Proofs.YthpkmbgollollabDoor.Dy
