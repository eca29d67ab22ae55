/- Seal and Open, as they are walked. -/
import Derived.Test.YtefbhhabeapaaaaDoorRd3
import Derived.Test.YtefbhhabeapaaaaDoorSum1
namespace Go.Proofs.YtefbhhabeapaaaaDoor.Oct
open Go.RowKit Go.Lib

/-- A slice in new memory. -/
structure Fresh (e : TypeId) (w w' : World) (ao : Option Addr) (c : Nat) (l : List UInt8) : Prop where
  below : Below w.heap.size w w'
  own : w'.ownsRow w.heap.size e 1 (.slice ao l.length c) l.length (bv l)

theorem crc_lt (l : List UInt8) : crc l < 4294967296 := xor_lt32 (by decide) (crcAll_lt (by decide) l)
/-- Sum of one part, laid in a block of its own. -/
theorem Sum_one (ao : Option Addr) (c : Nat) (l : List UInt8) (w : World) (t : TypeId) (h : Bs w ao l) (hl : l.length ≤ 9223372036854775807) :
    Calls Tryd.prog 22 #[.slice (some ⟨w.heap.size, 0, none⟩) 1 1] (w.alloc (.cells #[.slice ao l.length c] t)) fun e w' => e = .returned (.int .u32 (crc l : Int)) ∧ w' = w.alloc (.cells #[.slice ao l.length c] t) := by
  have hs := Sum_any w.heap.size 0 1 [l] (w.alloc (.cells #[.slice ao l.length c] t)) (by simp) (fun i p hp => by
    match i, hp with
    | 0, hp =>
      simp only [List.getElem?_cons_zero, Option.some.injEq] at hp
      subst hp
      exact ⟨hl, ao, c, by simp, h.below ((Below.refl _ _).alloc (Nat.le_refl _) _)⟩
    | i + 1, hp => simp at hp)
  rw [show [l].flatten = l by simp] at hs
  exact hs

end Go.Proofs.YtefbhhabeapaaaaDoor.Oct
