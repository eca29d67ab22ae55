/- The document's number, as it is walked: one theorem a way. -/
import Derived.Test.YtinbbcojilogeaaDoorMe
namespace Go.Proofs.YtinbbcojilogeaaDoor.Tok
open Go.RowKit Go.Shelf Go.Proofs.YtinbbcojilogeaaDoor.Oct

/-- The byte at a place. -/
def By (s : ByteArray) (j : Nat) (c : UInt8) : Prop := ∀ h : j < s.size, s[j]'h = c
def Digs (s : ByteArray) (a b : Nat) : Prop := ∀ j, a ≤ j → j < b → ∃ c, By s j c ∧ isD c = true
def Stop (s : ByteArray) (L k : Nat) (p : UInt8 → Bool) : Prop := k = L ∨ (k < L ∧ ∃ c, By s k c ∧ p c = false)
/-- Is there a letter at k? -/
def Let (s : ByteArray) (L k : Nat) (lt : Bool) : Prop := (k = L ∧ lt = false) ∨ (k < L ∧ ∃ c, By s k c ∧ isL c = lt)
/-- What number answers. -/
def numV (bd : Bool) (tv : Value) (k : Nat) (x : Int) : Value := if bd = true then .tuple #[tokV 0 [] 0 0 0 0, .int .i64 x, .int .i64 41] else .tuple #[tv, .int .i64 (k : Int), .int .i64 0]
theorem heap_first (w : World) (A B : Obj) : ((w.alloc A).alloc B).heap[w.heap.size]? = some A := (Below.heap_alloc _ _ _ (by simp)).trans (heap_alloc_new _ _)
theorem sub48 (c : UInt8) (h : isD c = true) : 48 ≤ c.toNat ∧ c.toNat ≤ 57 := (isD_iff c).1 h
end Go.Proofs.YtinbbcojilogeaaDoor.Tok
