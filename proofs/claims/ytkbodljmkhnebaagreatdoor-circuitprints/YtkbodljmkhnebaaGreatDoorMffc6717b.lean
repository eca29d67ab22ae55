/- The document's Print, every circuit that may be (gen_dj8.py). -/
import Derived.Test.YtkbodljmkhnebaaGreatDoorMf4d7d606
import Derived.Test.YtkbodljmkhnebaaGreatDoorM8fb2d26a
import Derived.Test.YtkbodljmkhnebaaGreatDoorMd4dc0e15
import Derived.Test.YtkbodljmkhnebaaGreatDoorM0ae2eee1
import Derived.Test.YtkbodljmkhnebaaGreatDoorM9f973513
/- The document's Print, every circuit that may be (gen_dj8.py). -/
namespace Go.Proofs.YtkbodljmkhnebaaGreatDoor.Cir
open Go.RowKit Go.Shelf Go.Proofs.YtkbodljmkhnebaaGreatDoor.Oct Go.Proofs.YtkbodljmkhnebaaGreatDoor.Tok Go.Proofs.YtkbodljmkhnebaaGreatDoor.Gt

theorem ePrint (c : Circ) (ao : Option Addr) (k : Nat) (hk : (chkC c).2 = 0) (w : World) (h10 : T10 w) (hC : Ci w c ao k) : Calls Tryz.prog 28 #[cV c ao k] w fun e w' => e = .returned (.tuple #[.string ⟨(prP c).toArray⟩, .int .i64 0]) ∧ Below w.heap.size w w' := by
  by_cases hq : 0 < c.q
  · by_cases hb : 0 < c.b
    · exact ePrint_tt c ao k hk hq hb w h10 hC
    · exact ePrint_tf c ao k hk hq hb w h10 hC
  · by_cases hb : 0 < c.b
    · exact ePrint_ft c ao k hk hq hb w h10 hC
    · exact ePrint_ff c ao k hk hq hb w h10 hC
end Go.Proofs.YtkbodljmkhnebaaGreatDoor.Cir
/- The law CircuitPrints, as it is walked. -/
namespace Go.Proofs.YtkbodljmkhnebaaGreatDoor.Cir
open Go.RowKit Go.Shelf Go.Proofs.YtkbodljmkhnebaaGreatDoor.Oct Go.Proofs.YtkbodljmkhnebaaGreatDoor.Tok Go.Proofs.YtkbodljmkhnebaaGreatDoor.Gt

theorem prints_same (c : Circ) (ao : Option Addr) (k : Nat) (w : World) (hT : Tq w) (hC : Ci w c ao k) : ∃ (S : ByteArray) (z : Int), (∀ V, Below w.heap.size w V → Calls Tryz.prog 27 #[cV c ao k] V fun e w' => e = .returned (.tuple #[.string S, .int .i64 z]) ∧ Below V.heap.size V w') ∧ (∀ V, Below w.heap.size w V → Calls Tryz.prog 28 #[cV c ao k] V fun e w' => e = .returned (.tuple #[.string S, .int .i64 z]) ∧ Below V.heap.size V w') := by
  by_cases hk : (chkC c).2 = 0
  · exact ⟨_, _, fun V h => cPrint c ao k hk V (hT.below h).tb (hT.below h).tx.ten (hC.below h), fun V h => ePrint c ao k hk V (hT.below h).tx.ten (hC.below h)⟩
  · refine ⟨⟨#[]⟩, 80, fun V h => ?_, fun V h => ePrint_no c ao k hk V (hC.below h)⟩
    have := cPrint_no c ao k hk V (hT.below h).tb (hC.below h)
    rw [chkC_80 c hk] at this
    exact this
set_option maxRecDepth 100000 in
set_option maxHeartbeats 2000000 in
theorem xCircuitPrints (c : Circ) (ao : Option Addr) (k : Nat) (w : World) (hT : Tq w) (hC : Ci w c ao k) : Calls Tryz.prog 6 #[cV c ao k] w fun e w' => e = .returned (.bool true) ∧ Below w.heap.size w w' := by
  obtain ⟨S, z, c1, c2⟩ := prints_same c ao k w hT hC
  have c4 := fun V (h : Below w.heap.size w V) => aAlive V (hT.below h)
  obtain ⟨q, b, l⟩ := c
  unfold cV at *
  simp only at *
  generalize l.length = n at *
  clear hC hT
  have HK : Hid (∀ V, Below (w.alloc (.cells #[.int .i64 q, .int .i64 b, .slice ao n k] 24)).heap.size (w.alloc (.cells #[.int .i64 q, .int .i64 b, .slice ao n k] 24)) V → V.cell? ⟨w.heap.size, 0, none⟩ = some (.int .i64 q) ∧ V.cell? ⟨w.heap.size, 1, none⟩ = some (.int .i64 b) ∧ V.cell? ⟨w.heap.size, 2, none⟩ = some (.slice ao n k) ∧ w.heap.size < V.heap.size) := hide (fun V hV => def_cells ((hV.block w.heap.size (by simp)).trans (heap_alloc_new w _)))
  have HB0 := hide (bnew w (.cells #[.int .i64 q, .int .i64 b, .slice ao n k] 24))
  go_enter Tryz.func6, Tryz.ntmps6
  go_wp2_with fail
  refine (c1 _ HB0.out).mono ?_
  rintro e w1 ⟨rfl, hb1⟩
  obtain ⟨x0, x1, x2, x3⟩ := HK.out w1 hb1
  have hw1 := bel_keep HB0.out hb1
  go_wp2_with fail
  refine (c2 _ hw1).mono ?_
  rintro e w2 ⟨rfl, hb2⟩
  have hw2 := bel_keep hw1 hb2
  clear x0 x1 x2 x3 c1 c2
  go_wp2_with (first
    | (go_at_call 13; (with_reducible refine Calls.mono (aNum _ _) ?_); rintro e v ⟨rfl, rfl⟩)
    | (go_at_call 23; (with_reducible refine Calls.mono (c4 _ hw2) ?_); rintro e w3 ⟨rfl, hb3⟩))
  go_ret
  exact ⟨rfl, bel_keep hw2 hb3⟩
end Go.Proofs.YtkbodljmkhnebaaGreatDoor.Cir
