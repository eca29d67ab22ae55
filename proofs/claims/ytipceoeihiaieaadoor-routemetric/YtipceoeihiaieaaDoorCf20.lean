/- Layer 20: the law of distances, of a map that is none. -/
import Derived.Test.YtipceoeihiaieaaDoorCc20
namespace Go.Proofs.YtipceoeihiaieaaDoor.Rou
open Go.RowKit

set_option maxRecDepth 100000 in
set_option maxHeartbeats 2000000 in
theorem xMetric_no (N : Int) (ps : List Pr) (ao : Option Addr) (k : Nat) (a b c : Int) (hR : ¬ RtP N ps) (hl : ps.length ≤ 1000000000000000) (w : World) (hA : PA w ao ps) (hG : GT w) : Calls Tryd.prog 3 #[.agg #[.int .i64 N, .slice ao ps.length k], .int .i64 a, .int .i64 b, .int .i64 c] w fun e w' => e = .returned (.bool true) ∧ Below w.heap.size w w' := by
  have cf := fun W h => rFarR N ps ao k 0 200 (.inl ⟨hR, rfl, rfl⟩) hl W h
  have HG := hide hG
  have HB := hide (bnew w (.cells #[.int .i64 N, .slice ao ps.length k] 24))
  have HA := hide (hA.below HB.out)
  have HM := hide (heap_alloc_new w (.cells #[.int .i64 N, .slice ao ps.length k] 24))
  obtain ⟨x0, x1, x2⟩ := m_cells HM.out
  generalize ps.length = n at *
  clear hA hG hR
  go_enter Tryd.func3, Tryd.ntmps3
  go_wp2_with (first | (go_at_call 4; (with_reducible refine Calls.mono (cf _ HA.out) ?_); rintro e w1 ⟨⟨d1, c1, g0, G, K, rfl, -⟩, hb1⟩; have HB1 := hide (bkp HB.out hb1); clear hb1) | (go_at_call 5; (with_reducible refine Calls.mono (rNumZ _ _) ?_); rintro e w9 ⟨rfl, rfl⟩) | (go_at_call 6; (with_reducible refine Calls.mono (rAlive _ (HG.out.below HB1.out)) ?_); rintro e w7 ⟨rfl, hb7⟩; have HB7 := hide (bkp HB1.out hb7); clear hb7))
  go_ret
  exact ⟨rfl, HB7.out⟩
end Go.Proofs.YtipceoeihiaieaaDoor.Rou
