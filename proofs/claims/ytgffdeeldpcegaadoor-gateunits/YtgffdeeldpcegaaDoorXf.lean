/- GateUnits of every kind. -/
import Derived.Test.YtgffdeeldpcegaaDoorXe2
import Derived.Test.YtgffdeeldpcegaaDoorXe4
import Derived.Test.YtgffdeeldpcegaaDoorXe8
namespace Go.Proofs.YtgffdeeldpcegaaDoor.Gt
open Go.RowKit
theorem xGateUnits (k : Int) (w : World) (hT : Tb w) (hD : Td w) : Calls Tryd.prog 6 #[.int .i64 k] w fun e w' => e = .returned (.bool true) ∧ Below w.heap.size w w' := by
  by_cases hk : 1 ≤ k ∧ k ≤ 20
  · obtain ⟨n, rfl⟩ : ∃ n : Nat, k = (n : Int) := ⟨k.toNat, by omega⟩
    rcases rowsN_is n with h | h | h
    · exact xGateUnits_2 n (by omega) (by omega) h w hT hD
    · exact xGateUnits_4 n (by omega) (by omega) h w hT hD
    · exact xGateUnits_8 n (by omega) (by omega) h w hT hD
  · exact xGateUnits_no k hk w hT hD
end Go.Proofs.YtgffdeeldpcegaaDoor.Gt
