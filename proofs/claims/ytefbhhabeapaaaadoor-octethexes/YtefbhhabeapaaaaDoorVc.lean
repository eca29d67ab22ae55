/- utf8.Valid at the two bytes of é. -/
import Derived.Test.YtefbhhabeapaaaaDoorTxt
import Derived.Deep.QuietTactic
import Derived.BigQuiet
namespace Go.Proofs.YtefbhhabeapaaaaDoor.Oct
open Go.RowKit Go.Lib

set_option maxHeartbeats 1000000 in
set_option maxRecDepth 100000 in
theorem Valid_e (g off c : Nat) (w : World) (hT : Tabs w) (h2 : 2 ≤ c) (h0 : w.cell? ⟨g, off, none⟩ = some (.int .u8 195)) (h1 : w.cell? ⟨g, off + 1, none⟩ = some (.int .u8 169)) :
    Calls Tryd.prog 32 #[.slice (some ⟨g, off, none⟩) 2 c] w fun e w' => e = .returned (.bool true) ∧ Below w.heap.size w w' := by
  have t1 : w.cell? ⟨1, 195, none⟩ = some (.int .u8 2) := hT.1 195 (by decide)
  have t2 : w.cell? ⟨2, 0, none⟩ = some (.int .u8 128) := (hT.2 0 (by decide)).1
  have t3 : w.cell? ⟨2, 1, none⟩ = some (.int .u8 191) := (hT.2 0 (by decide)).2
  have hg : g < w.heap.size := World.block_lt_of_cell? w _ h0
  clear hT
  go_enter Tryd.func32, Tryd.ntmps32
  go_wp2
  refine wp_loop_rounds 2 ?_
  rw [rounds_succ]
  go_wp2_with fail
  go_quiet (fail)
  go_wp2
  rw [rounds_succ]
  go_wp2
  go_ret
  exact ⟨rfl, below_drewN ((Below.refl _ _).alloc (Nat.le_refl _) _) _⟩
end Go.Proofs.YtefbhhabeapaaaaDoor.Oct
