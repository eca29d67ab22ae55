/-
  DERIVED. GIVEN WITH THE SEED: THE PROGRAM's TIES (one call each: nine closed facts by the kernel) AND EACH ROW's TIE, after the 31st guide's Derived/Test/Toyas{Tie, Card}.lean. No idea stands in it: it is a product of the set-up. Laid BY PROGRAM, IN A SANDBOX (cutbox-door.mjs). By AI agents, Wed Nov 11 2026. No macro, syntax, notation, axiom, sorry.
-/
import Derived.Test.YtjiopaojhenanaaGreatDoorRows
import Derived.LaidByTextLater
import Derived.SevenTiedAt
import Derived.LaidSub
import Derived.LaidOnce
namespace Go.Proofs.YtjiopaojhenanaaGreatDoor
open Go
set_option maxRecDepth 100000
theorem seatTie1 : Tryz.prog.laidByTextLater [("phasor/gate.table", Rows.laid_phasor_gate_table), ("phasor/gate.deeds", Rows.laid_phasor_gate_deeds), ("phasor/rewrite.free", Rows.laid_phasor_rewrite_free)] [.data, .data, .data] true :=
  Program.laidByTextLater_by_one 79 8 137 (by kernel_rfl) (by kernel_rfl) (by kernel_rfl) (by kernel_rfl) (by kernel_rfl) (by kernel_rfl) (fun _ _ => by kernel_rfl)
theorem noOwnUnsafe : Tryz.pinned.checked.prog.headLifts.contains "ownunsafe" = false := by kernel_rfl
theorem tie : Tryz.prog.laidByTextLater [("phasor/gate.table", Rows.laid_phasor_gate_table), ("phasor/gate.deeds", Rows.laid_phasor_gate_deeds), ("phasor/rewrite.free", Rows.laid_phasor_rewrite_free)] [.data, .data, .data] true :=
  Program.laidByTextLater.sub seatTie1 ["phasor/gate.table", "phasor/gate.deeds", "phasor/rewrite.free"] (by kernel_rfl) (by kernel_rfl)
theorem rewriteLinear_row_tie : Rows.rewriteLinearRow.laidByTextAt .later Tryz.pinned [.data, .data, .data] true :=
  OpenClaim.laidByTextAt_later rfl rfl tie noOwnUnsafe
theorem rewriteLinearUpto_row_tie : Rows.rewriteLinearUptoRow.laidByTextAt .later Tryz.pinned [.data, .data, .data] true :=
  OpenClaim.laidByTextAt_later rfl rfl tie noOwnUnsafe
end Go.Proofs.YtjiopaojhenanaaGreatDoor
