/-
  DERIVED. GIVEN WITH THE SEED: THE PROGRAM's TIES (one call each: nine closed facts by the kernel) AND EACH ROW's TIE, after the 31st guide's Derived/Test/Toyas{Tie, Card}.lean. No idea stands in it: it is a product of the set-up. Laid BY PROGRAM, IN A SANDBOX (cutbox-door.mjs). By AI agents, Wed Nov 11 2026. No macro, syntax, notation, axiom, sorry.
-/
import Derived.Test.YtmkalhaegbnknaaDoorRows
import Derived.LaidByTextLater
import Derived.SevenTiedAt
import Derived.LaidSub
import Derived.LaidOnce
namespace Go.Proofs.YtmkalhaegbnknaaDoor
open Go
set_option maxRecDepth 100000
theorem seatTie1 : Tryd.prog.laidByTextLater [("phasor/gate.table", Rows.laid_phasor_gate_table), ("phasor/invert.conjugates", Rows.laid_phasor_invert_conjugates), ("phasor/invert.controlled", Rows.laid_phasor_invert_controlled)] [.data, .data, .data] true :=
  Program.laidByTextLater_by_one 64 8 127 (by kernel_rfl) (by kernel_rfl) (by kernel_rfl) (by kernel_rfl) (by kernel_rfl) (by kernel_rfl) (fun _ _ => by kernel_rfl)
theorem noOwnUnsafe : Tryd.pinned.checked.prog.headLifts.contains "ownunsafe" = false := by kernel_rfl
theorem tie : Tryd.prog.laidByTextLater [("phasor/gate.table", Rows.laid_phasor_gate_table), ("phasor/invert.conjugates", Rows.laid_phasor_invert_conjugates), ("phasor/invert.controlled", Rows.laid_phasor_invert_controlled)] [.data, .data, .data] true :=
  Program.laidByTextLater.sub seatTie1 ["phasor/gate.table", "phasor/invert.conjugates", "phasor/invert.controlled"] (by kernel_rfl) (by kernel_rfl)
theorem invertMakes_row_tie : Rows.invertMakesRow.laidByTextAt .later Tryd.pinned [.data, .data, .data] true :=
  OpenClaim.laidByTextAt_later rfl rfl tie noOwnUnsafe
theorem invertMakesUpto_row_tie : Rows.invertMakesUptoRow.laidByTextAt .later Tryd.pinned [.data, .data, .data] true :=
  OpenClaim.laidByTextAt_later rfl rfl tie noOwnUnsafe
end Go.Proofs.YtmkalhaegbnknaaDoor
