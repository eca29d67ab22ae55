/-
  DERIVED. GIVEN WITH THE SEED: THE PROGRAM's TIES (one call each: nine closed facts by the kernel) AND EACH ROW's TIE, after the 31st guide's Derived/Test/Toyas{Tie, Card}.lean. No idea stands in it: it is a product of the set-up. Laid BY PROGRAM, IN A SANDBOX (cutbox-door.mjs). By AI agents, Wed Nov 11 2026. No macro, syntax, notation, axiom, sorry.
-/
import Derived.Test.YtpehekonjdneaaaDoorRows
import Derived.LaidByTextLater
import Derived.SevenTiedAt
import Derived.LaidSub
import Derived.LaidOnce
namespace Go.Proofs.YtpehekonjdneaaaDoor
open Go
set_option maxRecDepth 100000
theorem seatTie1 : Tryd.prog.laidByTextLater [("phasor/gate.table", Rows.laid_phasor_gate_table), ("phasor/pauli.signs", Rows.laid_phasor_pauli_signs), ("phasor/pauli.images", Rows.laid_phasor_pauli_images)] [.data, .data, .data] true :=
  Program.laidByTextLater_by_one 85 8 127 (by kernel_rfl) (by kernel_rfl) (by kernel_rfl) (by kernel_rfl) (by kernel_rfl) (by kernel_rfl) (fun _ _ => by kernel_rfl)
theorem noOwnUnsafe : Tryd.pinned.checked.prog.headLifts.contains "ownunsafe" = false := by kernel_rfl
theorem tie : Tryd.prog.laidByTextLater [("phasor/gate.table", Rows.laid_phasor_gate_table), ("phasor/pauli.signs", Rows.laid_phasor_pauli_signs), ("phasor/pauli.images", Rows.laid_phasor_pauli_images)] [.data, .data, .data] true :=
  Program.laidByTextLater.sub seatTie1 ["phasor/gate.table", "phasor/pauli.signs", "phasor/pauli.images"] (by kernel_rfl) (by kernel_rfl)
theorem tableauBack_row_tie : Rows.tableauBackRow.laidByTextAt .later Tryd.pinned [.data, .data, .data] true :=
  OpenClaim.laidByTextAt_later rfl rfl tie noOwnUnsafe
theorem tableauBackUpto_row_tie : Rows.tableauBackUptoRow.laidByTextAt .later Tryd.pinned [.data, .data, .data] true :=
  OpenClaim.laidByTextAt_later rfl rfl tie noOwnUnsafe
end Go.Proofs.YtpehekonjdneaaaDoor
