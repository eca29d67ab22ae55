/-
  DERIVED. GIVEN WITH THE SEED: THE CARDS: each row of YtkbodljmkhnebaaGreatDoorRows.lean that lists a variable, with what it lists TIED to the program's text (the seventh form; the later family's looks); each row that meets fmt, with fmt's text TOLD by the authors' own Lean function (tested against real Go, not proved from fmt's source: count such statements apart). THE CARD IS WHAT COUNTS. Prove the row's statement (the work); the ties are given (YtkbodljmkhnebaaGreatDoorTie.lean); close each card by the builder's one call (the guide's Derived/Test/ToyasCard.lean, 'card_holds'). Laid BY PROGRAM, IN A SANDBOX (cutbox-door.mjs). By AI agents, Wed Nov 11 2026. No macro, syntax, notation, axiom, sorry.
-/
import Derived.Test.YtkbodljmkhnebaaGreatDoorRows
import GoSem.ClaimSeven
namespace Go.Proofs.YtkbodljmkhnebaaGreatDoor
namespace Rows

/-- THE TIED CARD OF 'phasorlaw08.CircuitChecks'. -/
def circuitChecksCard : Claim7 := { stood := { row := circuitChecksRow, standIns := [], harness := (true, "72d1c0333b7628908687e7789cc65187d59c6f1336d1e7009aefb8d0652cedaa"), looks := true }, kinds := [], alts := [], laidByText := true, laidKinds := [.data, .data, .data, .handle, .sentinel, .sentinel, .data, .data], laidTests := true, laidLooks := .later }
def CircuitChecksCardSaid : Prop := Claim7.holds Tryz.pinned (.plain (OpenSpec.ofChange circuitChecksSpec)) circuitChecksCard

/-- THE TIED CARD OF 'phasorlaw08.CircuitSame'. -/
def circuitSameCard : Claim7 := { stood := { row := circuitSameRow, standIns := [], harness := (true, "72d1c0333b7628908687e7789cc65187d59c6f1336d1e7009aefb8d0652cedaa"), looks := true }, kinds := [], alts := [], laidByText := true, laidKinds := [.data, .data, .data, .handle, .sentinel, .sentinel, .data, .data], laidTests := true, laidLooks := .later }
def CircuitSameCardSaid : Prop := Claim7.holds Tryz.pinned (.plain (OpenSpec.ofChange circuitSameSpec)) circuitSameCard

/-- THE TIED CARD OF 'phasorlaw08.CircuitParses'. -/
def circuitParsesCard : Claim7 := { stood := { row := circuitParsesRow, standIns := [], harness := (true, "72d1c0333b7628908687e7789cc65187d59c6f1336d1e7009aefb8d0652cedaa"), looks := true }, kinds := [], alts := [], laidByText := true, laidKinds := [.data, .data, .data, .handle, .sentinel, .sentinel, .data, .data], laidTests := true, laidLooks := .later }
def CircuitParsesCardSaid : Prop := Claim7.holds Tryz.pinned (.plain (OpenSpec.ofChange circuitParsesSpec)) circuitParsesCard

/-- THE TIED CARD OF 'phasorlaw08.CircuitPrints'. -/
def circuitPrintsCard : Claim7 := { stood := { row := circuitPrintsRow, standIns := [], harness := (true, "72d1c0333b7628908687e7789cc65187d59c6f1336d1e7009aefb8d0652cedaa"), looks := true }, kinds := [], alts := [], laidByText := true, laidKinds := [.data, .data, .data, .handle, .sentinel, .sentinel, .data, .data], laidTests := true, laidLooks := .later }
def CircuitPrintsCardSaid : Prop := Claim7.holds Tryz.pinned (.plain (OpenSpec.ofChange circuitPrintsSpec)) circuitPrintsCard

/-- THE TIED CARD OF 'phasorlaw08.CircuitBack'. -/
def circuitBackCard : Claim7 := { stood := { row := circuitBackRow, standIns := [], harness := (true, "72d1c0333b7628908687e7789cc65187d59c6f1336d1e7009aefb8d0652cedaa"), looks := true }, kinds := [], alts := [], laidByText := true, laidKinds := [.data, .data, .data, .handle, .sentinel, .sentinel, .data, .data], laidTests := true, laidLooks := .later }
def CircuitBackCardSaid : Prop := Claim7.holds Tryz.pinned (.plain (OpenSpec.ofChange circuitBackSpec)) circuitBackCard

/-- THE TIED CARD OF 'phasorlaw08.CircuitSilent'. -/
def circuitSilentCard : Claim7 := { stood := { row := circuitSilentRow, standIns := [], harness := (true, "72d1c0333b7628908687e7789cc65187d59c6f1336d1e7009aefb8d0652cedaa"), looks := true }, kinds := [], alts := [], laidByText := true, laidKinds := [.data, .data, .data, .handle, .sentinel, .sentinel, .data, .data], laidTests := true, laidLooks := .later }
def CircuitSilentCardSaid : Prop := Claim7.holds Tryz.pinned (.plain (OpenSpec.ofChange circuitSilentSpec)) circuitSilentCard

/-- THE SECOND FORM's CARD OF 'phasorlaw08.CircuitChecks'. -/
def circuitChecksUptoCard : Claim7 := { stood := { row := circuitChecksUptoRow, standIns := [], harness := (true, "72d1c0333b7628908687e7789cc65187d59c6f1336d1e7009aefb8d0652cedaa"), looks := true }, kinds := [], alts := [], laidByText := true, laidKinds := [.data, .data, .data, .handle, .sentinel, .sentinel, .data, .data], laidTests := true, laidLooks := .later }
def CircuitChecksUptoCardSaid : Prop := Claim7.holds Tryz.pinned (.plain (OpenSpec.upto circuitChecksSpec)) circuitChecksUptoCard

/-- THE SECOND FORM's CARD OF 'phasorlaw08.CircuitSame'. -/
def circuitSameUptoCard : Claim7 := { stood := { row := circuitSameUptoRow, standIns := [], harness := (true, "72d1c0333b7628908687e7789cc65187d59c6f1336d1e7009aefb8d0652cedaa"), looks := true }, kinds := [], alts := [], laidByText := true, laidKinds := [.data, .data, .data, .handle, .sentinel, .sentinel, .data, .data], laidTests := true, laidLooks := .later }
def CircuitSameUptoCardSaid : Prop := Claim7.holds Tryz.pinned (.plain (OpenSpec.upto circuitSameSpec)) circuitSameUptoCard

/-- THE SECOND FORM's CARD OF 'phasorlaw08.CircuitParses'. -/
def circuitParsesUptoCard : Claim7 := { stood := { row := circuitParsesUptoRow, standIns := [], harness := (true, "72d1c0333b7628908687e7789cc65187d59c6f1336d1e7009aefb8d0652cedaa"), looks := true }, kinds := [], alts := [], laidByText := true, laidKinds := [.data, .data, .data, .handle, .sentinel, .sentinel, .data, .data], laidTests := true, laidLooks := .later }
def CircuitParsesUptoCardSaid : Prop := Claim7.holds Tryz.pinned (.plain (OpenSpec.upto circuitParsesSpec)) circuitParsesUptoCard

/-- THE SECOND FORM's CARD OF 'phasorlaw08.CircuitPrints'. -/
def circuitPrintsUptoCard : Claim7 := { stood := { row := circuitPrintsUptoRow, standIns := [], harness := (true, "72d1c0333b7628908687e7789cc65187d59c6f1336d1e7009aefb8d0652cedaa"), looks := true }, kinds := [], alts := [], laidByText := true, laidKinds := [.data, .data, .data, .handle, .sentinel, .sentinel, .data, .data], laidTests := true, laidLooks := .later }
def CircuitPrintsUptoCardSaid : Prop := Claim7.holds Tryz.pinned (.plain (OpenSpec.upto circuitPrintsSpec)) circuitPrintsUptoCard

/-- THE SECOND FORM's CARD OF 'phasorlaw08.CircuitBack'. -/
def circuitBackUptoCard : Claim7 := { stood := { row := circuitBackUptoRow, standIns := [], harness := (true, "72d1c0333b7628908687e7789cc65187d59c6f1336d1e7009aefb8d0652cedaa"), looks := true }, kinds := [], alts := [], laidByText := true, laidKinds := [.data, .data, .data, .handle, .sentinel, .sentinel, .data, .data], laidTests := true, laidLooks := .later }
def CircuitBackUptoCardSaid : Prop := Claim7.holds Tryz.pinned (.plain (OpenSpec.upto circuitBackSpec)) circuitBackUptoCard

/-- THE SECOND FORM's CARD OF 'phasorlaw08.CircuitSilent'. -/
def circuitSilentUptoCard : Claim7 := { stood := { row := circuitSilentUptoRow, standIns := [], harness := (true, "72d1c0333b7628908687e7789cc65187d59c6f1336d1e7009aefb8d0652cedaa"), looks := true }, kinds := [], alts := [], laidByText := true, laidKinds := [.data, .data, .data, .handle, .sentinel, .sentinel, .data, .data], laidTests := true, laidLooks := .later }
def CircuitSilentUptoCardSaid : Prop := Claim7.holds Tryz.pinned (.plain (OpenSpec.upto circuitSilentSpec)) circuitSilentUptoCard
end Rows
end Go.Proofs.YtkbodljmkhnebaaGreatDoor
