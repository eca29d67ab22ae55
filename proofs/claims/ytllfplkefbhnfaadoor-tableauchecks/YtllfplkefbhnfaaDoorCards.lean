/-
  DERIVED. GIVEN WITH THE SEED: THE CARDS: each row of YtllfplkefbhnfaaDoorRows.lean that lists a variable, with what it lists TIED to the program's text (the seventh form; the later family's looks); each row that meets fmt, with fmt's text TOLD by the authors' own Lean function (tested against real Go, not proved from fmt's source: count such statements apart). THE CARD IS WHAT COUNTS. Prove the row's statement (the work); the ties are given (YtllfplkefbhnfaaDoorTie.lean); close each card by the builder's one call (the guide's Derived/Test/ToyasCard.lean, 'card_holds'). Laid BY PROGRAM, IN A SANDBOX (cutbox-door.mjs). By AI agents, Wed Nov 11 2026. No macro, syntax, notation, axiom, sorry.
-/
import Derived.Test.YtllfplkefbhnfaaDoorRows
import GoSem.ClaimSeven
namespace Go.Proofs.YtllfplkefbhnfaaDoor
namespace Rows

/-- THE TIED CARD OF 'phasorlaw14.TableauChecks'. -/
def tableauChecksCard : Claim7 := { stood := { row := tableauChecksRow, standIns := [], harness := (true, "1dfff65116c03d03dd452cfef4c32185a89063e74f956097dcfec08c349bf0c7"), looks := false }, kinds := [], alts := [], laidByText := true, laidKinds := [.data, .data, .data], laidTests := true, laidLooks := .later }
def TableauChecksCardSaid : Prop := Claim7.holds Tryd.pinned (.plain (OpenSpec.ofChange tableauChecksSpec)) tableauChecksCard

/-- THE TIED CARD OF 'phasorlaw14.TableauCanon'. -/
def tableauCanonCard : Claim7 := { stood := { row := tableauCanonRow, standIns := [], harness := (true, "1dfff65116c03d03dd452cfef4c32185a89063e74f956097dcfec08c349bf0c7"), looks := false }, kinds := [], alts := [], laidByText := true, laidKinds := [.data, .data, .data], laidTests := true, laidLooks := .later }
def TableauCanonCardSaid : Prop := Claim7.holds Tryd.pinned (.plain (OpenSpec.ofChange tableauCanonSpec)) tableauCanonCard

/-- THE TIED CARD OF 'phasorlaw14.TableauBack'. -/
def tableauBackCard : Claim7 := { stood := { row := tableauBackRow, standIns := [], harness := (true, "1dfff65116c03d03dd452cfef4c32185a89063e74f956097dcfec08c349bf0c7"), looks := false }, kinds := [], alts := [], laidByText := true, laidKinds := [.data, .data, .data], laidTests := true, laidLooks := .later }
def TableauBackCardSaid : Prop := Claim7.holds Tryd.pinned (.plain (OpenSpec.ofChange tableauBackSpec)) tableauBackCard

/-- THE SECOND FORM's CARD OF 'phasorlaw14.TableauChecks'. -/
def tableauChecksUptoCard : Claim7 := { stood := { row := tableauChecksUptoRow, standIns := [], harness := (true, "1dfff65116c03d03dd452cfef4c32185a89063e74f956097dcfec08c349bf0c7"), looks := false }, kinds := [], alts := [], laidByText := true, laidKinds := [.data, .data, .data], laidTests := true, laidLooks := .later }
def TableauChecksUptoCardSaid : Prop := Claim7.holds Tryd.pinned (.plain (OpenSpec.upto tableauChecksSpec)) tableauChecksUptoCard

/-- THE SECOND FORM's CARD OF 'phasorlaw14.TableauCanon'. -/
def tableauCanonUptoCard : Claim7 := { stood := { row := tableauCanonUptoRow, standIns := [], harness := (true, "1dfff65116c03d03dd452cfef4c32185a89063e74f956097dcfec08c349bf0c7"), looks := false }, kinds := [], alts := [], laidByText := true, laidKinds := [.data, .data, .data], laidTests := true, laidLooks := .later }
def TableauCanonUptoCardSaid : Prop := Claim7.holds Tryd.pinned (.plain (OpenSpec.upto tableauCanonSpec)) tableauCanonUptoCard

/-- THE SECOND FORM's CARD OF 'phasorlaw14.TableauBack'. -/
def tableauBackUptoCard : Claim7 := { stood := { row := tableauBackUptoRow, standIns := [], harness := (true, "1dfff65116c03d03dd452cfef4c32185a89063e74f956097dcfec08c349bf0c7"), looks := false }, kinds := [], alts := [], laidByText := true, laidKinds := [.data, .data, .data], laidTests := true, laidLooks := .later }
def TableauBackUptoCardSaid : Prop := Claim7.holds Tryd.pinned (.plain (OpenSpec.upto tableauBackSpec)) tableauBackUptoCard
end Rows
end Go.Proofs.YtllfplkefbhnfaaDoor
