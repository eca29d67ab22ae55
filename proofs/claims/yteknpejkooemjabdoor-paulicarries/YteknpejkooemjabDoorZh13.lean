/- The document's Parse, as it is walked (gen in NOTES: a theorem for each way of the sign). -/
import Derived.Test.YteknpejkooemjabDoorZp13
namespace Go.Proofs.YteknpejkooemjabDoor.Pau
open Go.RowKit Go.Shelf Go.Proofs.YteknpejkooemjabDoor.Oct Go.Proofs.YteknpejkooemjabDoor.Gt

theorem At4.set0 {w : World} {g : Nat} {a b c d : Value} (h : At4 w g a b c d) (v : Value) : At4 (w.setCell ⟨g, 0, none⟩ v) g v b c d := by
  unfold At4 at *
  simp [World.setCell, Array.getElem?_modify, h]
theorem ba_inj {a b : List UInt8} : (⟨a.toArray⟩ : ByteArray) = ⟨b.toArray⟩ ↔ a = b :=
  ⟨fun h => by have := congrArg (fun s : ByteArray => s.data.toList) h; simpa using this, fun h => by rw [h]⟩
theorem beq_str (a b : List UInt8) : ((⟨a.toArray⟩ : ByteArray).toList == (⟨b.toArray⟩ : ByteArray).toList) = decide (a = b) := by
  rw [ByteArray.toList_eq, ByteArray.toList_eq, Bool.eq_iff_iff, decide_eq_true_eq, beq_iff_eq]
end Go.Proofs.YteknpejkooemjabDoor.Pau
