/- The document's Print, as it is walked. -/
import Derived.Test.YteknpejkooemjabDoorV13
namespace Go.Proofs.YteknpejkooemjabDoor.Pau
open Go.RowKit Go.Shelf Go.Proofs.YteknpejkooemjabDoor.Oct Go.Proofs.YteknpejkooemjabDoor.Gt

theorem cat_str (a b : List UInt8) : (⟨a.toArray⟩ : ByteArray) ++ ⟨b.toArray⟩ = ⟨(a ++ b).toArray⟩ := by
  apply ByteArray.ext
  simp
theorem conv_one (u : UInt8) (z : Int) (hz : z = (u.toNat : Int)) (w : World) : (convert 54 9 (.slice (some ⟨w.heap.size, 0, none⟩) 1 1)).run Tryd.prog (w.alloc (.cells #[.int .u8 z] 5)) = .ok (.string ⟨[u].toArray⟩) (w.alloc (.cells #[.int .u8 z] 5)) := by
  subst hz
  refine conv_bs (l := [u]) 54 9 5 Tryd.underlying54 Tryd.underlying5 Tryd.underlying9 ?_
  intro j b hj
  match j, hj with
  | 0, hj =>
    simp at hj
    subst hj
    exact ⟨_, 0, rfl, cell_of_row _ _ 0 _ _ _ (heap_alloc_new _ _)⟩
end Go.Proofs.YteknpejkooemjabDoor.Pau
