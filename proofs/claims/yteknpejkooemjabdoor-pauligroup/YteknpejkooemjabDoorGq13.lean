/- The law PauliGroup, as it is walked (gen_gq13.py). -/
import Derived.Test.YteknpejkooemjabDoorGqd13
import Derived.Test.YteknpejkooemjabDoorGqe13
import Derived.Test.YteknpejkooemjabDoorGqf13
import Derived.Test.YteknpejkooemjabDoorGqg13
import Derived.Test.YteknpejkooemjabDoorGqh13
import Derived.Test.YteknpejkooemjabDoorGqi13
import Derived.Test.YteknpejkooemjabDoorGqb13
import Derived.Test.YteknpejkooemjabDoorGqc13
namespace Go.Proofs.YteknpejkooemjabDoor.Pau
open Go.RowKit Go.Shelf Go.Proofs.YteknpejkooemjabDoor.Oct Go.Proofs.YteknpejkooemjabDoor.Gt
theorem xPauliGroup (a b c : P) (ha : Wd a) (hb : Wd b) (hc : Wd c) (w : World) (hT : Tp w) : Calls Tryd.prog 3 #[pV a, pV b, pV c] w fun e w' => e = .returned (.bool true) ∧ Below w.heap.size w w' := by
  cases hf : fitP a b with
  | false =>
    cases hra : rt a with
    | false => exact xGroup_r1 a b c ha hb hc hf hra w hT
    | true =>
      cases hrb : rt b with
      | false => exact xGroup_r2 a b c ha hb hc hf hra hrb w hT
      | true =>
        cases hrc : rt c with
        | false => exact xGroup_r3 a b c ha hb hc hf hra hrb hrc w hT
        | true => exact xGroup_r4 a b c ha hb hc hf hra hrb hrc (fun e => by rw [fit_iff.2 ⟨hra, hrb, e⟩] at hf; cases hf) w hT
  | true =>
    obtain ⟨hra, hrb, hn⟩ := fit_iff.1 hf
    cases hg : fitP b c with
    | false =>
      cases hrc : rt c with
      | false => exact xGroup_r5 a b c ha hb hc hf hg hra hrb hrc w hT
      | true => exact xGroup_r6 a b c ha hb hc hf hg hra hrb hrc hn (fun e => by rw [fit_iff.2 ⟨hrb, hrc, e⟩] at hg; cases hg) w hT
    | true =>
      cases hy : comB a b with
      | true => exact xGroup_yes a b c ha hb hc hf hg hy w hT
      | false => exact xGroup_no a b c ha hb hc hf hg hy w hT
end Go.Proofs.YteknpejkooemjabDoor.Pau
