/- The law PauliCarries. -/
import Derived.Test.YteknpejkooemjabDoorCfa13
import Derived.Test.YteknpejkooemjabDoorCfb13
namespace Go.Proofs.YteknpejkooemjabDoor.Pau
open Go.RowKit Go.Shelf Go.Proofs.YteknpejkooemjabDoor.Oct Go.Proofs.YteknpejkooemjabDoor.Gt

theorem xPauliCarries (a b : P) (ha : Wd a) (hb : Wd b) (k : Int) (l : List Int) (hl : l.length ≤ 17592186044415) (ao : Option Addr) (c : Nat) (hc : l.length ≤ c) (w : World) (hT : Tp w) (hN : Ns w ao l) : Calls Tryd.prog 4 #[pV a, pV b, .int .i64 k, .slice ao l.length c] w fun e w' => e = .returned (.bool true) ∧ Below w.heap.size w w' := by
  cases hf : thrOk k l a with
  | false => exact xCarries_r1 a b ha hb k l hl hf ao c hc w hT hN
  | true =>
    cases hg : thrOk k l b with
    | false => exact xCarries_r2 a b ha hb k l hl hf hg ao c hc w hT hN
    | true =>
      by_cases hn : a.n = b.n
      · exact xCarries_m a b ha hb k l hl hf hg hn ao c hc w hT hN
      · exact xCarries_r3 a b ha hb k l hl hf hg hn ao c hc w hT hN
end Go.Proofs.YteknpejkooemjabDoor.Pau
