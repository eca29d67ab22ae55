/- TokenSpots, as it is walked. -/
import Derived.Test.YtinbbcojilogeaaDoorMc
namespace Go.Proofs.YtinbbcojilogeaaDoor.Tok
open Go.RowKit Go.Shelf Go.Proofs.YtinbbcojilogeaaDoor.Oct

set_option maxRecDepth 100000 in
set_option maxHeartbeats 2000000 in
theorem xSpots (l : List UInt8) (off : Int) (h1 : -9223372036854775808 ≤ off) (h2 : off ≤ 9223372036854775807) (hl : l.length ≤ 140737488355328) (w : World) (hT : Tx w) :
    Calls Tryd.prog 3 #[str l, .int .i64 off] w fun e w' => e = .returned (.bool true) ∧ Below w.heap.size w w' := by
  have c1 := fun w => nAt l off h1 h2 hl w
  have c2 := fun w => dAt l off h1 h2 hl w
  have c3 := fun w hT => nName' l hl w hT
  have c4 := fun w => dName l hl w
  rw [name_whole] at c3
  unfold spotV at c1 c2
  generalize (spotAt l (atOff l.length off)).1 = p at *
  generalize (spotAt l (atOff l.length off)).2 = q at *
  generalize atOff l.length off = k at *
  generalize nameB l = nb at *
  unfold str at *
  generalize (⟨l.toArray⟩ : ByteArray) = s at *
  go_enter Tryd.func3, Tryd.ntmps3
  go_wp2_with fail
  refine (c1 _).mono ?_
  rintro e w1 ⟨rfl, hb1⟩
  go_wp2_with fail
  refine (c2 _).mono ?_
  rintro e w2 ⟨rfl, hb2⟩
  have hbw2 := hb1.trans (hb2.mono hb1.size)
  have c3' := c3 w2 (hT.below hbw2).tw
  clear c1 c2 c3
  go_wp2_with fail
  refine c3'.mono ?_
  rintro e w3 ⟨rfl, hb3⟩
  have hbw3 := hbw2.trans (hb3.mono hbw2.size)
  have c5 := xAlive w3 (hT.below hbw3)
  clear c3'
  cases nb
  all_goals
    go_wp2_with (go_at_call 12; refine (c4 _).mono ?_; rintro e w1 ⟨rfl, hw⟩; obtain rfl := hw.symm)
    refine c5.mono ?_
    rintro e w4 ⟨rfl, hb4⟩
    have hbw4 := hbw3.trans (hb4.mono hbw3.size)
    clear c4 c5
    go_wp2_with fail
    go_ret
    exact ⟨rfl, hbw4⟩
end Go.Proofs.YtinbbcojilogeaaDoor.Tok
