/- OctetHexes, as it is walked. -/
import Derived.Test.YtefbhhabeapaaaaDoorHx6
import Derived.Test.YtefbhhabeapaaaaDoorHd
namespace Go.Proofs.YtefbhhabeapaaaaDoor.Oct
open Go.RowKit

set_option maxRecDepth 100000 in
set_option maxHeartbeats 1000000 in
theorem hexes_any (ao : Option Addr) (c : Nat) (l : List UInt8) (s : ByteArray) (w : World) (h : Bs w ao l) (hl : l.length ≤ 140737488351232) (hs : s.size ≤ 140737488351232) (hT : Tabs w) :
    Calls Tryd.prog 3 #[.slice ao l.length c, .string s] w fun e w' => e = .returned (.bool true) ∧ Below w.heap.size w w' := by
  have cH := Hex_any ao c l w h hl
  have cX := fun W hb => refHex_any ao c l W hb hl
  have hsz : (⟨(hexOf l).toArray⟩ : ByteArray).size = 2 * l.length := by
    show (hexOf l).toArray.size = _
    rw [List.size_toArray, hexOf_length]
  have cU := fun W => Unhex_any ⟨(hexOf l).toArray⟩ W (by rw [hsz]; omega)
  have hd : (⟨(hexOf l).toArray⟩ : ByteArray).data.toList = hexOf l := rfl
  have hB : unhB (hexOf l) = l := by rw [unhB, unh_hexOf]; rfl
  have hE : unhE (hexOf l) = 0 := by rw [unhE, unh_hexOf]; rfl
  rw [hd, hB, hE] at cU
  have cV := fun W => Unhex_any s W (by omega)
  have cR := fun W => refUnhex_any s W hs
  have hE1 : 0 ≤ unhE s.data.toList ∧ unhE s.data.toList ≤ 2 := by unfold unhE; split <;> omega
  have hBl : ∀ (a b : List UInt8), a = b → (a == b) = true := fun a b e => by rw [e]; exact beq_self_eq_true _
  generalize (⟨(hexOf l).toArray⟩ : ByteArray) = S at *
  generalize unhB s.data.toList = B at *
  generalize unhE s.data.toList = E at *
  obtain ⟨hE0, hE2⟩ := hE1
  clear hsz hd hB hE
  go_enter Tryd.func3, Tryd.ntmps3
  go_wp2_with fail
  refine cH.mono ?_
  rintro e w1 ⟨rfl, hb1⟩
  clear cH
  go_wp2_with fail
  refine (cU _).mono ?_
  rintro e w2 ⟨a2, c2, rfl, hb2, ho2⟩
  clear cU
  go_wp2_with fail
  refine (cV _).mono ?_
  rintro e w3 ⟨a3, c3, rfl, hb3, ho3⟩
  clear cV
  go_wp2_with fail
  refine (cR _).mono ?_
  rintro e w4 ⟨a4, c4, rfl, hf4⟩
  clear cR
  have k1 := hb1.size
  have k2 := hb2.size
  have k3 := hb3.size
  have hb4 := hf4.below
  have k4 := hb4.size
  have hx2 : Bs w4 a2 l := ((Bs.of_own ho2).below hb3).below hb4
  have hx3 : Bs w4 a3 B := (Bs.of_own ho3).below hb4
  have hx4 : Bs w4 a4 B := hf4.bs
  have hbw : Below w.heap.size w w4 := ((hb1.trans (hb2.mono (by omega))).trans (hb3.mono (by omega))).trans (hb4.mono (by omega))
  have hx0 : Bs w4 ao l := h.below hbw
  clear ho2 ho3 hf4 hb1 hb2 hb3 hb4
  go_wp2_with fail
  refine (cX _ hx0).mono ?_
  rintro e w5 ⟨rfl, hb5⟩
  clear cX
  have hy0 := hx0.below hb5
  have hy2 := hx2.below hb5
  have hy3 := hx3.below hb5
  have hy4 := hx4.below hb5
  have hbw5 := hbw.trans (hb5.mono (by omega))
  have cA := Alike_any a2 ao c2 c l l w5 hy2 hy0
  rw [hBl l l rfl] at cA
  have cB := Alike_any a3 a4 c3 c4 B B w5 hy3 hy4
  rw [hBl B B rfl] at cB
  have hSS : (S.toList == S.toList) = true := beq_self_eq_true _
  have hEE : (E == E) = true := beq_self_eq_true _
  have cT := heads_any w5 (hT.below hbw5)
  clear hx0 hx2 hx3 hx4 hbw hb5 hy0 hy2 hy3 hy4 hBl h
  go_wp2_with fail
  refine cA.mono ?_
  rintro e w6 ⟨rfl, hw⟩
  obtain rfl := hw.symm
  go_wp2_with fail
  refine cB.mono ?_
  rintro e w6 ⟨rfl, hw⟩
  obtain rfl := hw.symm
  go_wp2_with fail
  refine cT.mono ?_
  rintro e w7 ⟨rfl, hb7⟩
  go_wp2_with fail
  go_ret
  exact ⟨rfl, hbw5.trans (hb7.mono (by have := hbw5.size; omega))⟩
end Go.Proofs.YtefbhhabeapaaaaDoor.Oct
