/- TokenFirst, as it is walked. -/
import Derived.Test.YtinbbcojilogeaaDoorKo
import Derived.Test.YtinbbcojilogeaaDoorKn
namespace Go.Proofs.YtinbbcojilogeaaDoor.Tok
open Go.RowKit Go.Shelf Go.Proofs.YtinbbcojilogeaaDoor.Oct

set_option maxRecDepth 100000 in
set_option maxHeartbeats 4000000 in
theorem xFirst (l : List UInt8) (hl : l.length ≤ 1099511627776) (w : World) (hT : Tx w) : Calls Tryd.prog 8 #[str l] w fun e w' => e = .returned (.bool true) ∧ Below w.heap.size w w' := by
  have c1 := nScan l hl w hT.tw
  unfold ScanPost at c1
  have hsz := size_str l
  cases hS : scanAll l with
  | ok ts =>
    rw [hS] at c1
    unfold str at *
    generalize (⟨l.toArray⟩ : ByteArray) = s at *
    go_enter Tryd.func8, Tryd.ntmps8
    go_wp2_with fail
    refine c1.mono ?_
    rintro e w1 ⟨ao, c, rfl, hown, hb1⟩
    have cA := fun o => xAlive (w1.alloc o) (hT.below (hb1.alloc hb1.size o))
    clear hown c1
    go_wp2_with fail
    refine (cA _).mono ?_
    rintro e w2 ⟨rfl, hb2⟩
    have hbw := hb1.trans (((below_new w1 _).trans (hb2.mono (by simp))).mono hb1.size)
    clear cA
    go_wp2_with fail
    go_ret
    exact ⟨rfl, hbw⟩
  | bad F =>
    rw [hS] at c1
    simp only at c1
    obtain ⟨hF1, hF2, hF3⟩ := fault_spot l (l.length + 1) 0 (1, 1) F (Nat.zero_le _) (.inl rfl) rfl (by rw [List.drop_zero]; exact hS)
    obtain ⟨_, _, hA⟩ := ahead (l.length + 1) l 0 (1, 1) F hS
    rw [Nat.sub_zero] at hA
    obtain ⟨ts, hts⟩ := hA ((l.take F.off).length + 1) (1, 1) (by rw [List.length_take]; omega)
    have hS2 : scanAll (l.take F.off) = .ok ts := hts
    have c2 := fun w hT => nScan (l.take F.off) (by rw [List.length_take]; omega) w hT
    have c3 := fun w => nAt l F.off (by omega) (by omega) (by omega) w
    have hat : atOff l.length (F.off : Int) = F.off := by unfold atOff; omega
    rw [hat, hF2] at c3
    unfold spotV at c3
    unfold ScanPost at c2
    rw [hS2] at c2
    simp only at c2
    have hx := ext_take l F.off
    obtain ⟨code, off, line, col⟩ := F
    simp only at *
    have hc1 : ((code : Int) == 0) = false := by rw [beq_eq_false_iff_ne]; omega
    have hc2 : ¬ (code : Int) = 0 := by omega
    have ho1 : ¬ (off : Int) < 0 := by omega
    have ho2 : ¬ (l.length : Int) < (off : Int) := by omega
    unfold str at *
    generalize (⟨l.toArray⟩ : ByteArray) = s at *
    generalize (⟨(l.take off).toArray⟩ : ByteArray) = s1 at *
    clear hS hts hA hF2 hat hS2
    go_enter Tryd.func8, Tryd.ntmps8
    go_wp2_with fail
    refine c1.mono ?_
    rintro e w1 ⟨rfl, hb1⟩
    go_wp2_with fail
    have hg2 := heap_alloc_new w1 (.cells #[.int .i64 (code : Int), .int .i64 (off : Int), .int .i64 (line : Int), .int .i64 (col : Int)] 31)
    have hb2 := hb1.alloc hb1.size (.cells #[.int .i64 (code : Int), .int .i64 (off : Int), .int .i64 (line : Int), .int .i64 (col : Int)] 31)
    generalize w1.alloc (.cells #[.int .i64 (code : Int), .int .i64 (off : Int), .int .i64 (line : Int), .int .i64 (col : Int)] 31) = w2 at *
    generalize w1.heap.size = A at *
    have k1 : w2.cell? ⟨A, 1, none⟩ = some (.int .i64 (off : Int)) := cell_of_row _ _ 1 _ _ _ hg2
    have k2 : w2.cell? ⟨A, 2, none⟩ = some (.int .i64 (line : Int)) := cell_of_row _ _ 2 _ _ _ hg2
    have k3 : w2.cell? ⟨A, 3, none⟩ = some (.int .i64 (col : Int)) := cell_of_row _ _ 3 _ _ _ hg2
    have hd1 : decide ((off : Int) < 0) = false := decide_eq_false (by omega)
    have hd2 : decide ((l.length : Int) < (off : Int)) = false := decide_eq_false (by omega)
    have hd3 : decide (l.length < off) = false := decide_eq_false (by omega)
    have e1 : w2.drew.cell? ⟨A, 1, none⟩ = some (.int .i64 (off : Int)) := k1
    have e2 : w2.drew.cell? ⟨A, 2, none⟩ = some (.int .i64 (line : Int)) := k2
    have e3 : w2.drew.cell? ⟨A, 3, none⟩ = some (.int .i64 (col : Int)) := k3
    clear c1 hb1 ho1 ho2
    go_region_with (go_at_call 9; refine (c3 _).mono ?_; rintro e w3 ⟨rfl, hb3⟩; have d1 := cell_below e1 hb3; have d2 := cell_below e2 hb3; have d3 := cell_below e3 hb3)
    all_goals try go_wp2_with fail
    all_goals
      have hbw3 : Below w.heap.size w w3 := hb2.drew.trans (hb3.mono hb2.size)
      have cS := c2 w3 (hT.below hbw3).tw
      refine cS.mono ?_
      rintro e w4 ⟨ao, c, rfl, hown, hb4⟩
      have hbw4 := hbw3.trans (hb4.mono hbw3.size)
      have cA := fun o => xAlive (w4.alloc o) (hT.below (hbw4.alloc hbw4.size o))
      clear hown c2 c3 cS d1 d2 d3 e1 e2 e3 k1 k2 k3
      go_wp2_with fail
      refine (cA _).mono ?_
      rintro e w5 ⟨rfl, hb5⟩
      have hbw5 := hbw4.trans (((below_new w4 _).trans (hb5.mono (by simp))).mono hbw4.size)
      clear cA
      go_wp2_with fail
      go_ret
      exact ⟨rfl, hbw5⟩
end Go.Proofs.YtinbbcojilogeaaDoor.Tok
