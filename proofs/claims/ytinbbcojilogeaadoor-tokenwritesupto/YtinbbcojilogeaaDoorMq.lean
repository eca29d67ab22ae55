/- TokenWrites, as it is walked. -/
import Derived.Test.YtinbbcojilogeaaDoorMp
import Derived.Test.YtinbbcojilogeaaDoorKn
namespace Go.Proofs.YtinbbcojilogeaaDoor.Tok
open Go.RowKit Go.Shelf Go.Proofs.YtinbbcojilogeaaDoor.Oct

theorem wrV_form (R : Option (List UInt8)) : ∃ (S : ByteArray) (E : Int), wrV R = .tuple #[.string S, .int .i64 E] := by
  cases R with
  | none => exact ⟨_, _, rfl⟩
  | some l => exact ⟨_, _, rfl⟩
set_option maxRecDepth 100000 in
set_option maxHeartbeats 2000000 in
theorem xWrites (kd nm o1 o2 o3 : Int) (tx : List UInt8) (hx : tx.length ≤ 140737488355300) (h0 : -9223372036854775808 ≤ nm) (h1 : nm ≤ 9223372036854775807) (ao : Option Addr) (cp : Nat) (ts : List TA) (w : World) (hR : Ta w ao ts) (hi : ∀ t ∈ ts, in64 t.nm) (hb : bulk ts ≤ 1099511627776) (hT : Tx w) :
    Calls Tryd.prog 5 #[.agg #[.int .i64 kd, .string ⟨tx.toArray⟩, .int .i64 nm, .int .i64 o1, .int .i64 o2, .int .i64 o3], .slice ao ts.length cp] w fun e w' => e = .returned (.bool true) ∧ Below w.heap.size w w' := by
  have c1 := fun w hT => nWrite kd nm o1 o2 o3 tx hx h0 h1 w hT
  have c2 := fun w hT => dWrite kd nm o1 o2 o3 tx hx h0 h1 w hT
  have c3 := fun w hR hT => nJoin ao cp ts w hR hi hb hT
  have c4 := fun w hR hT => dJoin ao cp ts w hR hi hb hT
  obtain ⟨S, E, hS⟩ := wrV_form (writeR kd tx nm)
  obtain ⟨S2, E2, hS2⟩ := wrV_form (joinR ts)
  rw [hS] at c1 c2
  rw [hS2] at c3 c4
  have q1 : (S.toList == S.toList) = true := beq_self_eq_true _
  have q2 : (S2.toList == S2.toList) = true := beq_self_eq_true _
  have HR := hide hR
  generalize ts.length = n at *
  generalize (⟨tx.toArray⟩ : ByteArray) = st at *
  clear hS hS2 hR hi
  go_enter Tryd.func5, Tryd.ntmps5
  go_wp2_with fail
  refine (c1 _ (hT.below (below_new _ _))).mono ?_
  rintro e w1 ⟨rfl, hb1⟩
  have hg1 := (hb1.block w.heap.size (by simp)).trans (heap_alloc_new _ _)
  have hbw1 : Below w.heap.size w w1 := (below_new _ _).trans (hb1.mono (by simp))
  have g0 : w1.cell? ⟨w.heap.size, 0, none⟩ = some (.int .i64 kd) := cell_of_row _ _ 0 _ _ _ hg1
  have g1 : w1.cell? ⟨w.heap.size, 1, none⟩ = some (.string st) := cell_of_row _ _ 1 _ _ _ hg1
  have g2 : w1.cell? ⟨w.heap.size, 2, none⟩ = some (.int .i64 nm) := cell_of_row _ _ 2 _ _ _ hg1
  have g3 : w1.cell? ⟨w.heap.size, 3, none⟩ = some (.int .i64 o1) := cell_of_row _ _ 3 _ _ _ hg1
  have g4 : w1.cell? ⟨w.heap.size, 4, none⟩ = some (.int .i64 o2) := cell_of_row _ _ 4 _ _ _ hg1
  have g5 : w1.cell? ⟨w.heap.size, 5, none⟩ = some (.int .i64 o3) := cell_of_row _ _ 5 _ _ _ hg1
  clear hb1 c1 hg1
  go_wp2_with fail
  refine (c2 _ (hT.below hbw1).ten).mono ?_
  rintro e w2 ⟨rfl, hb2⟩
  have hbw2 := hbw1.trans (hb2.mono hbw1.size)
  clear g0 g1 g2 g3 g4 g5 c2 hb2
  go_wp2_with fail
  refine (c3 w2 (HR.out.below hbw2) (hT.below hbw2)).mono ?_
  rintro e w3 ⟨rfl, hb3⟩
  have hbw3 := hbw2.trans (hb3.mono hbw2.size)
  clear c3 hb3
  go_wp2_with fail
  refine (c4 w3 (HR.out.below hbw3) (hT.below hbw3)).mono ?_
  rintro e w4 ⟨rfl, hb4⟩
  have hbw4 := hbw3.trans (hb4.mono hbw3.size)
  have c7 := xAlive w4 (hT.below hbw4)
  clear c4 hb4
  go_wp2_with (go_at_call 21; refine (xNum _ _).mono ?_; rintro e w1 ⟨rfl, hw⟩; obtain rfl := hw.symm)
  refine c7.mono ?_
  rintro e w5 ⟨rfl, hb5⟩
  have hbw5 := hbw4.trans (hb5.mono hbw4.size)
  clear c7
  go_wp2_with fail
  go_ret
  exact ⟨rfl, hbw5⟩
end Go.Proofs.YtinbbcojilogeaaDoor.Tok
