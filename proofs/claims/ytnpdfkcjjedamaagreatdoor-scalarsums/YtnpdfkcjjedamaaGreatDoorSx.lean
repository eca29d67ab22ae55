/- strconv.FormatFloat(0.125, 'f', 2, 64), step by step. -/
import Derived.Test.YtnpdfkcjjedamaaGreatDoorSk
import Derived.RegionTactic
import Derived.BigRegion
namespace Go.Proofs.YtnpdfkcjjedamaaGreatDoor.Sca
open Go.RowKit Go.Lib Go.Shelf

theorem below_drewN {B : Nat} {w w' : World} (h : Below B w w') (q : Nat) : Below B w (w'.drewN q) := by
  induction q with
  | zero => exact h
  | succ n ih => exact ih.drew
theorem log10_3 (w : World) : Calls Tryz.prog 103 #[.int .i64 3] w fun e w' => e = .returned (.int .i64 0) ∧ w' = w := by
  go_enter Tryz.func103, Tryz.ntmps103
  go_wp2
  go_ret
  exact ⟨rfl, rfl⟩
theorem log10_m3 (w : World) : Calls Tryz.prog 103 #[.int .i64 (-3)] w fun e w' => e = .returned (.int .i64 (-1)) ∧ w' = w := by
  go_enter Tryz.func103, Tryz.ntmps103
  go_wp2
  go_ret
  exact ⟨rfl, rfl⟩
theorem log2_3 (w : World) : Calls Tryz.prog 124 #[.int .i64 3] w fun e w' => e = .returned (.int .i64 9) ∧ w' = w := by
  go_enter Tryz.func124, Tryz.ntmps124
  go_wp2
  go_ret
  exact ⟨rfl, rfl⟩
theorem mul64 (x y : Nat) (hx : x < 18446744073709551616) (hy : y < 18446744073709551616) (w : World) :
    Calls Tryz.prog 143 #[.int .u64 (x : Int), .int .u64 (y : Int)] w fun e w' => e = .returned (.tuple #[.int .u64 ((x * y / 18446744073709551616 : Nat) : Int), .int .u64 ((x * y % 18446744073709551616 : Nat) : Int)]) ∧ w' = w :=
  Any.bits_Mul64 Tryz.laysMul x y hx hy w
theorem bool2u (b : Bool) (w : World) : Calls Tryz.prog 144 #[.bool b] w fun e w' => e = .returned (.int .u64 (if b then 1 else 0)) ∧ w' = w := by
  cases b <;> (go_enter Tryz.func144, Tryz.ntmps144) <;> go_wp2 <;> go_ret <;> exact ⟨rfl, rfl⟩
theorem bool2n (b : Bool) (w : World) : Calls Tryz.prog 145 #[.bool b] w fun e w' => e = .returned (.int .u64 (if b then 1 else 0)) ∧ w' = w := by
  cases b <;> (go_enter Tryz.func145, Tryz.ntmps145) <;> go_wp2 <;> go_ret <;> exact ⟨rfl, rfl⟩
theorem unmin_1000 (w : World) : Calls Tryz.prog 131 #[.int .u64 1000] w fun e w' => e = .returned (.int .u64 3998) ∧ w' = w := by
  go_enter Tryz.func131, Tryz.ntmps131
  go_wp2
  go_ret
  exact ⟨rfl, rfl⟩
theorem round_50 (w : World) : Calls Tryz.prog 129 #[.int .u64 50] w fun e w' => e = .returned (.int .u64 12) ∧ w' = w := by
  go_enter Tryz.func129, Tryz.ntmps129
  go_wp2
  go_ret
  exact ⟨rfl, rfl⟩
theorem div_500 (w : World) : Calls Tryz.prog 132 #[.int .u64 500, .int .u64 10] w fun e w' => e = .returned (.int .u64 50) ∧ ∃ q, w' = w.drewN q := by
  have mixed := mixed_ok
  have cB := fun w => bool2n false w
  go_enter Tryz.func132, Tryz.ntmps132
  go_wp2
  go_big_quiet_o (first | (go_at_call 145; with_reducible refine Calls.quiet_of_same (cB _)))
  go_wp2
  go_ret
  exact ⟨rfl, _, rfl⟩
theorem prescale_c (w : World) (h1 : w.cell? ⟨7, 702, none⟩ = some (.int .u64 18014398509481984000)) (h2 : w.cell? ⟨7, 703, none⟩ = some (.int .u64 0)) :
    Calls Tryz.prog 123 #[.pointer (some ⟨w.heap.size, 0, none⟩), .int .i64 (-66), .int .i64 3, .int .i64 9] (w.alloc (.cells #[.int .u64 0, .int .u64 0, .int .i64 0] 140)) fun e w' => e = .returned (.tuple #[]) ∧ w' = w.alloc (.cells #[.int .u64 18014398509481984000, .int .u64 0, .int .i64 54] 140) := by
  have mixed := mixed_ok
  have hlt : 7 < w.heap.size := World.block_lt_of_cell? w _ h1
  go_enter Tryz.func123, Tryz.ntmps123
  go_wp2
  go_end0
  exact ⟨rfl, rfl⟩
theorem and54 : bits .and .i64 54 63 = 54 := by decide +kernel
theorem or500 : bits .or .u64 500 0 = 500 := by decide +kernel
theorem uscale_c (w : World) (b : Nat) (h0 : w.cell? ⟨b, 0, none⟩ = some (.int .u64 18014398509481984000)) (h1 : w.cell? ⟨b, 1, none⟩ = some (.int .u64 0)) (h2 : w.cell? ⟨b, 2, none⟩ = some (.int .i64 54)) :
    Calls Tryz.prog 125 #[.int .u64 9223372036854775808, .pointer (some ⟨b, 0, none⟩)] w fun e w' => e = .returned (.int .u64 500) ∧ ∃ q, w' = w.drewN q := by
  have mixed := mixed_ok
  have m1 : ∀ w, Calls Tryz.prog 143 #[.int .u64 9223372036854775808, .int .u64 18014398509481984000] w fun e w' => e = .returned (.tuple #[.int .u64 9007199254740992000, .int .u64 0]) ∧ w' = w := fun w => mul64 9223372036854775808 18014398509481984000 (by decide) (by decide) w
  have m2 : ∀ w, Calls Tryz.prog 143 #[.int .u64 9223372036854775808, .int .u64 0] w fun e w' => e = .returned (.tuple #[.int .u64 0, .int .u64 0]) ∧ w' = w := fun w => mul64 9223372036854775808 0 (by decide) (by decide) w
  have bf := fun w => bool2u false w
  have ha := and54
  have ho := or500
  go_enter Tryz.func125, Tryz.ntmps125
  go_wp2_with fail
  refine (m1 _).mono ?_
  rintro e w' ⟨rfl, rfl⟩
  go_wp2_with fail
  refine (m2 _).mono ?_
  rintro e w' ⟨rfl, rfl⟩
  go_wp2_with (go_at_call 144; refine (bf _).mono ?_; rintro e w' ⟨rfl, rfl⟩)
  go_big_quiet_o (first | (go_at_call 144; with_reducible refine Calls.quiet_of_same (bf _)))
  go_wp2
  go_ret
  exact ⟨rfl, _, rfl⟩
/-- The tables that FormatFloat reads here. -/
structure Tf (w : World) : Prop where
  p1 : w.cell? ⟨7, 702, none⟩ = some (.int .u64 18014398509481984000)
  p2 : w.cell? ⟨7, 703, none⟩ = some (.int .u64 0)
  op : w.cell? ⟨2, 0, none⟩ = some (.bool true)
  t1 : w.cell? ⟨6, 1, none⟩ = some (.int .u64 10)
  t3 : w.cell? ⟨6, 3, none⟩ = some (.int .u64 1000)
theorem cell_below {w w' : World} {p : Addr} {v : Value} (h : w.cell? p = some v) (hb : Below w.heap.size w w') : w'.cell? p = some v := (hb.cell (World.block_lt_of_cell? w _ h)).trans h
theorem Tf.below {w w' : World} (h : Tf w) (hb : Below w.heap.size w w') : Tf w' :=
  ⟨cell_below h.p1 hb, cell_below h.p2 hb, cell_below h.op hb, cell_below h.t1 hb, cell_below h.t3 hb⟩
theorem fixedWidth_c (w : World) (h : Tf w) :
    Calls Tryz.prog 104 #[.int .u64 9223372036854775808, .int .i64 (-66), .int .i64 3, .int .i64 2, .int .u8 102] w fun e w' => e = .returned (.tuple #[.int .u64 12, .int .i64 (-2)]) ∧ Below w.heap.size w w' := by
  have mixed := mixed_ok
  have hl1 := World.block_lt_of_cell? w _ h.p1
  have hl3 := World.block_lt_of_cell? w _ h.t3
  obtain ⟨p1, p2, _, _, t3⟩ := h
  have cP := prescale_c w p1 p2
  go_enter Tryz.func104, Tryz.ntmps104
  go_wp2_with (first | (go_at_call 103; refine (log10_m3 _).mono ?_; rintro e w' ⟨rfl, hw⟩; obtain rfl := hw.symm) | (go_at_call 124; refine (log2_3 _).mono ?_; rintro e w' ⟨rfl, hw⟩; obtain rfl := hw.symm))
  refine cP.mono ?_
  rintro e w1 ⟨rfl, rfl⟩
  clear cP
  go_wp2_with fail
  refine (uscale_c _ w.heap.size (by simp) (by simp) (by simp)).mono ?_
  rintro e w1 ⟨rfl, q, rfl⟩
  go_wp2_with (first | (go_at_call 131; refine (unmin_1000 _).mono ?_; rintro e w' ⟨rfl, hw⟩; obtain rfl := hw.symm) | (go_at_call 132; refine (div_500 _).mono ?_; rintro e w' ⟨rfl, q, rfl⟩))
  refine wp_loop_rounds 2 ?_
  rw [rounds_succ]
  go_wp2_with (go_at_call 132; refine (div_500 _).mono ?_; rintro e w' ⟨rfl, q, rfl⟩)
  rw [rounds_succ]
  go_wp2_with (go_at_call 129; refine (round_50 _).mono ?_; rintro e w' ⟨rfl, rfl⟩)
  go_ret2
  exact ⟨rfl, below_drewN ((Below.refl _ _).alloc (Nat.le_refl _) _) _⟩
theorem numDigits_c (w : World) (h : Tf w) : Calls Tryz.prog 102 #[.int .u64 12] w fun e w' => e = .returned (.int .i64 2) ∧ w' = w := by
  have mixed := mixed_ok
  have t1 := h.t1
  have cL : ∀ w, Calls Tryz.prog 60 #[.int .u64 12] w fun e w' => e = .returned (.int .i64 4) ∧ w' = w := fun w => by
    have := len64 12 (by decide) w
    rw [show bl 12 = 4 from by decide +kernel] at this
    exact this
  have cG : ∀ w, Calls Tryz.prog 103 #[.int .i64 4] w fun e w' => e = .returned (.int .i64 1) ∧ w' = w := fun w => by
    go_enter Tryz.func103, Tryz.ntmps103
    go_wp2
    go_ret
    exact ⟨rfl, rfl⟩
  have cB : ∀ w, Calls Tryz.prog 130 #[.bool true] w fun e w' => e = .returned (.int .i64 1) ∧ w' = w := fun w => by
    go_enter Tryz.func130, Tryz.ntmps130
    go_wp2
    go_ret
    exact ⟨rfl, rfl⟩
  clear h
  go_enter Tryz.func102, Tryz.ntmps102
  go_wp2_with (first | (go_at_call 60; refine (cL _).mono ?_; rintro e w' ⟨rfl, hw⟩; obtain rfl := hw.symm) | (go_at_call 103; refine (cG _).mono ?_; rintro e w' ⟨rfl, hw⟩; obtain rfl := hw.symm) | (go_at_call 130; refine (cB _).mono ?_; rintro e w' ⟨rfl, hw⟩; obtain rfl := hw.symm))
  go_ret
  exact ⟨rfl, rfl⟩
/-- Twenty-four bytes, the first two told. -/
abbrev buf24 (a b : Int) : Array Value := #[.int .u8 a, .int .u8 b, .int .u8 0, .int .u8 0, .int .u8 0, .int .u8 0, .int .u8 0, .int .u8 0, .int .u8 0, .int .u8 0, .int .u8 0, .int .u8 0, .int .u8 0, .int .u8 0, .int .u8 0, .int .u8 0, .int .u8 0, .int .u8 0, .int .u8 0, .int .u8 0, .int .u8 0, .int .u8 0, .int .u8 0, .int .u8 0]
/-- Two digits laid into a row. -/
def two12 (w : World) (b : Nat) : World := (w.setCell ⟨b, 1, none⟩ (.int .u8 50)).setCell ⟨b, 0, none⟩ (.int .u8 49)
set_option maxRecDepth 100000 in
theorem base10_c (w : World) (b : Nat) (h0 : w.cell? ⟨b, 0, none⟩ = some (.int .u8 0)) (h1 : w.cell? ⟨b, 1, none⟩ = some (.int .u8 0)) (f0 : w.frozen? ⟨b, 0, none⟩ = false) (f1 : w.frozen? ⟨b, 1, none⟩ = false) :
    Calls Tryz.prog 110 #[.slice (some ⟨b, 0, none⟩) 2 24, .int .u64 12] w fun e w' => e = .returned (.tuple #[]) ∧ ∃ q, w' = (two12 w b).drewN q := by
  have mixed := mixed_ok
  go_enter Tryz.func110, Tryz.ntmps110
  go_wp2
  refine wp_loop_rounds 1 ?_
  rw [rounds_succ]
  go_wp2
  go_region
  go_wp2
  go_end0
  exact ⟨rfl, 1, rfl⟩
end Go.Proofs.YtnpdfkcjjedamaaGreatDoor.Sca
