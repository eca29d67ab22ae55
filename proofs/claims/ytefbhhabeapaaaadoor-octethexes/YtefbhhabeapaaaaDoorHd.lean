/- heads: what must come at any rate. -/
import Derived.Test.YtefbhhabeapaaaaDoorRd3
import Derived.Test.YtefbhhabeapaaaaDoorSum1
import Derived.Lib.SlBytesConst
namespace Go.Proofs.YtefbhhabeapaaaaDoor.Oct
open Go.RowKit Go.Lib

theorem Copysign_c (w : World) : Calls Tryd.prog 14 #[.float .f64 0, .float .f64 13830554455654793216] w fun e w' => e = .returned (.float .f64 9223372036854775808) ∧ w' = w := by
  have hb := bits64_run
  have hf := from64_run
  have h1 : bits .andNot .u64 0 9223372036854775808 = 0 := u64_andNot_nat 0 9223372036854775808 (by decide) (by decide)
  have h2 : bits .and .u64 13830554455654793216 9223372036854775808 = 9223372036854775808 := u64_and_nat 13830554455654793216 9223372036854775808 (by decide) (by decide)
  have h3 : bits .or .u64 0 9223372036854775808 = 9223372036854775808 := u64_or_nat 0 9223372036854775808 (by decide) (by decide)
  go_enter Tryd.func14, Tryd.ntmps14
  go_wp2
  go_ret
  exact ⟨rfl, rfl⟩
theorem sign_c : decide (wrap64 9223372036854775808 < 0) = true := by decide +kernel
theorem Signbit_c (w : World) : Calls Tryd.prog 20 #[.float .f64 9223372036854775808] w fun e w' => e = .returned (.bool true) ∧ w' = w := by
  have hb := bits64_run
  go_enter Tryd.func20, Tryd.ntmps20
  go_wp2
  go_ret
  exact ⟨congrArg (fun b => Ending.returned (.bool b)) sign_c, rfl⟩
theorem can_c : can64 9223372036854775808 = 9223372036854775808 := by decide +kernel
theorem text_c : textErr [195, 169] = 0 ∧ textBytes [195, 169] = [2, 0, 195, 169] := by decide +kernel
theorem head_c : ((([] : List UInt8) ++ le 2 258) ++ le 8 9223372036854775808) ++ [2, 0, 195, 169] = [2, 1, 0, 0, 0, 0, 0, 0, 0, 128, 2, 0, 195, 169] := by decide +kernel
theorem sum_c : crc [49, 50, 51, 52, 53, 54, 55, 56, 57] = 3808858755 := by decide +kernel
theorem eq_c : (FloatKind.f64.format.order 9223372036854775808 0 == some Ordering.eq) = true := by decide +kernel

set_option maxHeartbeats 1000000 in
set_option maxRecDepth 100000 in
theorem heads_any (w : World) (hT : Tabs w) : Calls Tryd.prog 9 #[] w fun e w' => e = .returned (.bool true) ∧ Below w.heap.size w w' := by
  have hw0 : Wr 5 (w.alloc (.cells #[.slice none 0 0] 38)) w.heap.size ⟨w.heap.size, 0, none⟩ none 0 [] :=
    ⟨by simp, by simp, World.ownsRow_nil _ _ _ _, by simp [ob], by simp⟩
  have hB0 : Below w.heap.size w (w.alloc (.cells #[.slice none 0 0] 38)) := (Below.refl _ _).alloc (Nat.le_refl _) _
  go_enter Tryd.func9, Tryd.ntmps9
  go_wp2_with fail
  refine (U16_any w.heap.size 0 258 [] none 0 _ w.heap.size (by decide) hw0 (by decide)).mono ?_
  rintro e w1 ⟨rfl, a1, c1, hw1, hf1⟩
  have hB1 : Below w.heap.size w w1 := hB0.trans (hf1.below (by simp) (Nat.le_refl _) (fun k hk => by cases hk))
  clear hw0 hB0 hf1
  go_wp2_with fail
  refine (Copysign_c w1).mono ?_
  rintro e w1' ⟨rfl, rfl⟩
  go_wp2_with fail
  refine (F64_any w.heap.size 0 9223372036854775808 _ a1 c1 _ w.heap.size (by decide) hw1 (by decide)).mono ?_
  rintro e w2 ⟨rfl, a2, c2, hw2, hf2⟩
  have hB2 : Below w.heap.size w w2 := hB1.trans (hf2.below hB1.size (Nat.le_refl _) (fun k hk => (hw1.own.lt k (by rw [ob_eq]; exact hk)).1))
  rw [can_c] at hw2
  clear hw1 hB1 hf2
  go_wp2_with fail
  refine (Text_any w.heap.size 0 ⟨#[195, 169]⟩ _ a2 c2 _ w.heap.size hw2 (hT.below hB2) (by decide) (by decide)).mono ?_
  rintro e w3 ⟨rfl, a3, c3, hw3, hf3⟩
  have hB3 : Below w.heap.size w w3 := hB2.trans (hf3.below hB2.size (Nat.le_refl _) (fun k hk => (hw2.own.lt k (by rw [ob_eq]; exact hk)).1))
  rw [show textBytes (ByteArray.mk #[195, 169]).data.toList = [2, 0, 195, 169] from text_c.2, head_c] at hw3
  rw [show textErr (ByteArray.mk #[195, 169]).data.toList = 0 from text_c.1]
  clear hw2 hB2 hf3
  have hc3 := hw3.cell
  have hd3 := Bs.of_own hw3.own
  go_wp2_with fail
  refine (NewReader_any a3 c3 [2, 1, 0, 0, 0, 0, 0, 0, 0, 128, 2, 0, 195, 169] w3 hd3 (by decide) (by decide)).mono ?_
  rintro e w4 ⟨rb, g, c4, rfl, hb4, hr4, hrb, hgb, hc4⟩
  have hB4 : Below w.heap.size w w4 := hB3.trans (hb4.mono hB3.size)
  have hwb : w.heap.size < w3.heap.size := World.block_lt_of_cell? w3 ⟨w.heap.size, 0, none⟩ hc3
  have hc4' := (hb4.cell (p := ⟨w.heap.size, 0, none⟩) hwb).trans hc3
  clear hb4 hw3 hd3 hB3 hc3
  go_wp2_with fail
  refine (U16_of _ _ 258 0 (by decide) _ (number_grown rb 0 g 0 c4 2 _ w4 hr4 (by decide) (by decide) hc4)).mono ?_
  rintro e w5 ⟨rfl, ⟨o5, hr5⟩, hg5, _⟩
  rw [List.drop_succ_cons, List.drop_succ_cons, List.drop_zero] at hr5
  have hB5 : Below w.heap.size w w5 := hB4.grown hg5 hB4.size (fun k hk => by cases hk; omega)
  have hc5 := hg5.cell hc4' (by simp; omega)
  clear hr4 hB4 hc4' hg5
  go_wp2_with fail
  refine (F64_of _ _ 9223372036854775808 0 _ (number_grown rb 0 g o5 (c4 - 2) 8 _ w5 hr5 (by decide) (by decide) (by omega))).mono ?_
  rintro e w6 ⟨rfl, ⟨o6, hr6⟩, hg6, _⟩
  simp only [List.drop_succ_cons, List.drop_zero] at hr6
  have hB6 : Below w.heap.size w w6 := hB5.grown hg6 hB5.size (fun k hk => by cases hk; omega)
  have hc6 := hg6.cell hc5 (by simp; omega)
  clear hr5 hB5 hc5 hg6
  go_wp2_with fail
  refine (RText_ok rb 0 g o6 (c4 - 2 - 8) 2 _ [195, 169] w6 hr6 (by decide) (by decide) (by decide) (by decide) (by omega) rfl (hT.below hB6) ?_).mono ?_
  · intro off1 c1 w1 hT1 hb1 h2
    obtain ⟨g', o', e, hx⟩ := hb1 0 195 rfl
    obtain ⟨g'', o'', e', hy⟩ := hb1 1 169 rfl
    cases e
    cases e'
    exact Valid_e g off1 c1 w1 hT1 h2 hx hy
  rintro e w7 ⟨rfl, ⟨o7, c7, hr7, hc7⟩, hg7⟩
  simp only [List.drop_succ_cons, List.drop_zero, show 2 + 2 = 4 from rfl] at hr7
  have hB7 : Below w.heap.size w w7 := hB6.grown hg7 hB6.size (fun k hk => by cases hk; omega)
  have hc7' := hg7.cell hc6 (by simp; omega)
  clear hr6 hB6 hc6 hg7
  have he := eq_c
  have hcs := fun (w : World) (C : Array Value) (n c : Nat) => Lib.run_convert_bytes_const (P := Tryd.prog) w 22 5 C n c Tryd.underlying22 Tryd.underlying5
  go_wp2_with fail
  refine (Signbit_c w7).mono ?_
  rintro e w8 ⟨rfl, rfl⟩
  go_wp2_with fail
  refine (End_ok rb 0 g o7 c7 w8 hr7).mono ?_
  rintro e w9 ⟨rfl, rfl⟩
  go_wp2_with fail
  refine (Sum_any _ 0 1 [[49, 50, 51, 52, 53, 54, 55, 56, 57]] _ (by decide) ?_).mono ?_
  · intro i p hp
    match i, hp with
    | 0, hp =>
      simp only [List.getElem?_cons_zero, Option.some.injEq] at hp
      subst hp
      refine ⟨by decide, some ⟨w9.heap.size, 0, none⟩, 9, by simp, fun j b hj => ⟨w9.heap.size, 0, rfl, ?_⟩⟩
      match j, hj with
      | 0, hj | 1, hj | 2, hj | 3, hj | 4, hj | 5, hj | 6, hj | 7, hj | 8, hj => simp at hj; subst hj; rw [World.cell?_alloc_past _ _ _ (by simp), World.cell?_alloc_mark]; rfl
      | j + 9, hj => simp at hj
    | i + 1, hp => simp at hp
  rintro e w10 ⟨rfl, rfl⟩
  rw [show crc ([[49, 50, 51, 52, 53, 54, 55, 56, 57]] : List (List UInt8)).flatten = 3808858755 from sum_c]
  go_wp2_with fail
  go_ret
  exact ⟨rfl, (hB7.alloc hB7.size _).alloc (by have := hB7.size; simp; omega) _⟩
end Go.Proofs.YtefbhhabeapaaaaDoor.Oct
