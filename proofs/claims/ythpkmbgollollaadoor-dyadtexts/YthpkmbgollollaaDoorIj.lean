/- IndexRune of what is no ASCII in a text of the two signs. -/
import Derived.Test.YthpkmbgollollaaDoorId
import Derived.Laws.RangeAny
import Derived.Shelf.Small.Strs
namespace Go.Proofs.YthpkmbgollollaaDoor.Dy
open Go.RowKit Go.Lib Go.Shelf Go.Proofs.YthpkmbgollollaaDoor.Sca

theorem enc_two (r : Nat) (h1 : 128 ≤ r) (h2 : r < 2048) : Utf8.encode (r : Int) = ⟨#[UInt8.ofNat (192 + r / 64), UInt8.ofNat (128 + r % 64)]⟩ := by
  unfold Utf8.encode
  have hv : Utf8.valid (r : Int) = true := by unfold Utf8.valid; simp; omega
  simp only [hv, if_true, Int.toNat_natCast]
  rw [if_neg (by omega), if_pos h2]
theorem enc_more (r : Nat) (h1 : 2048 ≤ r) (hv : Utf8.valid (r : Int) = true) : 3 ≤ (Utf8.encode (r : Int)).size ∧ (Utf8.encode (r : Int)).size ≤ 4 := by
  unfold Utf8.encode
  simp only [hv, if_true, Int.toNat_natCast]
  rw [if_neg (by omega), if_neg (by omega)]
  split
  · exact ⟨Nat.le_refl 3, show 3 ≤ 4 by decide⟩
  · exact ⟨show 3 ≤ 4 by decide, Nat.le_refl 4⟩
theorem vRune (r : Nat) (w : World) : ∃ B, Calls Tryd.prog 92 #[.int .i32 (r : Int)] w (fun e w' => e = .returned (.bool B) ∧ w' = w) ∧ (B = true → Utf8.valid (r : Int) = true) := by
  by_cases h1 : r < 55296
  · refine ⟨true, ?_, fun _ => by unfold Utf8.valid; simp; omega⟩
    have z0 : (0 : Int) ≤ (r : Int) := by omega
    have z1 : (r : Int) < 55296 := by omega
    go_enter Tryd.func92, Tryd.ntmps92
    go_wp2
    go_ret
    exact ⟨rfl, rfl⟩
  · have z0 : (0 : Int) ≤ (r : Int) := by omega
    have z1 : ¬ (r : Int) < 55296 := by omega
    have z1' : decide ((r : Int) < 55296) = false := decide_eq_false z1
    by_cases h2 : 57343 < r
    · have z2 : (57343 : Int) < (r : Int) := by omega
      by_cases h3 : r ≤ 1114111
      · refine ⟨true, ?_, fun _ => by unfold Utf8.valid; simp; omega⟩
        have z3 : (r : Int) ≤ 1114111 := by omega
        go_enter Tryd.func92, Tryd.ntmps92
        go_wp2
        go_ret
        exact ⟨rfl, rfl⟩
      · refine ⟨false, ?_, fun h => by cases h⟩
        have z3 : ¬ (r : Int) ≤ 1114111 := by omega
        have z3' : decide ((r : Int) ≤ 1114111) = false := decide_eq_false z3
        go_enter Tryd.func92, Tryd.ntmps92
        go_wp2
        go_ret
        exact ⟨rfl, rfl⟩
    · refine ⟨false, ?_, fun h => by cases h⟩
      have z2 : ¬ (57343 : Int) < (r : Int) := by omega
      have z2' : decide ((57343 : Int) < (r : Int)) = false := decide_eq_false z2
      go_enter Tryd.func92, Tryd.ntmps92
      go_wp2
      go_ret
      exact ⟨rfl, rfl⟩
set_option maxRecDepth 100000 in
set_option maxHeartbeats 1000000 in
theorem iRune_far (r : Nat) (h : 128 ≤ r) (hr : r ≠ 65533) (w : World) : Calls Tryd.prog 71 #[.string ⟨#[43, 45]⟩, .int .i32 (r : Int)] w fun e w' => e = .returned (.int .i64 (-1)) ∧ Below w.heap.size w w' := by
  have mixed := mixed_ok
  obtain ⟨B, cV, hval⟩ := vRune r w
  have z1 : ¬ (r : Int) < 128 := by omega
  have z1' : decide ((r : Int) < 128) = false := decide_eq_false z1
  have z2 : ((r : Int) == 65533) = false := by rw [beq_eq_false_iff_ne]; omega
  have z0 : decide ((0 : Int) ≤ (r : Int)) = true := decide_eq_true (by omega)
  cases B with
  | false =>
    clear hval
    go_enter Tryd.func71, Tryd.ntmps71
    go_wp2_with fail
    refine cV.mono ?_
    rintro e w1 ⟨rfl, hw⟩
    obtain rfl := hw.symm
    go_wp2_with fail
    go_ret
    exact ⟨rfl, Below.refl _ _⟩
  | true =>
    have hv := hval rfl
    by_cases h2 : r < 2048
    · have he := enc_two r h h2
      have cB := fun w => Any.strings_IndexByte { Tryd.laysIndexRune with } ⟨#[]⟩ ((UInt8.ofNat (128 + r % 64)).toNat : Int) w
      rw [show Lib.indexByte (⟨#[]⟩ : ByteArray).data.toList _ = -1 from rfl] at cB
      have hb1 : (UInt8.ofNat (128 + r % 64)).toNat = 128 + r % 64 := UInt8.toNat_ofNat_of_lt' (by show 128 + r % 64 < 256; omega)
      have hne : (45 : UInt8) ≠ UInt8.ofNat (128 + r % 64) := fun e => by have := congrArg UInt8.toNat e; rw [hb1] at this; have h45 : (45 : UInt8).toNat = 45 := rfl; omega
      have hx : ((45 : Int) != ((UInt8.ofNat (128 + r % 64)).toNat : Int)) = true := by rw [bne_iff_ne, hb1]; omega
      generalize UInt8.ofNat (192 + r / 64) = b0 at *
      generalize UInt8.ofNat (128 + r % 64) = b1 at *
      clear hval hr
      go_enter Tryd.func71, Tryd.ntmps71
      go_wp2_with fail
      refine cV.mono ?_
      rintro e w1 ⟨rfl, hw⟩
      obtain rfl := hw.symm
      go_wp2_with fail
      go_step3
      go_wp2_with fail
      go_loopw [9] (fun vi wr => vi = .int .i64 1 ∧ wr = w) (fun _ _ => 0)
      case atStart => exact ⟨rfl, rfl⟩
      case round =>
        obtain ⟨rfl, rfl⟩ := hrel
        clear he hne hb1 h2 hv cV z0 z1 z1' z2 h
        have hlt1 : 1 < (⟨#[b0, b1]⟩ : ByteArray).size := by show 1 < 2; decide
        have cB' : ∀ w, Calls Tryd.prog 91 #[.string ByteArray.empty, .int .u8 (((⟨#[b0, b1]⟩ : ByteArray)[1]'hlt1).toNat : Int)] w fun e w' => e = .returned (.int .i64 (-1)) ∧ w' = w := cB
        have hlt0 : 1 < (⟨#[43, 45]⟩ : ByteArray).size := by decide
        have hx' : ((((⟨#[43, 45]⟩ : ByteArray)[1]'hlt0).toNat : Int) != (((⟨#[b0, b1]⟩ : ByteArray)[1]'hlt1).toNat : Int)) = true := hx
        clear cB hx
        go_wp2_with fail
        go_step3
        go_wp2_with fail
        go_big_quiet_o (fail)
        go_wp2_with fail
        have hb0 : Below wr.heap.size wr (wr.drewN nq) := below_drewN (Below.refl _ _) nq
        generalize wr.drewN nq = W0 at *
        refine wp_region_quiet_lit (by kernel_rfl) (by kernel_rfl) ?_
        repeat (go_big_quiet_step (fail))
        go_big_quiet_want
        go_big_quiet_op
        apply Exists.intro
        refine ⟨fun _ => ?_, ?_⟩
        · exact Calls.quiet_of_same (cB' _)
        go_big_quiet_on
        repeat (go_big_quiet_step (fail))
        refine wpQuiet_nil ?_
        intro _ hw'
        obtain ⟨nq2, hw2⟩ := hw'
        subst hw2
        have hbF : Below wr.heap.size wr (W0.drewN nq2) := below_drewN hb0 nq2
        go_wp2_with fail
        simp +zetaDelta only [Exit.noGoto_ret, Exit.inBlock, Exit.then]
        go_ret
        exact ⟨rfl, hbF⟩
    · have hs := enc_more r (by omega) hv
      obtain ⟨rs, he⟩ : ∃ rs, Utf8.encode (r : Int) = rs := ⟨_, rfl⟩
      rw [he] at hs
      clear hval hr
      go_enter Tryd.func71, Tryd.ntmps71
      go_wp2_with fail
      refine cV.mono ?_
      rintro e w1 ⟨rfl, hw⟩
      obtain rfl := hw.symm
      have hsi : 3 ≤ (rs.size : Int) := by omega
      have hsj : (rs.size : Int) ≤ 4 := by omega
      have hlt2 : ¬ ((rs.size : Int) - 1 < 2) := by omega
      have hlt2' : decide ((rs.size : Int) - 1 < 2) = false := decide_eq_false hlt2
      go_wp2_with fail
      go_step3
      go_wp2_with fail
      go_loopw [9] (fun vi wr => vi = .int .i64 ((rs.size : Int) - 1) ∧ wr = w) (fun _ _ => 0)
      case atStart => exact ⟨rfl, rfl⟩
      case round =>
        obtain ⟨rfl, rfl⟩ := hrel
        go_wp2_with fail
        rw [Exit.noGoto_ret]
        go_ret
        exact ⟨rfl, Below.refl _ _⟩
end Go.Proofs.YthpkmbgollollaaDoor.Dy
