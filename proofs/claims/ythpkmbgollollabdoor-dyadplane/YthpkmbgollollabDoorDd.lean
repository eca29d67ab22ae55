/- The program's halved, Make. -/
import Derived.Test.YthpkmbgollollabDoorDc
namespace Go.Proofs.YthpkmbgollollabDoor.Dy
open Go.RowKit Go.Shelf Go.Proofs.YthpkmbgollollabDoor.Sca

theorem Below.drew' {B : Nat} {a w : World} (h : Below B a w) : Below B a w.drew := below_drewN h 1
/-- A dyad and an error, as a value. -/
def aV (r : DD × Int) : Value := .tuple #[dV r.1, .int .i64 r.2]
theorem ctz_le (x : Nat) (h : x < 18446744073709551616) : Lib.ctz 64 x ≤ 64 := by
  by_cases h0 : x = 0
  · rw [h0]; decide
  · have := (tz_spec x h0 h).2
    unfold tz at this
    omega
theorem halve_val {re im : Int} (hr : i64 re) (hi : i64 im) (e : Nat) (he : re = 0 ∧ im = 0 → e ≤ 64) :
    lst e re im = ⟨re / 2 ^ min e (Lib.ctz 64 (un re ||| un im)), im / 2 ^ min e (Lib.ctz 64 (un re ||| un im)), ((e - min e (Lib.ctz 64 (un re ||| un im)) : Nat) : Int)⟩ := by
  refine halve_char hr.1 hr.2 hi.1 hi.2 _ e (fun h => by rw [h]; rfl) (fun h => tz_spec _ h (orU_lt re im)) (fun h => he ?_)
  obtain ⟨h1, h2⟩ := Nat.or_eq_zero_iff.1 h
  exact ⟨un_zero hr.1 hr.2 h1, un_zero hi.1 hi.2 h2⟩
theorem i64_div {x : Int} (h : i64 x) (k : Nat) : i64 (x / 2 ^ k) := by
  have hp : (0 : Int) < 2 ^ k := pow_pos' k
  have h1 : (1 : Int) ≤ 2 ^ k := hp
  refine ⟨?_, ?_⟩
  · rw [Int.le_ediv_iff_mul_le hp]
    have := Int.mul_le_mul_of_nonneg_left h1 (show (0 : Int) ≤ 9223372036854775808 by decide)
    have := h.1
    omega
  · apply Int.ediv_le_of_le_mul hp
    have := Int.mul_le_mul_of_nonneg_left h1 (show (0 : Int) ≤ 9223372036854775807 by decide)
    have := h.2
    omega
set_option maxRecDepth 100000 in
set_option maxHeartbeats 1000000 in
theorem yHalved (re im : Int) (e : Nat) (hr : i64 re) (hi : i64 im) (hmax : e ≤ 120) (he : re = 0 ∧ im = 0 → e ≤ 64) (w : World) (hT : Tz w) :
    Calls Tryd.prog 26 #[.int .i64 re, .int .i64 im, .int .i64 (e : Int)] w fun x w' => x = .returned (aV (ans (mkP e re im))) ∧ Below w.heap.size w w' := by
  have hL := halve_val hr hi e he
  have cz := fun w hT => tz64 _ (orU_lt re im) w hT
  have hU := or_u64 re im
  have h64 := ctz_le _ (orU_lt re im)
  obtain ⟨u, hu⟩ : ∃ u, un re ||| un im = u := ⟨_, rfl⟩
  rw [hu] at hL cz hU h64
  clear hu
  obtain ⟨t, ht⟩ : ∃ t, Lib.ctz 64 u = t := ⟨_, rfl⟩
  rw [ht] at hL cz h64
  clear ht
  obtain ⟨h, hh⟩ : ∃ h, min e t = h := ⟨_, rfl⟩
  have hmin : min (e : Int) (t : Int) = (h : Int) := by omega
  have hh64 : h ≤ 64 := by omega
  have hhe : h ≤ e := by omega
  rw [hh] at hL
  have cI := fun w => yInRange (lst e re im) (by rw [hL]; exact ⟨i64_div hr h, i64_div hi h, by show i64 ((e - h : Nat) : Int); constructor <;> omega⟩) w
  unfold mkP
  generalize hB : decide (inR (lst e re im)) = B at cI
  have hv : ans (if inR (lst e re im) then some (lst e re im) else none) = if B = true then (lst e re im, 0) else (o0, 50) := by
    cases B with
    | true => rw [if_pos (of_decide_eq_true hB)]; rfl
    | false => rw [if_neg (of_decide_eq_false hB)]; rfl
  rw [hv]
  rw [hL] at cI ⊢
  unfold dV at cI
  dsimp only at cI
  have hsub : ((e - h : Nat) : Int) = (e : Int) - (h : Int) := by omega
  rw [hsub] at cI ⊢
  have hw1 : IntKind.i64.wrap ((e : Int) - (h : Int)) = (e : Int) - (h : Int) := by rw [wrapI]; omega
  have hq1 : re.fdiv (2 ^ h) = re / 2 ^ h := Int.fdiv_eq_ediv_of_nonneg _ (Int.le_of_lt (pow_pos' h))
  have hq2 : im.fdiv (2 ^ h) = im / 2 ^ h := Int.fdiv_eq_ediv_of_nonneg _ (Int.le_of_lt (pow_pos' h))
  clear hv hB hL hsub hh he hr hi
  go_enter Tryd.func26, Tryd.ntmps26
  go_wp2_with fail
  refine (cz _ (hT.below (below_new _ _))).mono ?_
  rintro e w1 ⟨rfl, hw⟩
  obtain rfl := hw.symm
  clear cz
  go_wp2_with fail
  go_region
  have hA0 : At ((w.alloc (.cells #[.int .i64 0, .int .i64 0, .int .i64 0] 23)).alloc (.cells #[.int .i64 (re / 2 ^ h), .int .i64 (im / 2 ^ h), .int .i64 ((e : Int) - (h : Int))] 23)).drew w.heap.size 0 0 0 := At.drew ((At.new w 0 0 0).below (below_new _ _))
  have hA1 : At ((w.alloc (.cells #[.int .i64 0, .int .i64 0, .int .i64 0] 23)).alloc (.cells #[.int .i64 (re / 2 ^ h), .int .i64 (im / 2 ^ h), .int .i64 ((e : Int) - (h : Int))] 23)).drew (w.heap.size + 1) (re / 2 ^ h) (im / 2 ^ h) ((e : Int) - (h : Int)) := At.drew (by simpa using At.new (w.alloc (.cells #[.int .i64 0, .int .i64 0, .int .i64 0] 23)) (re / 2 ^ h) (im / 2 ^ h) ((e : Int) - (h : Int)))
  have hbW : Below w.heap.size w ((w.alloc (.cells #[.int .i64 0, .int .i64 0, .int .i64 0] 23)).alloc (.cells #[.int .i64 (re / 2 ^ h), .int .i64 (im / 2 ^ h), .int .i64 ((e : Int) - (h : Int))] 23)).drew := Below.drew' ((below_new w _).trans ((below_new _ _).mono (by simp)))
  generalize ((w.alloc (.cells #[.int .i64 0, .int .i64 0, .int .i64 0] 23)).alloc (.cells #[.int .i64 (re / 2 ^ h), .int .i64 (im / 2 ^ h), .int .i64 ((e : Int) - (h : Int))] 23)).drew = W at *
  obtain ⟨g0, g1, g2⟩ := hA1.cells
  go_wp2_with fail
  refine (cI _).mono ?_
  rintro e w2 ⟨rfl, hb2⟩
  have hbw2 := hbW.trans (hb2.mono hbW.size)
  have hA := hA0.below hb2
  clear g0 g1 g2
  obtain ⟨g0, g1, g2⟩ := (hA1.below hb2).cells
  clear hb2 cI hA0 hA1 hbW
  cases B
  · go_wp2_with (refine wpList_store_row rfl _ _ _ rfl w.heap.size _ rfl rfl _ _ hA (by exact infoD) (by rfl) (allD _ _ _) ?_)
    refine bodyPost_ret (results_ct rfl _ _ w.heap.size _ _ _ _ rfl (setRow_heap _ _ _ _ _ _ hA) Tryd.underlying23 rfl (by exact infoD)) rfl ?_
    exact ⟨rfl, below_setRow hbw2 (Nat.le_refl _) _⟩
  · go_wp2_with (refine wpList_store_row rfl _ _ _ rfl w.heap.size _ rfl rfl _ _ hA (by exact infoD) (by rfl) (allD _ _ _) ?_)
    refine bodyPost_ret (results_ct rfl _ _ w.heap.size _ _ _ _ rfl (setRow_heap _ _ _ _ _ _ hA) Tryd.underlying23 rfl (by exact infoD)) rfl ?_
    exact ⟨rfl, below_setRow hbw2 (Nat.le_refl _) _⟩
end Go.Proofs.YthpkmbgollollabDoor.Dy
