/- The document's names; the law GateLooks, as it is walked. -/
import Derived.Test.YtgffdeeldpcegaaDoorXa
import Derived.Test.YtgffdeeldpcegaaDoorAy
namespace Go.Proofs.YtgffdeeldpcegaaDoor.Gt
open Go.RowKit Go.Proofs.YtgffdeeldpcegaaDoor.Oct

set_option maxRecDepth 100000 in
theorem hNames (w : World) : Calls Tryd.prog 46 #[] w fun e w' => e = .returned (.slice (some ⟨w.heap.size, 0, none⟩) 21 21) ∧ Rk w' w.heap.size 9 21 (fun j => .string ⟨(rw' (j : Int)).nm.toArray⟩) ∧ Below w.heap.size w w' := by
  go_enter Tryd.func46, Tryd.ntmps46
  go_wp2_with fail
  go_ret
  refine ⟨rfl, ⟨_, heap_alloc_new _ _, by simp, fun i hi => ?_⟩, below_new _ _⟩
  have hc : i = 0 ∨ i = 1 ∨ i = 2 ∨ i = 3 ∨ i = 4 ∨ i = 5 ∨ i = 6 ∨ i = 7 ∨ i = 8 ∨ i = 9 ∨ i = 10 ∨ i = 11 ∨ i = 12 ∨ i = 13 ∨ i = 14 ∨ i = 15 ∨ i = 16 ∨ i = 17 ∨ i = 18 ∨ i = 19 ∨ i = 20 := by omega
  rcases hc with rfl | rfl | rfl | rfl | rfl | rfl | rfl | rfl | rfl | rfl | rfl | rfl | rfl | rfl | rfl | rfl | rfl | rfl | rfl | rfl | rfl <;> rfl
set_option maxRecDepth 100000 in
set_option maxHeartbeats 1000000 in
theorem hName (k : Int) (w : World) : Calls Tryd.prog 15 #[.int .i64 k] w fun e w' => e = .returned (.string ⟨(rw' k).nm.toArray⟩) ∧ Below w.heap.size w w' := by
  have cI := fun w => hIs k w
  rcases k_cases k with h | ⟨h, hk⟩
  · obtain ⟨n, rfl⟩ : ∃ n : Nat, k = (n : Int) := ⟨k.toNat, by omega⟩
    have hkn : knB (rw' (n : Int)) = true := by
      have := (by decide +kernel : ∀ m : Fin 21, 1 ≤ m.1 → knB (rw' (m.1 : Int)) = true) ⟨n, by omega⟩ (by show 1 ≤ n; omega)
      exact this
    rw [hkn] at cI
    have hn1 : (n : Int) < 21 := by omega
    have cN := fun w => hNames w
    go_enter Tryd.func15, Tryd.ntmps15
    go_wp2_with (go_at_call 47; refine (cI _).mono ?_; rintro e' w' ⟨rfl, hw⟩; obtain rfl := hw.symm)
    refine (cN _).mono ?_
    rintro e w1 ⟨rfl, hR, q1⟩
    have hc := hR.cell n (by omega)
    clear hR cN hkn
    go_wp2_with fail
    go_ret
    exact ⟨rfl, q1⟩
  · rw [h]
    rw [h, show knB r0 = false from by decide] at cI
    go_enter Tryd.func15, Tryd.ntmps15
    go_wp2_with (go_at_call 47; refine (cI _).mono ?_; rintro e' w' ⟨rfl, hw⟩; obtain rfl := hw.symm)
    go_ret
    exact ⟨rfl, Below.refl _ _⟩
set_option maxRecDepth 100000 in
set_option maxHeartbeats 1000000 in
theorem hOf (l : List UInt8) (w : World) : Calls Tryd.prog 14 #[.string ⟨l.toArray⟩] w fun e w' => e = .returned (.tuple #[.int .i64 (ofP l).1, .int .i64 (ofP l).2]) ∧ Below w.heap.size w w' := by
  have HP : Hid (ofP l = ofG l 20 0) := hide rfl
  generalize ofP l = P at *
  go_enter Tryd.func14, Tryd.ntmps14
  go_wp2_with fail
  refine (hNames _).mono ?_
  rintro e w1 ⟨rfl, hR, hb1⟩
  go_wp2_with fail
  go_loop [5] (fun vi => ∃ i : Nat, vi = .int .i64 (((i + 1 : Nat)) : Int) ∧ i ≤ 20 ∧ Hid (P = ofG l (20 - i) i)) (fun vi => 21 - (Go.RowKit.intOf vi).toNat)
  case atStart => exact ⟨0, rfl, by omega, HP⟩
  case round =>
    clear HP
    obtain ⟨i, rfl, hi, HP⟩ := hrel
    by_cases h : i < 20
    · have hd : decide (((i + 1 : Nat) : Int) ≤ 20) = true := decide_eq_true (by omega)
      have hcell := hR.cell (i + 1) (by omega)
      have Hs : Hid (P = if (rw' ((i + 1 : Nat) : Int)).nm = l then (((i + 1 : Nat) : Int), 0) else ofG l (20 - (i + 1)) (i + 1)) := hide (by
        rw [HP.out]
        obtain ⟨m, hm⟩ : ∃ m, 20 - i = m + 1 := ⟨19 - i, by omega⟩
        rw [hm, ofG, show 20 - (i + 1) = m by omega])
      have hse := ba_eq (rw' ((i + 1 : Nat) : Int)).nm l
      clear HP hR
      by_cases he : (rw' ((i + 1 : Nat) : Int)).nm = l
      · rw [decide_eq_true he] at hse
        have HP : Hid (P = (((i + 1 : Nat) : Int), 0)) := hide (by rw [Hs.out, if_pos he])
        clear Hs he
        generalize (rw' ((i + 1 : Nat) : Int)).nm = nm at *
        go_wp2_with fail
        go_ret2
        exact ⟨by rw [HP.out]; rfl, hb1⟩
      · rw [decide_eq_false he] at hse
        have HP : Hid (P = ofG l (20 - (i + 1)) (i + 1)) := hide (by rw [Hs.out, if_neg he])
        clear Hs he
        generalize (rw' ((i + 1 : Nat) : Int)).nm = nm at *
        go_wp2_with fail
        exact ⟨⟨i + 1, by go_num, by omega, HP⟩, by simp [Go.RowKit.intOf]; omega⟩
    · obtain rfl : i = 20 := by omega
      go_wp2_with fail
      go_ret2
      exact ⟨by rw [HP.out]; rfl, hb1⟩
set_option maxRecDepth 100000 in
set_option maxHeartbeats 4000000 in
theorem xGateLooks (k : Int) (l : List UInt8) (w : World) (hT : Tb w) (hD : Td w) : Calls Tryd.prog 4 #[.int .i64 k, .string ⟨l.toArray⟩] w fun e w' => e = .returned (.bool true) ∧ Below w.heap.size w w' := by
  have cN := jNum
  have a1 := fun w hT => gOf l w hT
  have a2 := fun w => hOf l w
  have a3 := fun w hT => gName k w hT
  have a4 := fun w => hName k w
  have a5 := fun w hT => gArity k w hT
  have a6 := fun w => hArity k w
  have a7 := fun w hT => gControls k w hT
  have a8 := fun w => hControls k w
  have a9 := fun w hT => gHalving k w hT
  have a10 := fun w => hHalving k w
  have a11 := fun w hT => gClifford k w hT
  have a12 := fun w => hClifford k w
  have a13 := fun w hT => gDiagonal k w hT
  have a14 := fun w => hDiagonal k w
  have a15 := fun w hT => gMonomial k w hT
  have a16 := fun w => hMonomial k w
  have a17 := fun w hT => gInverse k w hT
  have a18 := fun w => hInverse k w
  generalize ofP l = O at *
  generalize mnB (rw' k) = mn at *
  generalize dgB (rw' k) = dg at *
  generalize clB (rw' k) = cl at *
  generalize hvB (rw' k) = hv at *
  generalize rw' k = r at *
  obtain ⟨nm, q, c, t, v, o⟩ := r
  obtain ⟨o1, o2⟩ := O
  dsimp only at *
  go_enter Tryd.func4, Tryd.ntmps4
  go_wp2_with fail
  refine (a1 _ (hT.below (Below.refl w.heap.size w))).mono ?_
  rintro e w1 ⟨rfl, q1⟩
  replace q1 := (Below.refl w.heap.size w).trans (q1.mono (Below.refl w.heap.size w).size)
  go_wp2_with fail
  refine (a2 _).mono ?_
  rintro e w2 ⟨rfl, q2⟩
  replace q2 := q1.trans (q2.mono q1.size)
  clear q1
  go_wp2_with fail
  refine (a3 _ (hT.below q2)).mono ?_
  rintro e w3 ⟨rfl, q3⟩
  replace q3 := q2.trans (q3.mono q2.size)
  clear q2
  go_wp2_with fail
  refine (a4 _).mono ?_
  rintro e w4 ⟨rfl, q4⟩
  replace q4 := q3.trans (q4.mono q3.size)
  clear q3
  go_wp2_with (go_at_call 13; refine (cN _ _).mono ?_; rintro e' w' ⟨rfl, hw⟩; obtain rfl := hw.symm)
  refine (a5 _ (hT.below q4)).mono ?_
  rintro e w5 ⟨rfl, q5⟩
  replace q5 := q4.trans (q5.mono q4.size)
  clear q4
  go_wp2_with fail
  refine (a6 _).mono ?_
  rintro e w' ⟨rfl, hw⟩
  obtain rfl := hw
  go_wp2_with fail
  refine (a7 _ (hT.below q5)).mono ?_
  rintro e w6 ⟨rfl, q6⟩
  replace q6 := q5.trans (q6.mono q5.size)
  clear q5
  go_wp2_with fail
  refine (a8 _).mono ?_
  rintro e w' ⟨rfl, hw⟩
  obtain rfl := hw
  go_wp2_with fail
  refine (a9 _ (hT.below q6)).mono ?_
  rintro e w7 ⟨rfl, q7⟩
  replace q7 := q6.trans (q7.mono q6.size)
  clear q6
  go_wp2_with fail
  refine (a10 _).mono ?_
  rintro e w' ⟨rfl, hw⟩
  obtain rfl := hw
  go_wp2_with fail
  refine (a11 _ (hT.below q7)).mono ?_
  rintro e w8 ⟨rfl, q8⟩
  replace q8 := q7.trans (q8.mono q7.size)
  clear q7
  go_wp2_with fail
  refine (a12 _).mono ?_
  rintro e w' ⟨rfl, hw⟩
  obtain rfl := hw
  go_wp2_with fail
  refine (a13 _ (hT.below q8)).mono ?_
  rintro e w9 ⟨rfl, q9⟩
  replace q9 := q8.trans (q9.mono q8.size)
  clear q8
  go_wp2_with fail
  refine (a14 _).mono ?_
  rintro e w' ⟨rfl, hw⟩
  obtain rfl := hw
  go_wp2_with fail
  refine (a15 _ (hT.below q9)).mono ?_
  rintro e w10 ⟨rfl, q10⟩
  replace q10 := q9.trans (q10.mono q9.size)
  clear q9
  go_wp2_with fail
  refine (a16 _).mono ?_
  rintro e w' ⟨rfl, hw⟩
  obtain rfl := hw
  go_wp2_with fail
  refine (a17 _ (hT.below q10)).mono ?_
  rintro e w11 ⟨rfl, q11⟩
  replace q11 := q10.trans (q11.mono q10.size)
  clear q10
  go_wp2_with fail
  refine (a18 _).mono ?_
  rintro e w' ⟨rfl, hw⟩
  obtain rfl := hw
  go_wp2_with fail
  refine (jAlive _ (hT.below q11) (hD.below q11)).mono ?_
  rintro e wz ⟨rfl, qz⟩
  replace qz := q11.trans (qz.mono q11.size)
  go_wp2_with fail
  go_ret
  exact ⟨by simp, qz⟩
end Go.Proofs.YtgffdeeldpcegaaDoor.Gt
