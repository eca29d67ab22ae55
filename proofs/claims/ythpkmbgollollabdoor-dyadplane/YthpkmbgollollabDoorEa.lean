/- The document's size, in, Right. -/
import Derived.Test.YthpkmbgollollabDoorDc
namespace Go.Proofs.YthpkmbgollollabDoor.Dy
open Go.RowKit Go.Shelf Go.Proofs.YthpkmbgollollabDoor.Sca

def inB (x : Int) : Bool := decide (-9007199254740992 ≤ x) && decide (x ≤ 9007199254740992)
theorem zIn (x : Int) (w : World) : Calls Tryd.prog 19 #[.int .i64 x] w fun e w' => e = .returned (.bool (inB x)) ∧ w' = w := by
  unfold inB
  by_cases c : -9007199254740992 ≤ x
  · have cz : decide (-9007199254740992 ≤ x) = true := decide_eq_true c
    rw [cz, Bool.true_and]
    go_enter Tryd.func19, Tryd.ntmps19
    go_wp2
    go_ret
    exact ⟨rfl, rfl⟩
  · have cz : decide (-9007199254740992 ≤ x) = false := decide_eq_false c
    rw [cz, Bool.false_and]
    clear c
    go_enter Tryd.func19, Tryd.ntmps19
    go_wp2
    go_ret
    exact ⟨rfl, rfl⟩
theorem tmod2 (x : Int) : x.tmod 2 = 0 ↔ x % 2 = 0 := by
  rw [← Int.dvd_iff_tmod_eq_zero, ← Int.dvd_iff_emod_eq_zero]
theorem inB_true {x : Int} (h : inB x = true) : -9007199254740992 ≤ x ∧ x ≤ 9007199254740992 := by unfold inB at h; simpa using h
theorem inB_false {x : Int} (h : inB x = false) : ¬ (-9007199254740992 ≤ x ∧ x ≤ 9007199254740992) := by
  intro q
  unfold inB at h
  rw [decide_eq_true q.1, decide_eq_true q.2] at h
  cases h
set_option maxRecDepth 100000 in
set_option maxHeartbeats 2000000 in
theorem zRight (d : DD) (w : World) : Calls Tryd.prog 5 #[dV d] w fun e w' => e = .returned (.bool (decide (Rt d))) ∧ Below w.heap.size w w' := by
  have cr := fun w => zIn d.re w
  have ci := fun w => zIn d.im w
  have tr := tmod2 d.re
  have ti := tmod2 d.im
  cases h1 : inB d.re with
  | false =>
    have : decide (Rt d) = false := decide_eq_false (fun h => inB_false h1 h.1.1)
    rw [this]
    rw [h1] at cr
    clear this h1 ci
    obtain ⟨re, im, ex⟩ := d
    unfold dV
    dsimp only at *
    go_enter Tryd.func5, Tryd.ntmps5
    go_wp2_with fail
    refine (cr _).mono ?_
    rintro e w1 ⟨rfl, hw⟩
    obtain rfl := hw.symm
    go_wp2_with fail
    go_ret
    exact ⟨rfl, below_new _ _⟩
  | true =>
    have k1 := inB_true h1
    rw [h1] at cr
    cases h2 : inB d.im with
    | false =>
      have : decide (Rt d) = false := decide_eq_false (fun h => inB_false h2 h.1.2.1)
      rw [this]
      rw [h2] at ci
      clear this h1 h2 k1
      obtain ⟨re, im, ex⟩ := d
      unfold dV
      dsimp only at *
      go_enter Tryd.func5, Tryd.ntmps5
      go_wp2_with fail
      refine (cr _).mono ?_
      rintro e w1 ⟨rfl, hw⟩
      obtain rfl := hw.symm
      go_wp2_with fail
      refine (ci _).mono ?_
      rintro e w1 ⟨rfl, hw⟩
      obtain rfl := hw.symm
      go_wp2_with fail
      go_ret
      exact ⟨rfl, below_new _ _⟩
    | true =>
      have k2 := inB_true h2
      rw [h2] at ci
      by_cases h3 : 0 ≤ d.ex
      · by_cases h4 : d.ex ≤ 60
        · by_cases h5 : d.ex = 0
          · have : decide (Rt d) = true := decide_eq_true ⟨⟨k1, k2, h3, h4⟩, .inl h5⟩
            rw [this]
            clear this h1 h2 k1 k2
            obtain ⟨re, im, ex⟩ := d
            unfold dV
            dsimp only at *
            go_enter Tryd.func5, Tryd.ntmps5
            go_wp2_with fail
            refine (cr _).mono ?_
            rintro e w1 ⟨rfl, hw⟩
            obtain rfl := hw.symm
            go_wp2_with fail
            refine (ci _).mono ?_
            rintro e w1 ⟨rfl, hw⟩
            obtain rfl := hw.symm
            go_wp2_with fail
            go_ret
            exact ⟨rfl, below_new _ _⟩
          · have h5z : (d.ex == 0) = false := by rw [beq_eq_false_iff_ne]; exact h5
            by_cases h6 : d.re % 2 = 0
            · have h6z : d.re.tmod 2 = 0 := tr.2 h6
              by_cases h7 : d.im % 2 = 0
              · have h7z : d.im.tmod 2 = 0 := ti.2 h7
                have : decide (Rt d) = false := decide_eq_false (fun h => by have := h.2; omega)
                rw [this]
                clear this h1 h2 k1 k2 h6 h7 tr ti
                obtain ⟨re, im, ex⟩ := d
                unfold dV
                dsimp only at *
                go_enter Tryd.func5, Tryd.ntmps5
                go_wp2_with fail
                refine (cr _).mono ?_
                rintro e w1 ⟨rfl, hw⟩
                obtain rfl := hw.symm
                go_wp2_with fail
                refine (ci _).mono ?_
                rintro e w1 ⟨rfl, hw⟩
                obtain rfl := hw.symm
                go_wp2_with fail
                go_ret
                exact ⟨rfl, below_new _ _⟩
              · have h7z : (d.im.tmod 2 != 0) = true := by rw [bne_iff_ne]; exact fun h => h7 (ti.1 h)
                have : decide (Rt d) = true := decide_eq_true ⟨⟨k1, k2, h3, h4⟩, .inr (.inr h7)⟩
                rw [this]
                clear this h1 h2 k1 k2 h6 h7 tr ti
                obtain ⟨re, im, ex⟩ := d
                unfold dV
                dsimp only at *
                go_enter Tryd.func5, Tryd.ntmps5
                go_wp2_with fail
                refine (cr _).mono ?_
                rintro e w1 ⟨rfl, hw⟩
                obtain rfl := hw.symm
                go_wp2_with fail
                refine (ci _).mono ?_
                rintro e w1 ⟨rfl, hw⟩
                obtain rfl := hw.symm
                go_wp2_with fail
                go_ret
                exact ⟨rfl, below_new _ _⟩
            · have h6z : (d.re.tmod 2 != 0) = true := by rw [bne_iff_ne]; exact fun h => h6 (tr.1 h)
              have : decide (Rt d) = true := decide_eq_true ⟨⟨k1, k2, h3, h4⟩, .inr (.inl h6)⟩
              rw [this]
              clear this h1 h2 k1 k2 h6 tr ti
              obtain ⟨re, im, ex⟩ := d
              unfold dV
              dsimp only at *
              go_enter Tryd.func5, Tryd.ntmps5
              go_wp2_with fail
              refine (cr _).mono ?_
              rintro e w1 ⟨rfl, hw⟩
              obtain rfl := hw.symm
              go_wp2_with fail
              refine (ci _).mono ?_
              rintro e w1 ⟨rfl, hw⟩
              obtain rfl := hw.symm
              go_wp2_with fail
              go_ret
              exact ⟨rfl, below_new _ _⟩
        · have h4z : decide (d.ex ≤ 60) = false := decide_eq_false h4
          have : decide (Rt d) = false := decide_eq_false (fun h => h4 h.1.2.2.2)
          rw [this]
          clear this h1 h2 k1 k2 tr ti
          obtain ⟨re, im, ex⟩ := d
          unfold dV
          dsimp only at *
          go_enter Tryd.func5, Tryd.ntmps5
          go_wp2_with fail
          refine (cr _).mono ?_
          rintro e w1 ⟨rfl, hw⟩
          obtain rfl := hw.symm
          go_wp2_with fail
          refine (ci _).mono ?_
          rintro e w1 ⟨rfl, hw⟩
          obtain rfl := hw.symm
          go_wp2_with fail
          go_ret
          exact ⟨rfl, below_new _ _⟩
      · have h3z : decide (0 ≤ d.ex) = false := decide_eq_false h3
        have : decide (Rt d) = false := decide_eq_false (fun h => h3 h.1.2.2.1)
        rw [this]
        clear this h1 h2 k1 k2 tr ti
        obtain ⟨re, im, ex⟩ := d
        unfold dV
        dsimp only at *
        go_enter Tryd.func5, Tryd.ntmps5
        go_wp2_with fail
        refine (cr _).mono ?_
        rintro e w1 ⟨rfl, hw⟩
        obtain rfl := hw.symm
        go_wp2_with fail
        refine (ci _).mono ?_
        rintro e w1 ⟨rfl, hw⟩
        obtain rfl := hw.symm
        go_wp2_with fail
        go_ret
        exact ⟨rfl, below_new _ _⟩
end Go.Proofs.YthpkmbgollollabDoor.Dy
