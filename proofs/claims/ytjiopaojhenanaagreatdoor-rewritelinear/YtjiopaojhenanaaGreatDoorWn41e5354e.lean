import Derived.Test.YtjiopaojhenanaaGreatDoorWndd7820b4
namespace Go.Proofs.YtjiopaojhenanaaGreatDoor.Oct
end Go.Proofs.YtjiopaojhenanaaGreatDoor.Oct
set_option maxRecDepth 100000
set_option maxHeartbeats 2000000
namespace Go.Proofs.YtjiopaojhenanaaGreatDoor.Gt
open Go.RowKit Go.Proofs.YtjiopaojhenanaaGreatDoor.Oct
theorem k_cases (k : Int) : (1 <= k /\ k <= 20) ∨ (rw' k = r0 /\ (k < 1 ∨ 20 < k)) := by
  by_cases h : 1 <= k /\ k <= 20
  . exact .inl h
  . refine .inr ⟨?_, by omega⟩
    unfold rw'
    by_cases c : 0 <= k /\ k < 21
    . obtain rfl : k = 0 := by omega
      rfl
    . rw [if_neg c]
theorem k_twenty {k : Int} (h : 1 <= k /\ k <= 20) : k = 1 ∨ k = 2 ∨ k = 3 ∨ k = 4 ∨ k = 5 ∨ k = 6 ∨ k = 7 ∨ k = 8 ∨ k = 9 ∨ k = 10 ∨ k = 11 ∨ k = 12 ∨ k = 13 ∨ k = 14 ∨ k = 15 ∨ k = 16 ∨ k = 17 ∨ k = 18 ∨ k = 19 ∨ k = 20 := by omega
theorem hIs (k : Int) (w : World) : Calls Tryz.prog 106 #[.int .i64 k] w fun e w' => e = .returned (.bool (knB (rw' k))) /\ w' = w := by
  rcases k_cases k with h | ⟨h, hk⟩
  . rcases k_twenty h with rfl | rfl | rfl | rfl | rfl | rfl | rfl | rfl | rfl | rfl | rfl | rfl | rfl | rfl | rfl | rfl | rfl | rfl | rfl | rfl
    . rw [show knB (rw' 1) = true from by decide +kernel]
      go_enter Tryz.func106, Tryz.ntmps106
      go_wp2_with (fail)
      go_ret
      exact ⟨rfl, rfl⟩
    . rw [show knB (rw' 2) = true from by decide +kernel]
      go_enter Tryz.func106, Tryz.ntmps106
      go_wp2_with (fail)
      go_ret
      exact ⟨rfl, rfl⟩
    . rw [show knB (rw' 3) = true from by decide +kernel]
      go_enter Tryz.func106, Tryz.ntmps106
      go_wp2_with (fail)
      go_ret
      exact ⟨rfl, rfl⟩
    . rw [show knB (rw' 4) = true from by decide +kernel]
      go_enter Tryz.func106, Tryz.ntmps106
      go_wp2_with (fail)
      go_ret
      exact ⟨rfl, rfl⟩
    . rw [show knB (rw' 5) = true from by decide +kernel]
      go_enter Tryz.func106, Tryz.ntmps106
      go_wp2_with (fail)
      go_ret
      exact ⟨rfl, rfl⟩
    . rw [show knB (rw' 6) = true from by decide +kernel]
      go_enter Tryz.func106, Tryz.ntmps106
      go_wp2_with (fail)
      go_ret
      exact ⟨rfl, rfl⟩
    . rw [show knB (rw' 7) = true from by decide +kernel]
      go_enter Tryz.func106, Tryz.ntmps106
      go_wp2_with (fail)
      go_ret
      exact ⟨rfl, rfl⟩
    . rw [show knB (rw' 8) = true from by decide +kernel]
      go_enter Tryz.func106, Tryz.ntmps106
      go_wp2_with (fail)
      go_ret
      exact ⟨rfl, rfl⟩
    . rw [show knB (rw' 9) = true from by decide +kernel]
      go_enter Tryz.func106, Tryz.ntmps106
      go_wp2_with (fail)
      go_ret
      exact ⟨rfl, rfl⟩
    . rw [show knB (rw' 10) = true from by decide +kernel]
      go_enter Tryz.func106, Tryz.ntmps106
      go_wp2_with (fail)
      go_ret
      exact ⟨rfl, rfl⟩
    . rw [show knB (rw' 11) = true from by decide +kernel]
      go_enter Tryz.func106, Tryz.ntmps106
      go_wp2_with (fail)
      go_ret
      exact ⟨rfl, rfl⟩
    . rw [show knB (rw' 12) = true from by decide +kernel]
      go_enter Tryz.func106, Tryz.ntmps106
      go_wp2_with (fail)
      go_ret
      exact ⟨rfl, rfl⟩
    . rw [show knB (rw' 13) = true from by decide +kernel]
      go_enter Tryz.func106, Tryz.ntmps106
      go_wp2_with (fail)
      go_ret
      exact ⟨rfl, rfl⟩
    . rw [show knB (rw' 14) = true from by decide +kernel]
      go_enter Tryz.func106, Tryz.ntmps106
      go_wp2_with (fail)
      go_ret
      exact ⟨rfl, rfl⟩
    . rw [show knB (rw' 15) = true from by decide +kernel]
      go_enter Tryz.func106, Tryz.ntmps106
      go_wp2_with (fail)
      go_ret
      exact ⟨rfl, rfl⟩
    . rw [show knB (rw' 16) = true from by decide +kernel]
      go_enter Tryz.func106, Tryz.ntmps106
      go_wp2_with (fail)
      go_ret
      exact ⟨rfl, rfl⟩
    . rw [show knB (rw' 17) = true from by decide +kernel]
      go_enter Tryz.func106, Tryz.ntmps106
      go_wp2_with (fail)
      go_ret
      exact ⟨rfl, rfl⟩
    . rw [show knB (rw' 18) = true from by decide +kernel]
      go_enter Tryz.func106, Tryz.ntmps106
      go_wp2_with (fail)
      go_ret
      exact ⟨rfl, rfl⟩
    . rw [show knB (rw' 19) = true from by decide +kernel]
      go_enter Tryz.func106, Tryz.ntmps106
      go_wp2_with (fail)
      go_ret
      exact ⟨rfl, rfl⟩
    . rw [show knB (rw' 20) = true from by decide +kernel]
      go_enter Tryz.func106, Tryz.ntmps106
      go_wp2_with (fail)
      go_ret
      exact ⟨rfl, rfl⟩
  . rw [h, show knB (r0) = false from by decide]
    rcases hk with hk | hk
    . have dum := True.intro
      have a1 : decide (1 <= k) = false := decide_eq_false (by omega)
      have a7 : decide (7 <= k) = false := decide_eq_false (by omega)
      have b10 : decide (k <= 10) = true := decide_eq_true (by omega)
      have b17 : decide (k <= 17) = true := decide_eq_true (by omega)
      have b20 : decide (k <= 20) = true := decide_eq_true (by omega)
      go_enter Tryz.func106, Tryz.ntmps106
      go_wp2_with (fail)
      go_ret
      exact ⟨rfl, rfl⟩
    . have dum := True.intro
      have a1 : decide (1 <= k) = true := decide_eq_true (by omega)
      have a7 : decide (7 <= k) = true := decide_eq_true (by omega)
      have b10 : decide (k <= 10) = false := decide_eq_false (by omega)
      have b17 : decide (k <= 17) = false := decide_eq_false (by omega)
      have b20 : decide (k <= 20) = false := decide_eq_false (by omega)
      go_enter Tryz.func106, Tryz.ntmps106
      go_wp2_with (fail)
      go_ret
      exact ⟨rfl, rfl⟩
theorem hArity (k : Int) (w : World) : Calls Tryz.prog 107 #[.int .i64 k] w fun e w' => e = .returned (.int .i64 ((rw' k).q)) /\ w' = w := by
  have cI := fun w => hIs k w
  rcases k_cases k with h | ⟨h, hk⟩
  . rcases k_twenty h with rfl | rfl | rfl | rfl | rfl | rfl | rfl | rfl | rfl | rfl | rfl | rfl | rfl | rfl | rfl | rfl | rfl | rfl | rfl | rfl
    . rw [show (rw' 1).q = 1 from by decide +kernel]
      rw [show knB (rw' 1) = true from by decide +kernel] at cI
      go_enter Tryz.func107, Tryz.ntmps107
      go_wp2_with (first | (go_at_call 106; refine (cI _).mono ?_; rintro e' w' ⟨rfl, hw⟩; obtain rfl := hw.symm))
      go_ret
      exact ⟨rfl, rfl⟩
    . rw [show (rw' 2).q = 1 from by decide +kernel]
      rw [show knB (rw' 2) = true from by decide +kernel] at cI
      go_enter Tryz.func107, Tryz.ntmps107
      go_wp2_with (first | (go_at_call 106; refine (cI _).mono ?_; rintro e' w' ⟨rfl, hw⟩; obtain rfl := hw.symm))
      go_ret
      exact ⟨rfl, rfl⟩
    . rw [show (rw' 3).q = 1 from by decide +kernel]
      rw [show knB (rw' 3) = true from by decide +kernel] at cI
      go_enter Tryz.func107, Tryz.ntmps107
      go_wp2_with (first | (go_at_call 106; refine (cI _).mono ?_; rintro e' w' ⟨rfl, hw⟩; obtain rfl := hw.symm))
      go_ret
      exact ⟨rfl, rfl⟩
    . rw [show (rw' 4).q = 1 from by decide +kernel]
      rw [show knB (rw' 4) = true from by decide +kernel] at cI
      go_enter Tryz.func107, Tryz.ntmps107
      go_wp2_with (first | (go_at_call 106; refine (cI _).mono ?_; rintro e' w' ⟨rfl, hw⟩; obtain rfl := hw.symm))
      go_ret
      exact ⟨rfl, rfl⟩
    . rw [show (rw' 5).q = 1 from by decide +kernel]
      rw [show knB (rw' 5) = true from by decide +kernel] at cI
      go_enter Tryz.func107, Tryz.ntmps107
      go_wp2_with (first | (go_at_call 106; refine (cI _).mono ?_; rintro e' w' ⟨rfl, hw⟩; obtain rfl := hw.symm))
      go_ret
      exact ⟨rfl, rfl⟩
    . rw [show (rw' 6).q = 1 from by decide +kernel]
      rw [show knB (rw' 6) = true from by decide +kernel] at cI
      go_enter Tryz.func107, Tryz.ntmps107
      go_wp2_with (first | (go_at_call 106; refine (cI _).mono ?_; rintro e' w' ⟨rfl, hw⟩; obtain rfl := hw.symm))
      go_ret
      exact ⟨rfl, rfl⟩
    . rw [show (rw' 7).q = 1 from by decide +kernel]
      rw [show knB (rw' 7) = true from by decide +kernel] at cI
      go_enter Tryz.func107, Tryz.ntmps107
      go_wp2_with (first | (go_at_call 106; refine (cI _).mono ?_; rintro e' w' ⟨rfl, hw⟩; obtain rfl := hw.symm))
      go_ret
      exact ⟨rfl, rfl⟩
    . rw [show (rw' 8).q = 1 from by decide +kernel]
      rw [show knB (rw' 8) = true from by decide +kernel] at cI
      go_enter Tryz.func107, Tryz.ntmps107
      go_wp2_with (first | (go_at_call 106; refine (cI _).mono ?_; rintro e' w' ⟨rfl, hw⟩; obtain rfl := hw.symm))
      go_ret
      exact ⟨rfl, rfl⟩
    . rw [show (rw' 9).q = 1 from by decide +kernel]
      rw [show knB (rw' 9) = true from by decide +kernel] at cI
      go_enter Tryz.func107, Tryz.ntmps107
      go_wp2_with (first | (go_at_call 106; refine (cI _).mono ?_; rintro e' w' ⟨rfl, hw⟩; obtain rfl := hw.symm))
      go_ret
      exact ⟨rfl, rfl⟩
    . rw [show (rw' 10).q = 1 from by decide +kernel]
      rw [show knB (rw' 10) = true from by decide +kernel] at cI
      go_enter Tryz.func107, Tryz.ntmps107
      go_wp2_with (first | (go_at_call 106; refine (cI _).mono ?_; rintro e' w' ⟨rfl, hw⟩; obtain rfl := hw.symm))
      go_ret
      exact ⟨rfl, rfl⟩
    . rw [show (rw' 11).q = 2 from by decide +kernel]
      rw [show knB (rw' 11) = true from by decide +kernel] at cI
      go_enter Tryz.func107, Tryz.ntmps107
      go_wp2_with (first | (go_at_call 106; refine (cI _).mono ?_; rintro e' w' ⟨rfl, hw⟩; obtain rfl := hw.symm))
      go_ret
      exact ⟨rfl, rfl⟩
    . rw [show (rw' 12).q = 2 from by decide +kernel]
      rw [show knB (rw' 12) = true from by decide +kernel] at cI
      go_enter Tryz.func107, Tryz.ntmps107
      go_wp2_with (first | (go_at_call 106; refine (cI _).mono ?_; rintro e' w' ⟨rfl, hw⟩; obtain rfl := hw.symm))
      go_ret
      exact ⟨rfl, rfl⟩
    . rw [show (rw' 13).q = 2 from by decide +kernel]
      rw [show knB (rw' 13) = true from by decide +kernel] at cI
      go_enter Tryz.func107, Tryz.ntmps107
      go_wp2_with (first | (go_at_call 106; refine (cI _).mono ?_; rintro e' w' ⟨rfl, hw⟩; obtain rfl := hw.symm))
      go_ret
      exact ⟨rfl, rfl⟩
    . rw [show (rw' 14).q = 2 from by decide +kernel]
      rw [show knB (rw' 14) = true from by decide +kernel] at cI
      go_enter Tryz.func107, Tryz.ntmps107
      go_wp2_with (first | (go_at_call 106; refine (cI _).mono ?_; rintro e' w' ⟨rfl, hw⟩; obtain rfl := hw.symm))
      go_ret
      exact ⟨rfl, rfl⟩
    . rw [show (rw' 15).q = 2 from by decide +kernel]
      rw [show knB (rw' 15) = true from by decide +kernel] at cI
      go_enter Tryz.func107, Tryz.ntmps107
      go_wp2_with (first | (go_at_call 106; refine (cI _).mono ?_; rintro e' w' ⟨rfl, hw⟩; obtain rfl := hw.symm))
      go_ret
      exact ⟨rfl, rfl⟩
    . rw [show (rw' 16).q = 2 from by decide +kernel]
      rw [show knB (rw' 16) = true from by decide +kernel] at cI
      go_enter Tryz.func107, Tryz.ntmps107
      go_wp2_with (first | (go_at_call 106; refine (cI _).mono ?_; rintro e' w' ⟨rfl, hw⟩; obtain rfl := hw.symm))
      go_ret
      exact ⟨rfl, rfl⟩
    . rw [show (rw' 17).q = 2 from by decide +kernel]
      rw [show knB (rw' 17) = true from by decide +kernel] at cI
      go_enter Tryz.func107, Tryz.ntmps107
      go_wp2_with (first | (go_at_call 106; refine (cI _).mono ?_; rintro e' w' ⟨rfl, hw⟩; obtain rfl := hw.symm))
      go_ret
      exact ⟨rfl, rfl⟩
    . rw [show (rw' 18).q = 3 from by decide +kernel]
      rw [show knB (rw' 18) = true from by decide +kernel] at cI
      go_enter Tryz.func107, Tryz.ntmps107
      go_wp2_with (first | (go_at_call 106; refine (cI _).mono ?_; rintro e' w' ⟨rfl, hw⟩; obtain rfl := hw.symm))
      go_ret
      exact ⟨rfl, rfl⟩
    . rw [show (rw' 19).q = 3 from by decide +kernel]
      rw [show knB (rw' 19) = true from by decide +kernel] at cI
      go_enter Tryz.func107, Tryz.ntmps107
      go_wp2_with (first | (go_at_call 106; refine (cI _).mono ?_; rintro e' w' ⟨rfl, hw⟩; obtain rfl := hw.symm))
      go_ret
      exact ⟨rfl, rfl⟩
    . rw [show (rw' 20).q = 3 from by decide +kernel]
      rw [show knB (rw' 20) = true from by decide +kernel] at cI
      go_enter Tryz.func107, Tryz.ntmps107
      go_wp2_with (first | (go_at_call 106; refine (cI _).mono ?_; rintro e' w' ⟨rfl, hw⟩; obtain rfl := hw.symm))
      go_ret
      exact ⟨rfl, rfl⟩
  . rw [h, show (r0).q = 0 from by decide]
    rw [h, show knB r0 = false from by decide] at cI
    rcases hk with hk | hk
    . have dum := True.intro
      have a1 : decide (1 <= k) = false := decide_eq_false (by omega)
      have a7 : decide (7 <= k) = false := decide_eq_false (by omega)
      have b10 : decide (k <= 10) = true := decide_eq_true (by omega)
      have b17 : decide (k <= 17) = true := decide_eq_true (by omega)
      have b20 : decide (k <= 20) = true := decide_eq_true (by omega)
      go_enter Tryz.func107, Tryz.ntmps107
      go_wp2_with (first | (go_at_call 106; refine (cI _).mono ?_; rintro e' w' ⟨rfl, hw⟩; obtain rfl := hw.symm))
      go_ret
      exact ⟨rfl, rfl⟩
    . have dum := True.intro
      have a1 : decide (1 <= k) = true := decide_eq_true (by omega)
      have a7 : decide (7 <= k) = true := decide_eq_true (by omega)
      have b10 : decide (k <= 10) = false := decide_eq_false (by omega)
      have b17 : decide (k <= 17) = false := decide_eq_false (by omega)
      have b20 : decide (k <= 20) = false := decide_eq_false (by omega)
      go_enter Tryz.func107, Tryz.ntmps107
      go_wp2_with (first | (go_at_call 106; refine (cI _).mono ?_; rintro e' w' ⟨rfl, hw⟩; obtain rfl := hw.symm))
      go_ret
      exact ⟨rfl, rfl⟩
def okAt (l : List Int) (n : Int) (i : Nat) : Bool := decide (0 <= l.getD i 0) && decide (l.getD i 0 < n) && !decide (l.getD i 0 ∈ l.take i)
def hcG (l : List Int) (n : Int) : Nat -> Nat -> Int
  | 0, _ => 0
  | m + 1, i => if okAt l n i then hcG l n m (i + 1) else 61
def hchP (k : Int) (l : List Int) (n : Int) : Int := if !knB (rw' k) then 60 else if (l.length : Int) ≠ (rw' k).q then 61 else hcG l n l.length 0
theorem hcG_zero (l : List Int) (n : Int) : ∀ m i, (∀ j, i <= j -> j < i + m -> okAt l n j = true) -> hcG l n m i = 0
  | 0, _, _ => rfl
  | m + 1, i, h => by
    rw [hcG, if_pos (h i (by omega) (by omega))]
    exact hcG_zero l n m (i + 1) (fun j h1 h2 => h j (by omega) (by omega))
theorem hcG_bad (l : List Int) (n : Int) : ∀ m i j, i <= j -> j < i + m -> okAt l n j = false -> hcG l n m i = 61
  | 0, i, j, h1, h2, _ => by omega
  | m + 1, i, j, h1, h2, h => by
    rw [hcG]
    by_cases c : okAt l n i = true
    . rw [if_pos c]
      have : i ≠ j := fun e => by rw [e, h] at c; cases c
      exact hcG_bad l n m (i + 1) j (by omega) (by omega) h
    . rw [if_neg c]
theorem apG_true (l : List Int) : ∀ m i, apG l m i = true ↔ ∀ j, i <= j -> j < i + m -> 0 <= l.getD j 0 /\ l.getD j 0 ∉ l.take j
  | 0, i => by simp [apG]; intro j h1 h2; omega
  | m + 1, i => by
    rw [apG, Bool.and_eq_true, Bool.and_eq_true, apG_true l m (i + 1)]
    constructor
    . rintro ⟨⟨a, b⟩, c⟩ j h1 h2
      by_cases e : j = i
      . subst e
        exact ⟨of_decide_eq_true a, by simpa using b⟩
      . exact c j (by omega) (by omega)
    . intro h
      have := h i (by omega) (by omega)
      exact ⟨⟨decide_eq_true this.1, by simpa using this.2⟩, fun j h1 h2 => h j (by omega) (by omega)⟩
theorem chk_same (k : Int) (l : List Int) (n : Int) : chkP k l n = hchP k l n := by
  unfold chkP hchP
  cases hk : knB (rw' k)
  . rfl
  . have hq : 0 < (rw' k).q := by unfold knB at hk; exact of_decide_eq_true hk
    simp only [Bool.not_true, Bool.false_eq_true, if_false]
    by_cases hl : (l.length : Int) = (rw' k).q
    . rw [if_neg (show ¬ ((l.length : Int) ≠ (rw' k).q) from fun h => h hl)]
      have hp : apP (rw' k).q l = apG l l.length 0 := by unfold apP; rw [decide_eq_true hl, Bool.true_and]
      rw [hp]
      have h0 : 0 < l.length := by omega
      by_cases ha : apG l l.length 0 = true
      . rw [ha]
        have hA := (apG_true l l.length 0).1 ha
        simp only [Bool.not_true, Bool.false_eq_true, if_false]
        by_cases hm : n <= mxG l (l.length - 1)
        . rw [if_pos hm]
          obtain ⟨j, hj, hn⟩ := (mxG_ge l n _).1 hm
          refine (hcG_bad l n l.length 0 j (by omega) (by omega) ?_).symm
          unfold okAt
          rw [decide_eq_false (show ¬ l.getD j 0 < n by omega)]
          simp
        . rw [if_neg hm]
          refine (hcG_zero l n l.length 0 (fun j _ hj => ?_)).symm
          have h1 := hA j (by omega) (by omega)
          have h2 : l.getD j 0 < n := by
            by_cases c : n <= l.getD j 0
            . exact absurd ((mxG_ge l n _).2 ⟨j, by omega, c⟩) hm
            . omega
          unfold okAt
          rw [decide_eq_true h1.1, decide_eq_true h2, decide_eq_false h1.2]
          rfl
      . have ha' : apG l l.length 0 = false := by cases e : apG l l.length 0 <;> simp_all
        rw [ha']
        have : ∃ j, j < l.length /\ okAt l n j = false := by
          apply Classical.byContradiction
          intro hno
          apply ha
          rw [apG_true]
          intro j _ hj
          have : okAt l n j = true := by
            cases e : okAt l n j
            . exact absurd ⟨j, by omega, e⟩ hno
            . rfl
          unfold okAt at this
          rw [Bool.and_eq_true, Bool.and_eq_true] at this
          exact ⟨of_decide_eq_true this.1.1, by simpa using this.2⟩
        obtain ⟨j, hj, hb⟩ := this
        rw [hcG_bad l n l.length 0 j (by omega) (by omega) hb]
        rfl
    . rw [if_pos (show ((l.length : Int) ≠ (rw' k).q) from hl)]
      have hp : apP (rw' k).q l = false := by unfold apP; rw [decide_eq_false hl, Bool.false_and]
      rw [hp]
      rfl
theorem hCheck (k : Int) (ao : Option Addr) (c : Nat) (l : List Int) (n : Int) (hl : l.length <= 1000000000000000) (w : World) (hN : Ns w ao l) : Calls Tryz.prog 90 #[.int .i64 k, .slice ao l.length c, .int .i64 n] w fun e w' => e = .returned (.int .i64 (hchP k l n)) /\ Below w.heap.size w w' := by
  have cI := fun w => hIs k w
  have cA := fun w => hArity k w
  obtain ⟨R, hR⟩ : ∃ R, hchP k l n = R := ⟨_, rfl⟩
  rw [hR]
  unfold hchP at hR
  generalize knB (rw' k) = kn at *
  generalize (rw' k).q = q at *
  have HN := hide hN
  have HR := hide hR
  obtain ⟨m, hm⟩ : ∃ m, l.length = m := ⟨_, rfl⟩
  have HL := hide hm
  rw [hm] at hl ⊢
  clear hN hR hm
  cases kn
  . have HF : Hid (R = 60) := hide HR.out.symm
    clear HR cA
    go_enter Tryz.func90, Tryz.ntmps90
    go_wp2_with fail
    refine (cI _).mono ?_
    rintro e w1 ⟨rfl, hw⟩
    obtain rfl := hw
    go_wp2_with fail
    go_ret
    exact ⟨by rw [HF.out]; rfl, Below.refl _ _⟩
  by_cases hq : (m : Int) = q
  . have hne : ((m : Int) != q) = false := by simp [hq]
    have HS : Hid (R = hcG l n (m - 0) 0) := hide (by rw [← HR.out, HL.out]; simp [hq])
    clear HR
    go_enter Tryz.func90, Tryz.ntmps90
    go_wp2_with fail
    refine (cI _).mono ?_
    rintro e w1 ⟨rfl, hw⟩
    obtain rfl := hw
    go_wp2_with fail
    refine (cA _).mono ?_
    rintro e w2 ⟨rfl, hw⟩
    obtain rfl := hw
    clear hq cI cA
    go_wp2_with fail
    go_loopw [7, 8] (fun vi _ wr => ∃ i : Nat, vi = .int .i64 (i : Int) /\ i <= m /\ Hid (R = hcG l n (m - i) i) /\ Below w2.heap.size w2 wr) (fun vi _ _ => m - (Go.RowKit.intOf vi).toNat)
    case atStart => exact ⟨0, rfl, by omega, HS, Below.refl _ _⟩
    case round =>
      clear HS
      obtain ⟨i, rfl, hi, HS, hb⟩ := hrel
      by_cases h : i < m
      . have hd : decide ((i : Int) < (m : Int)) = true := decide_eq_true (by omega)
        have hlt : i < l.length := by rw [HL.out]; exact h
        obtain ⟨z, hz⟩ : ∃ z, l[i]? = some z := ⟨_, List.getElem?_eq_getElem hlt⟩
        have hgd : l.getD i 0 = z := by rw [List.getD_eq_getElem?_getD, hz]; rfl
        obtain ⟨g, off, rfl, hcs⟩ := (HN.out.below hb).resolve_left (fun e => by rw [e] at hz; simp at hz)
        have hcell := hcs i z hz
        have HC := hide hcs
        have HS2 : Hid (R = if (decide (0 <= z) && decide (z < n) && !decide (z ∈ l.take i)) then hcG l n (m - (i + 1)) (i + 1) else 61) := hide (by
          rw [HS.out, show m - i = (m - (i + 1)) + 1 by omega, hcG, okAt, hgd])
        clear hcs HS hgd
        by_cases hz0 : z < 0
        . have hzd : decide (z < 0) = true := decide_eq_true hz0
          have HF : Hid (R = 61) := hide (by rw [HS2.out, decide_eq_false (show ¬ 0 <= z by omega)]; rfl)
          clear HS2
          go_wp2_with fail
          go_ret
          exact ⟨by rw [HF.out]; rfl, hb⟩
        . have hzd : decide (z < 0) = false := decide_eq_false hz0
          by_cases hzn : n <= z
          . have hznd : decide (n <= z) = true := decide_eq_true hzn
            have HF : Hid (R = 61) := hide (by rw [HS2.out, decide_eq_false (show ¬ z < n by omega)]; simp)
            clear HS2
            go_wp2_with fail
            go_ret
            exact ⟨by rw [HF.out]; rfl, hb⟩
          . have hznd : decide (n <= z) = false := decide_eq_false hzn
            have HS3 : Hid (R = if z ∈ l.take i then 61 else hcG l n (m - (i + 1)) (i + 1)) := hide (by
              rw [HS2.out, decide_eq_true (show 0 <= z by omega), decide_eq_true (show z < n by omega)]
              by_cases c : z ∈ l.take i <;> simp [c])
            clear HS2
            go_wp2_with fail
            go_loopw [8] (fun vj wi => ∃ j : Nat, vj = .int .i64 (j : Int) /\ j <= i /\ Hid (∀ t, t < j -> l[t]? ≠ some z) /\ Below w2.heap.size w2 wi) (fun vj _ => i - (Go.RowKit.intOf vj).toNat)
            case atStart => exact ⟨0, rfl, by omega, hide (fun t ht => absurd ht (by omega)), hb⟩
            case round =>
              clear hcell hb HC
              obtain ⟨j, rfl, hj, HJ, hb⟩ := hrel
              obtain ⟨g', off', hgo, hcs⟩ := (HN.out.below hb).resolve_left (fun e => by rw [e] at hz; simp at hz)
              cases hgo
              have hcell := hcs i z hz
              by_cases hji : j < i
              . have hjd : decide ((j : Int) < (i : Int)) = true := decide_eq_true (by omega)
                obtain ⟨y, hy⟩ : ∃ y, l[j]? = some y := ⟨_, List.getElem?_eq_getElem (by omega)⟩
                have hcy := hcs j y hy
                have hiZ : (i : Int) < (m : Int) := by omega
                have hjZ : (j : Int) < (m : Int) := by omega
                clear hcs
                by_cases hzy : z = y
                . have hbz : (z == y) = true := by simpa using hzy
                  have HF : Hid (R = 61) := hide (by
                    rw [HS3.out, if_pos]
                    rw [hzy]
                    refine List.mem_of_getElem? (i := j) ?_
                    rw [List.getElem?_take, if_pos hji]
                    exact hy)
                  clear HS3 hzy hz hy
                  go_wp2_with fail
                  go_quiet (fail)
                  go_wp2_with fail
                  go_ret
                  exact ⟨by rw [HF.out]; rfl, below_drewN hb _⟩
                . have hbz : (z == y) = false := by simpa using hzy
                  have HJ2 : Hid (∀ t, t < j + 1 -> l[t]? ≠ some z) := hide (fun t ht => by
                    by_cases e : t = j
                    . rw [e, hy]; intro e'; cases e'; exact hzy rfl
                    . exact HJ.out t (by omega))
                  clear HJ hzy hz hy
                  go_wp2_with fail
                  go_quiet (fail)
                  go_wp2_with fail
                  exact ⟨⟨j + 1, by go_num, by omega, HJ2, below_drewN hb _⟩, by simp [Go.RowKit.intOf]; omega⟩
              . obtain rfl : j = i := by omega
                have HF : Hid (R = hcG l n (m - (j + 1)) (j + 1)) := hide (by
                  rw [HS3.out, if_neg]
                  intro hmem
                  obtain ⟨t, ht, e⟩ := List.getElem_of_mem hmem
                  rw [List.length_take] at ht
                  refine HJ.out t (by omega) ?_
                  rw [List.getElem_take] at e
                  rw [List.getElem?_eq_getElem (by omega), e])
                clear HS3 HJ hcs hz
                go_wp2_with fail
                exact ⟨⟨j + 1, by go_num, by omega, HF, hb⟩, by simp [Go.RowKit.intOf]; omega⟩
      . obtain rfl : i = m := by omega
        have HF : Hid (R = 0) := hide (by rw [HS.out, Nat.sub_self]; rfl)
        clear HS
        go_wp2_with fail
        go_ret
        exact ⟨by rw [HF.out]; rfl, hb⟩
  . have hne : ((m : Int) != q) = true := by simpa using hq
    have HF : Hid (R = 61) := hide (by rw [← HR.out, HL.out]; simp [hq])
    clear HR hq
    go_enter Tryz.func90, Tryz.ntmps90
    go_wp2_with fail
    refine (cI _).mono ?_
    rintro e w1 ⟨rfl, hw⟩
    obtain rfl := hw
    go_wp2_with fail
    refine (cA _).mono ?_
    rintro e w2 ⟨rfl, hw⟩
    obtain rfl := hw
    go_wp2_with fail
    go_ret
    exact ⟨by rw [HF.out]; rfl, Below.refl _ _⟩
end Go.Proofs.YtjiopaojhenanaaGreatDoor.Gt
