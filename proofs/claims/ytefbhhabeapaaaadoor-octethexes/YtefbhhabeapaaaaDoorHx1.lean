/- Digits: the two functions that read one, as they are walked. -/
import Derived.Test.YtefbhhabeapaaaaDoorRef1
namespace Go.Proofs.YtefbhhabeapaaaaDoor.Oct
open Go.RowKit

/-- A digit's value; 16: it is none. -/
def dg (c : Nat) : Nat := if 48 ≤ c ∧ c ≤ 57 then c - 48 else if 97 ≤ c ∧ c ≤ 102 then c - 87 else 16
theorem digit_any (c : Nat) (w : World) (hc : c < 256) :
    Calls Tryd.prog 11 #[.int .u8 (c : Int)] w fun e w' => e = .returned (.int .u8 (dg c : Int)) ∧ w' = w := by
  by_cases h1 : 48 ≤ c
  · have h1z : (48 : Int) ≤ (c : Int) := by omega
    by_cases h2 : c ≤ 57
    · have h2z : (c : Int) ≤ 57 := by omega
      have HE : Hid ((c : Int) - 48 = (dg c : Int)) := hide (by unfold dg; rw [if_pos ⟨h1, h2⟩]; omega)
      go_enter Tryd.func11, Tryd.ntmps11
      go_wp2
      go_ret
      exact ⟨by rw [← HE.out]; rfl, rfl⟩
    · have h2z : ¬ (c : Int) ≤ 57 := by omega
      by_cases h3 : 97 ≤ c
      · have h3z : (97 : Int) ≤ (c : Int) := by omega
        by_cases h4 : c ≤ 102
        · have h4z : (c : Int) ≤ 102 := by omega
          have HE : Hid ((c : Int) - 97 + 10 = (dg c : Int)) := hide (by unfold dg; rw [if_neg (by omega), if_pos ⟨h3, h4⟩]; omega)
          go_enter Tryd.func11, Tryd.ntmps11
          go_wp2
          go_ret
          exact ⟨by rw [← HE.out]; rfl, rfl⟩
        · have h4z : ¬ (c : Int) ≤ 102 := by omega
          have HE : dg c = 16 := by unfold dg; rw [if_neg (by omega), if_neg (by omega)]
          rw [HE]
          clear HE
          go_enter Tryd.func11, Tryd.ntmps11
          go_wp2
          go_ret
          exact ⟨rfl, rfl⟩
      · have h3z : ¬ (97 : Int) ≤ (c : Int) := by omega
        have HE : dg c = 16 := by unfold dg; rw [if_neg (by omega), if_neg (by omega)]
        rw [HE]
        clear HE
        go_enter Tryd.func11, Tryd.ntmps11
        go_wp2
        go_ret
        exact ⟨rfl, rfl⟩
  · have h1z : ¬ (48 : Int) ≤ (c : Int) := by omega
    have h3z : ¬ (97 : Int) ≤ (c : Int) := by omega
    have HE : dg c = 16 := by unfold dg; rw [if_neg (by omega), if_neg (by omega)]
    rw [HE]
    clear HE
    go_enter Tryd.func11, Tryd.ntmps11
    go_wp2
    go_ret
    exact ⟨rfl, rfl⟩
/-- What digitOf answers at a rune. -/
theorem digitOf_any (c : Nat) (w : World) (hc : c < 2147483648) :
    Calls Tryd.prog 10 #[.int .i32 (c : Int)] w fun e w' => e = .returned (.tuple #[.int .u8 (if dg c = 16 then 0 else (dg c : Int)), .bool (decide (dg c ≠ 16))]) ∧ w' = w := by
  by_cases h1 : 48 ≤ c ∧ c ≤ 57
  · have h1z : (48 : Int) ≤ (c : Int) := by omega
    have h2z : (c : Int) ≤ 57 := by omega
    have e1 : dg c = c - 48 := by unfold dg; rw [if_pos h1]
    have HE : Hid ((c : Int) - 48 = ((c - 48 : Nat) : Int)) := hide (by omega)
    have hb : (0 : Int) ≤ (c : Int) - 48 ∧ (c : Int) - 48 < 256 := by omega
    have hm : ((c : Int) - 48) % 256 = (c : Int) - 48 := by omega
    rw [e1, if_neg (by omega), decide_eq_true (by omega)]
    clear e1
    go_enter Tryd.func10, Tryd.ntmps10
    go_wp2
    go_ret2
    exact ⟨by rw [← HE.out]; rfl, rfl⟩
  by_cases h2 : 97 ≤ c ∧ c ≤ 102
  · have h1z : (48 : Int) ≤ (c : Int) := by omega
    have h2z : ¬ (c : Int) ≤ 57 := by omega
    have h3z : (97 : Int) ≤ (c : Int) := by omega
    have h4z : (c : Int) ≤ 102 := by omega
    have e1 : dg c = c - 87 := by unfold dg; rw [if_neg h1, if_pos h2]
    have HE : Hid ((c : Int) - 97 + 10 = ((c - 87 : Nat) : Int)) := hide (by omega)
    have hm : ((c : Int) - 97) % 256 = (c : Int) - 97 := by omega
    rw [e1, if_neg (by omega), decide_eq_true (by omega)]
    clear e1
    go_enter Tryd.func10, Tryd.ntmps10
    go_wp2
    go_ret2
    exact ⟨by rw [← HE.out]; rfl, rfl⟩
  have e1 : dg c = 16 := by unfold dg; rw [if_neg h1, if_neg h2]
  rw [e1, if_pos rfl, decide_eq_false (by decide)]
  clear e1
  by_cases a1 : 48 ≤ c
  · have h1z : (48 : Int) ≤ (c : Int) := by omega
    have h2z : ¬ (c : Int) ≤ 57 := by omega
    by_cases a2 : 97 ≤ c
    · have h3z : (97 : Int) ≤ (c : Int) := by omega
      have h4z : ¬ (c : Int) ≤ 102 := by omega
      go_enter Tryd.func10, Tryd.ntmps10
      go_wp2
      go_ret2
      exact ⟨rfl, rfl⟩
    · have h3z : ¬ (97 : Int) ≤ (c : Int) := by omega
      go_enter Tryd.func10, Tryd.ntmps10
      go_wp2
      go_ret2
      exact ⟨rfl, rfl⟩
  · have h1z : ¬ (48 : Int) ≤ (c : Int) := by omega
    have h3z : ¬ (97 : Int) ≤ (c : Int) := by omega
    go_enter Tryd.func10, Tryd.ntmps10
    go_wp2
    go_ret2
    exact ⟨rfl, rfl⟩
end Go.Proofs.YtefbhhabeapaaaaDoor.Oct
