/- The document's look at UTF-8, as it is walked. -/
import Derived.Test.YtckcdgobgpjdkaaDoorRef1
import Derived.Lib.ValidLaws
namespace Go.Proofs.YtckcdgobgpjdkaaDoor.Oct
open Go.RowKit

/-- Is there a byte from lo to hi at a place? -/
def contB (l : List UInt8) (i lo hi : Nat) : Bool := decide (i < l.length ∧ lo ≤ (l.getD i 0).toNat ∧ (l.getD i 0).toNat ≤ hi)

set_option maxHeartbeats 400000 in
theorem cont_any (s : ByteArray) (i lo hi : Nat) (w : World) :
    Calls Tryd.prog 65 #[.string s, .int .i64 (i : Int), .int .u8 (lo : Int), .int .u8 (hi : Int)] w fun e w' => e = .returned (.bool (contB s.data.toList i lo hi)) ∧ w' = w := by
  have hsl : s.data.toList.length = s.size := by rw [Array.length_toList]; rfl
  by_cases h : i < s.size
  · have h' : (i : Int) < s.size := by omega
    have hg : s.data.toList.getD i 0 = s[i] := by
      rw [List.getD_eq_getElem?_getD, List.getElem?_eq_getElem (by rw [hsl]; exact h)]
      rfl
    have hc : contB s.data.toList i lo hi = decide (lo ≤ s[i].toNat ∧ s[i].toNat ≤ hi) := by
      unfold contB
      rw [hg, hsl]
      simp [h]
    rw [hc]
    generalize hb : s[i].toNat = b
    have hb' : ((s[i].toNat : Nat) : Int) = (b : Int) := by rw [hb]
    clear hg hc hsl
    by_cases h1 : lo ≤ b
    · have h1' : (lo : Int) ≤ b := by omega
      by_cases h2 : b ≤ hi
      · have h2' : (b : Int) ≤ hi := by omega
        rw [decide_eq_true (And.intro h1 h2)]
        go_enter Tryd.func65, Tryd.ntmps65
        go_wp2
        go_ret
        exact ⟨rfl, rfl⟩
      · have h2' : ¬ (b : Int) ≤ hi := by omega
        rw [decide_eq_false (fun x => h2 x.2)]
        go_enter Tryd.func65, Tryd.ntmps65
        go_wp2
        go_ret
        exact ⟨rfl, rfl⟩
    · have h1' : ¬ (lo : Int) ≤ b := by omega
      rw [decide_eq_false (fun x => h1 x.1)]
      go_enter Tryd.func65, Tryd.ntmps65
      go_wp2
      go_ret
      exact ⟨rfl, rfl⟩
  · have h' : ¬ (i : Int) < s.size := by omega
    have hc : contB s.data.toList i lo hi = false := by
      unfold contB
      rw [hsl]
      exact decide_eq_false (fun x => h x.1)
    rw [hc]
    clear hc hsl
    go_enter Tryd.func65, Tryd.ntmps65
    go_wp2
    go_ret
    exact ⟨rfl, rfl⟩
end Go.Proofs.YtckcdgobgpjdkaaDoor.Oct
