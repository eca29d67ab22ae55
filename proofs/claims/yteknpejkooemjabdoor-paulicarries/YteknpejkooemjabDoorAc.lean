/- Package gate: what is said of a kind by a yes or a no; all kinds; the kind of a name. -/
import Derived.Test.YteknpejkooemjabDoorAb
namespace Go.Proofs.YteknpejkooemjabDoor.Gt
open Go.RowKit Go.Proofs.YteknpejkooemjabDoor.Oct

theorem rw_t (k : Int) : (rw' k).t = 0 ∨ (rw' k).t = 2 ∨ (rw' k).t = 3 ∨ (rw' k).t = 4 ∨ (rw' k).t = 6 := by
  unfold rw'
  by_cases h : 0 ≤ k ∧ k < 21
  · rw [if_pos h]
    have h2 : k.toNat < 21 := by omega
    generalize k.toNat = n at h2
    have := (by decide +kernel : ∀ n : Fin 21, (tab.getD n.1 r0).t = 0 ∨ (tab.getD n.1 r0).t = 2 ∨ (tab.getD n.1 r0).t = 3 ∨ (tab.getD n.1 r0).t = 4 ∨ (tab.getD n.1 r0).t = 6) ⟨n, h2⟩
    exact this
  · rw [if_neg h]; exact .inl rfl
def hvB (r : Rw) : Bool := r.t % 2 == 1
def clB (r : Rw) : Bool := r.t / 2 % 2 == 1
def dgB (r : Rw) : Bool := r.t / 4 % 2 == 1
def knB (r : Rw) : Bool := decide (0 < r.q)
def mnB (r : Rw) : Bool := knB r && !hvB r
theorem own_below {w w' : World} {B e size n : Nat} {ao : Option Addr} {m c : Nat} {xs : List Value} (h : w.ownsRow B e size (.slice ao m c) n xs) (hb : Below w.heap.size w w') : w'.ownsRow B e size (.slice ao m c) n xs := by
  refine ⟨h.1, ?_⟩
  rcases h.2 with h0 | ⟨g, cap, cur, hv, hbg, hg, h1⟩
  · exact .inl h0
  · exact .inr ⟨g, cap, cur, hv, hbg, (hb.block g (Array.getElem?_eq_some_iff.1 hg).1).trans hg, h1⟩
set_option maxRecDepth 100000 in
theorem gClifford (k : Int) (w : World) (hT : Tb w) : Calls Tryd.prog 29 #[.int .i64 k] w fun e w' => e = .returned (.bool (clB (rw' k))) ∧ Below w.heap.size w w' := by
  have c := fun w hT => gRow k w hT
  have ht := rw_t k
  generalize rw' k = r at *
  obtain ⟨nm, q, c', t, v, o⟩ := r
  unfold rV at c
  unfold clB
  dsimp only at *
  rcases ht with rfl | rfl | rfl | rfl | rfl
  all_goals
    go_enter Tryd.func29, Tryd.ntmps29
    go_wp2_with fail
    refine (c _ hT).mono ?_
    rintro e w1 ⟨rfl, hb⟩
    clear c
    have hf := fld3
    go_wp2_with fail
    go_ret
    exact ⟨rfl, hb⟩
/-- The kinds below a number. -/
def kl (n : Nat) : List Value := ((List.range n).drop 1).map fun (j : Nat) => Value.int .i64 (j : Int)
theorem kl_succ (n : Nat) (h : 1 ≤ n) : kl (n + 1) = kl n ++ [.int .i64 (n : Int)] := by
  unfold kl
  rw [List.range_succ, List.drop_append_of_le_length (by simpa using h)]
  simp
theorem kn_in (k : Nat) (h : k < 21) : decide (0 < (rw' (k : Int)).q) = decide (1 ≤ k) := by
  have := (by decide +kernel : ∀ n : Fin 21, decide (0 < (rw' (n.1 : Int)).q) = decide (1 ≤ n.1)) ⟨k, h⟩
  exact this
end Go.Proofs.YteknpejkooemjabDoor.Gt
