/- Layer 20: Path. -/
import Derived.Test.YtipceoeihiaieaaDoorBd20
namespace Go.Proofs.YtipceoeihiaieaaDoor.Rou
open Go.RowKit

/-- What Path answers. -/
def PathIs (N : Int) (ps : List Pr) (a b : Int) (l : List Nat) (z : Int) : Prop :=
  (¬ RtP N ps ∧ l = [] ∧ z = 200) ∨ (RtP N ps ∧ ¬ (0 ≤ a ∧ a < N) ∧ l = [] ∧ z = 2) ∨ (RtP N ps ∧ (0 ≤ a ∧ a < N) ∧ ¬ (0 ≤ b ∧ b < N) ∧ l = [] ∧ z = 2) ∨
  (RtP N ps ∧ (0 ≤ a ∧ a < N) ∧ (0 ≤ b ∧ b < N) ∧ l = pth N.toNat ps a.toNat b.toNat ∧ z = 0)
theorem path_is (N : Int) (ps : List Pr) (a b : Int) : ∃ l z, PathIs N ps a b l z := by
  by_cases h : RtP N ps
  · by_cases h1 : 0 ≤ a ∧ a < N
    · by_cases h2 : 0 ≤ b ∧ b < N
      · exact ⟨_, _, .inr (.inr (.inr ⟨h, h1, h2, rfl, rfl⟩))⟩
      · exact ⟨_, _, .inr (.inr (.inl ⟨h, h1, h2, rfl, rfl⟩))⟩
    · exact ⟨_, _, .inr (.inl ⟨h, h1, rfl, rfl⟩)⟩
  · exact ⟨_, _, .inl ⟨h, rfl, rfl⟩⟩
theorem QO.nil (w : World) (B : Nat) : QO w B none 0 [] := own_none _ _ _ _
set_option maxRecDepth 100000 in
set_option maxHeartbeats 4000000 in
theorem rPath (N : Int) (ps : List Pr) (ao : Option Addr) (k : Nat) (a b : Int) (l : List Nat) (z : Int) (hP : PathIs N ps a b l z) (hl : ps.length ≤ 1000000000000000) (w : World) (hA : PA w ao ps) : Calls Tryd.prog 7 #[.agg #[.int .i64 N, .slice ao ps.length k], .int .i64 a, .int .i64 b] w fun e w' => (∃ ao c, e = .returned (.tuple #[.slice ao l.length c, .int .i64 z]) ∧ QO w' w.heap.size ao c l) ∧ Below w.heap.size w w' := by
  have HBM : Hid (Below w.heap.size w (w.alloc (.cells #[.int .i64 N, .slice ao ps.length k] 24))) := hide (bnew w (.cells #[.int .i64 N, .slice ao ps.length k] 24))
  obtain ⟨x0, x1, x2⟩ := m_cells (heap_alloc_new w (.cells #[.int .i64 N, .slice ao ps.length k] 24))
  have cc := rChart N ps ao k hl (w.alloc (.cells #[.int .i64 N, .slice ao ps.length k] 24)) (hA.below HBM.out)
  generalize ps.length = n at *
  clear hA
  rcases hP with ⟨hR, rfl, rfl⟩ | ⟨hR, h1, rfl, rfl⟩ | ⟨hR, h1, h2, rfl, rfl⟩ | ⟨hR, h1, h2, rfl, rfl⟩
  · have HR := hide hR
    clear hR
    go_enter Tryd.func7, Tryd.ntmps7
    go_wp2_with (go_at_call 8; (with_reducible refine Calls.mono cc ?_); rintro e w1 ⟨hch, hb1⟩; obtain ⟨-, rfl⟩ := hch.resolve_left (fun h => HR.out h.1); have HB1 := hide (bkp HBM.out hb1); clear hch hb1 cc)
    go_ret2
    exact ⟨⟨none, 0, rfl, QO.nil _ _⟩, HB1.out⟩
  · have HR := hide hR
    have d1 : decide (0 ≤ a ∧ a < N) = false := decide_eq_false h1
    clear hR h1
    go_enter Tryd.func7, Tryd.ntmps7
    go_wp2_with (first | (go_at_call 8; (with_reducible refine Calls.mono cc ?_); rintro e w1 ⟨hch, hb1⟩; obtain ⟨-, C, a1, c1, L, rfl, hC, -⟩ := hch.resolve_right (fun h => h.1 HR.out); have HB1 := hide (bkp HBM.out hb1); have hcc := hC.cell.1; clear hch hb1 hC cc) | (go_at_call 17; (with_reducible refine Calls.mono (rHas C N a _ hcc) ?_); rintro e w2 ⟨rfl, rfl⟩; rw [d1]))
    go_ret2
    exact ⟨⟨none, 0, rfl, QO.nil _ _⟩, HB1.out⟩
  · have HR := hide hR
    have d1 : decide (0 ≤ a ∧ a < N) = true := decide_eq_true h1
    have d2 : decide (0 ≤ b ∧ b < N) = false := decide_eq_false h2
    by_cases hab : a = b
    · subst hab
      exact absurd h1 h2
    clear hR h1 h2
    go_enter Tryd.func7, Tryd.ntmps7
    go_wp2_with (first | (go_at_call 8; (with_reducible refine Calls.mono cc ?_); rintro e w1 ⟨hch, hb1⟩; obtain ⟨-, C, a1, c1, L, rfl, hC, -⟩ := hch.resolve_right (fun h => h.1 HR.out); have HB1 := hide (bkp HBM.out hb1); have hcc := hC.cell.1; clear hch hb1 hC cc) | (go_at_call 17; (with_reducible refine Calls.mono (rHas C N a _ hcc) ?_); rintro e w2 ⟨rfl, rfl⟩; rw [d1]) | (go_at_call 17; (with_reducible refine Calls.mono (rHas C N b _ hcc) ?_); rintro e w2 ⟨rfl, rfl⟩; rw [d2]))
    go_ret2
    exact ⟨⟨none, 0, rfl, QO.nil _ _⟩, HB1.out⟩
  · have HR := hide hR
    have d1 : decide (0 ≤ a ∧ a < N) = true := decide_eq_true h1
    have d2 : decide (0 ≤ b ∧ b < N) = true := decide_eq_true h2
    obtain ⟨N, rfl⟩ : ∃ m : Nat, N = (m : Int) := ⟨N.toNat, by omega⟩
    obtain ⟨a, rfl⟩ : ∃ m : Nat, a = (m : Int) := ⟨a.toNat, by omega⟩
    obtain ⟨b, rfl⟩ : ∃ m : Nat, b = (m : Int) := ⟨b.toNat, by omega⟩
    have hN64 : N ≤ 64 := by have := hR.2.1; omega
    have haN : a < N := by omega
    have hbN : b < N := by omega
    simp only [Int.toNat_natCast]
    obtain ⟨l, hlp⟩ : ∃ l, pth N ps a b = l := ⟨_, rfl⟩
    have HLPT := hide hlp
    rw [hlp]
    clear hR h1 h2 hlp
    go_enter Tryd.func7, Tryd.ntmps7
    go_wp2_with (first | (go_at_call 8; (with_reducible refine Calls.mono cc ?_); rintro e w1 ⟨hch, hb1⟩; obtain ⟨-, C, a1, c1, L, rfl, hC, hLP, hAs, hSh⟩ := hch.resolve_right (fun h => h.1 HR.out); have HB1 := hide (bkp HBM.out hb1); have hcc := hC.cell.1; have cp := rPathC _ C a b N ps a1 c1 L hN64 HR.out (by simpa using hLP) (by simpa using hAs) hSh haN hbN w1 hC; rw [HLPT.out] at cp; clear hch hb1 hC cc hLP hAs hSh) | (go_at_call 17; (with_reducible refine Calls.mono (rHas C N a _ hcc) ?_); rintro e w2 ⟨rfl, rfl⟩; rw [d1]) | (go_at_call 17; (with_reducible refine Calls.mono (rHas C N b _ hcc) ?_); rintro e w2 ⟨rfl, rfl⟩; rw [d2]) | (go_at_call 18; (with_reducible refine Calls.mono cp ?_); rintro e w5 ⟨⟨a5, c5, rfl, hq5⟩, hb5⟩; have HQ5 := hide hq5; have HB5 := hide hb5; clear hq5 hb5))
    go_ret2
    exact ⟨⟨a5, c5, rfl, ⟨HQ5.out.1, HQ5.out.2.imp id (fun ⟨g, cap, cur, h1, h2, h3⟩ => ⟨g, cap, cur, h1, Nat.le_trans HB1.out.size h2, h3⟩)⟩⟩, bkp HB1.out HB5.out⟩
end Go.Proofs.YtipceoeihiaieaaDoor.Rou
