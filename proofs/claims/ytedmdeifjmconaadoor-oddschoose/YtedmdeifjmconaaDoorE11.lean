/- The set-up: bits of places, numbers, the document's example. -/
import Derived.Test.YtedmdeifjmconaaDoorD11
import Derived.LoopN
namespace Go.Proofs.YtedmdeifjmconaaDoor.Odd
open Go.RowKit Go.Proofs.YtedmdeifjmconaaDoor.Sca

def reB : Nat → Nat
  | 0 => 4602678819172646912
  | 3 => 4602678819172646912
  | _ => 0
def imB : Nat → Nat
  | 1 => 4602678819172646912
  | 3 => 4602678819172646912
  | _ => 0
def sqB : Nat → Nat
  | 0 => 4598175219545276416
  | 1 => 4598175219545276416
  | 2 => 0
  | _ => 4602678819172646912
theorem lt4 {i : Nat} (h : i < 4) : i = 0 ∨ i = 1 ∨ i = 2 ∨ i = 3 := by omega
theorem pSq (i : Nat) (hi : i < 4) (w : World) : Calls Tryd.prog 26 #[.complex .f64 (reB i) (imB i)] w fun e w' => e = .returned (.float .f64 (sqB i)) ∧ w' = w := by
  rcases lt4 hi with rfl | rfl | rfl | rfl
  · exact pSquare _ _ 4598175219545276416 0 _ (by decide +kernel) (by decide +kernel) (by decide +kernel) w
  · exact pSquare _ _ 0 4598175219545276416 _ (by decide +kernel) (by decide +kernel) (by decide +kernel) w
  · exact pSquare _ _ 0 0 _ (by decide +kernel) (by decide +kernel) (by decide +kernel) w
  · exact pSquare _ _ 4598175219545276416 4598175219545276416 _ (by decide +kernel) (by decide +kernel) (by decide +kernel) w
/-- The example, as it lies. -/
def S4 (w : World) (g : Nat) : Prop := ∀ i, i < 4 → w.cell? ⟨g, i, none⟩ = some (.complex .f64 (reB i) (imB i))
theorem S4.lt {w : World} {g : Nat} (h : S4 w g) : g < w.heap.size := World.block_lt_of_cell? w _ (h 0 (by decide))
theorem S4.below {w w' : World} {g : Nat} (h : S4 w g) (hb : Below w.heap.size w w') : S4 w' g := fun i hi => (hb.cell (p := ⟨g, i, none⟩) h.lt).trans (h i hi)
theorem Tz.below {w w' : World} (h : Tz w) (hb : Below w.heap.size w w') : Tz w' := (hb.cell (World.block_lt_of_cell? w _ h)).trans h
/-- Qubits, as they lie. -/
def Qr (w : World) (g : Nat) (l : List Int) : Prop := g < w.heap.size ∧ ∀ (j : Nat) (q : Int), l[j]? = some q → w.cell? ⟨g, j, none⟩ = some (.int .i64 q)
theorem Qr.below {w w' : World} {g : Nat} {l : List Int} (h : Qr w g l) (hb : Below w.heap.size w w') : Qr w' g l := ⟨Nat.lt_of_lt_of_le h.1 hb.size, fun j q hq => (hb.cell (p := ⟨g, j, none⟩) h.1).trans (h.2 j q hq)⟩
set_option maxRecDepth 100000 in
set_option maxHeartbeats 1000000 in
theorem oBit (p q : Nat) (hp : p < 4) (hq : q < 2) (w : World) : Calls Tryd.prog 24 #[.int .i64 (p : Int), .int .i64 (q : Int)] w fun e w' => e = .returned (.int .i64 ((p / 2 ^ q % 2 : Nat) : Int)) ∧ w' = w := by
  have b0 : bits .and .i64 0 1 = 0 := by decide +kernel
  have b1 : bits .and .i64 1 1 = 1 := by decide +kernel
  have b2 : bits .and .i64 2 1 = 0 := by decide +kernel
  have b3 : bits .and .i64 3 1 = 1 := by decide +kernel
  have hq' : q = 0 ∨ q = 1 := by omega
  rcases lt4 hp with rfl | rfl | rfl | rfl <;> rcases hq' with rfl | rfl
  all_goals go_enter Tryd.func24, Tryd.ntmps24
  all_goals go_wp2_with fail
  all_goals go_ret
  all_goals exact ⟨rfl, rfl⟩
def num1 (p : Nat) : Nat := p % 2
def num2 (p : Nat) : Nat := p / 2 % 2 + 2 * (p % 2)
set_option maxRecDepth 100000 in
set_option maxHeartbeats 1000000 in
theorem oNum1 (p g c : Nat) (hp : p < 4) (w : World) (hQ : Qr w g [0]) : Calls Tryd.prog 25 #[.int .i64 (p : Int), .slice (some ⟨g, 0, none⟩) 1 c] w fun e w' => e = .returned (.int .i64 (num1 p : Int)) ∧ w' = w := by
  have q0 := hQ.2 0 0 rfl
  have hg := hQ.1
  have c1 := fun W => oBit p 0 hp (by decide) W
  have o0 : bits .or .i64 0 0 = 0 := by decide +kernel
  have o1 : bits .or .i64 0 1 = 1 := by decide +kernel
  rcases lt4 hp with rfl | rfl | rfl | rfl
  all_goals go_enter Tryd.func25, Tryd.ntmps25
  all_goals go_wp2_with fail
  all_goals refine wp_loop_rounds 2 ?_
  all_goals rw [rounds_succ]
  all_goals go_wp2_with (first | (go_at_call 24; refine (c1 _).mono ?_; rintro e w1 ⟨rfl, rfl⟩))
  all_goals rw [rounds_succ]
  all_goals go_wp2_with fail
  all_goals go_ret
  all_goals exact ⟨rfl, rfl⟩
end Go.Proofs.YtedmdeifjmconaaDoor.Odd
