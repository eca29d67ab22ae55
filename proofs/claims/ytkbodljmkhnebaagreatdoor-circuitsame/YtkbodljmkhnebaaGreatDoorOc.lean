/- room, callee. -/
import Derived.Test.YtkbodljmkhnebaaGreatDoorOa
namespace Go.Proofs.YtkbodljmkhnebaaGreatDoor.Cir
open Go.RowKit Go.Shelf Go.Proofs.YtkbodljmkhnebaaGreatDoor.Oct Go.Proofs.YtkbodljmkhnebaaGreatDoor.Tok Go.Proofs.YtkbodljmkhnebaaGreatDoor.Gt

set_option maxRecDepth 100000 in
set_option maxHeartbeats 600000 in
theorem cRoom (R : Nat) (L : Ly) (d : Dc) (ao : Option Addr) (no co n : Nat) (t : T) (ts : List T) (hn : no + n ≤ 4611686018427387904) (w : World) (hR : Rt w R (xOf L d) (.slice ao no co) ts) :
    Calls Tryz.prog 177 #[.pointer (some ⟨R, 0, none⟩), .int .i64 (n : Int), tkV t] w fun e w' => e = .returned (if 4096 < no + n then erV 86 t else .nilIface) ∧ Below w.heap.size w w' := by
  have c3 := fun W => cRefuse 86 t W
  have hlt := hR.lt
  have h8 := hR.cells.2.2.2.2.2.2.2
  have hwr : IntKind.i64.wrap ((no : Int) + (n : Int)) = ((no + n : Nat) : Int) := by rw [wrapN _ (by omega) (by omega)]; omega
  obtain ⟨kind, text, num, o', line, col⟩ := t
  unfold tkV at c3 ⊢
  simp only at c3 ⊢
  by_cases h : 4096 < no + n
  · rw [if_pos h]
    have hd1 : decide (((no + n : Nat) : Int) > 4096) = true := decide_eq_true (by omega)
    have hd2 : decide ((4096 : Int) < ((no + n : Nat) : Int)) = true := decide_eq_true (by omega)
    generalize ((no + n : Nat) : Int) = z at *
    clear h hn
    go_enter Tryz.func177, Tryz.ntmps177
    go_wp2_with (first | (go_at_call 132; refine (c3 _).mono ?_; rintro e w3 ⟨rfl, hb3⟩))
    go_ret
    exact ⟨rfl, (bnew _ _).trans (hb3.mono (by simp))⟩
  · rw [if_neg h]
    have hd1 : decide (((no + n : Nat) : Int) > 4096) = false := decide_eq_false (by omega)
    have hd2 : decide ((4096 : Int) < ((no + n : Nat) : Int)) = false := decide_eq_false (by omega)
    generalize ((no + n : Nat) : Int) = z at *
    clear h hn
    go_enter Tryz.func177, Tryz.ntmps177
    go_wp2_with fail
    go_ret
    exact ⟨rfl, bnew _ _⟩
end Go.Proofs.YtkbodljmkhnebaaGreatDoor.Cir
