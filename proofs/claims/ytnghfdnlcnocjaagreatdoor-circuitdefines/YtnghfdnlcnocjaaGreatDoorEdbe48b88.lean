import Derived.Test.YtnghfdnlcnocjaaGreatDoorE0c84bb88
set_option maxRecDepth 100000
set_option maxHeartbeats 2000000
namespace Go.Proofs.YtnghfdnlcnocjaaGreatDoor.Cir
open Go.RowKit Go.Shelf Go.Proofs.YtnghfdnlcnocjaaGreatDoor.Oct Go.Proofs.YtnghfdnlcnocjaaGreatDoor.Tok Go.Proofs.YtnghfdnlcnocjaaGreatDoor.Gt
theorem cNumber (R : Nat) (x : X) (o : Value) (ts : List T) (lo hi : Int) (w : World) (hR : Rt w R x o ts) :
    Calls Tryz.prog 106 #[.pointer (some ⟨R, 0, none⟩), .int .i64 lo, .int .i64 hi] w (PT R x o w (fun (n : Nat) => .tuple #[.int .i64 (n : Int), .nilIface]) (fun e => .tuple #[.int .i64 0, e]) (pNum lo hi ts)) := by
  have c1 := cTake R x o ts w hR
  have c2 := fun w => cRefuse 81 (hd ts) w
  have c3 := fun w => cRefuse 84 (hd ts) w
  unfold pNum
  generalize tl ts = ts' at *
  generalize hd ts = t at *
  obtain ⟨kind, text, num, o', line, col⟩ := t
  unfold tkV at c1 c2 c3
  simp only at c1 c2 c3 ⊢
  generalize (⟨text.toArray⟩ : ByteArray) = s at *
  by_cases hk : kind = 2
  . subst hk
    simp only [ne_eq, not_true, if_false]
    by_cases h1 : (num : Int) < lo
    . have hd1 : decide ((num : Int) < lo) = true := decide_eq_true h1
      rw [if_pos (.inl h1)]
      go_enter Tryz.func106, Tryz.ntmps106
      go_wp2_with (first
        | (go_at_call 85; refine c1.mono ?_; rintro e w1 ⟨rfl, hr1, hk1⟩)
        | (go_at_call 87; refine (c3 _).mono ?_; rintro e w3 ⟨rfl, hb3⟩))
      go_ret2
      exact ⟨rfl, ⟨_, hr1.below ((bnew _ _).trans (hb3.mono (by simp)))⟩, (hk1.alloc _).then_below hb3⟩
    . have hd1 : decide ((num : Int) < lo) = false := decide_eq_false h1
      by_cases h2 : hi < (num : Int)
      . have hd2 : decide (hi < (num : Int)) = true := decide_eq_true h2
        rw [if_pos (.inr h2)]
        go_enter Tryz.func106, Tryz.ntmps106
        go_wp2_with (first
          | (go_at_call 85; refine c1.mono ?_; rintro e w1 ⟨rfl, hr1, hk1⟩)
          | (go_at_call 87; refine (c3 _).mono ?_; rintro e w3 ⟨rfl, hb3⟩))
        go_ret2
        exact ⟨rfl, ⟨_, hr1.below ((bnew _ _).trans (hb3.mono (by simp)))⟩, (hk1.alloc _).then_below hb3⟩
      . have hd2 : decide (hi < (num : Int)) = false := decide_eq_false h2
        rw [if_neg (by rintro (h | h); exact h1 h; exact h2 h)]
        go_enter Tryz.func106, Tryz.ntmps106
        go_wp2_with (first
          | (go_at_call 85; refine c1.mono ?_; rintro e w1 ⟨rfl, hr1, hk1⟩))
        go_ret2
        exact ⟨rfl, hr1.below (bnew _ _), hk1.alloc _⟩
  . have h1 : ((kind : Int) != 2) = true := by simp; omega
    have h2 : ((kind : Int) == 2) = false := by simp; omega
    rw [if_pos hk]
    go_enter Tryz.func106, Tryz.ntmps106
    go_wp2_with (first
      | (go_at_call 85; refine c1.mono ?_; rintro e w1 ⟨rfl, hr1, hk1⟩)
      | (go_at_call 87; refine (c2 _).mono ?_; rintro e w3 ⟨rfl, hb3⟩))
    go_ret2
    exact ⟨rfl, ⟨_, hr1.below ((bnew _ _).trans (hb3.mono (by simp)))⟩, (hk1.alloc _).then_below hb3⟩
end Go.Proofs.YtnghfdnlcnocjaaGreatDoor.Cir
