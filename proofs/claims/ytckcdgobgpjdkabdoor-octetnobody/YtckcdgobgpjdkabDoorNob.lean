/- The law OctetNobody, as it is walked. -/
import Derived.Test.YtckcdgobgpjdkabDoorNb
namespace Go.Proofs.YtckcdgobgpjdkabDoor.Oct
open Go.RowKit Go.Lib

set_option maxHeartbeats 1000000 in
theorem nobody_any (r : Value) (w : World) (h : Nob w r) : Calls Tryd.prog 11 #[r] w fun e w' => e = .returned (.bool true) ∧ w' = w := by
  go_enter Tryd.func11, Tryd.ntmps11
  go_wp2_with (first | (go_at_call 17; refine (U8_of r _ 0 1 (by decide) _ (nob_number r _ _ h)).mono ?_; rintro e w' ⟨rfl, rfl⟩) | (go_at_call 18; refine (U16_of r _ 0 1 (by decide) _ (nob_number r _ _ h)).mono ?_; rintro e w' ⟨rfl, rfl⟩) | (go_at_call 19; refine (U32_of r _ 0 1 (by decide) _ (nob_number r _ _ h)).mono ?_; rintro e w' ⟨rfl, rfl⟩) | (go_at_call 20; refine (U64_of r _ 0 1 _ (nob_number r _ _ h)).mono ?_; rintro e w' ⟨rfl, rfl⟩) | (go_at_call 21; refine (F64_of r _ 0 1 _ (nob_number r _ _ h)).mono ?_; rintro e w' ⟨rfl, rfl⟩) | (go_at_call 22; refine (F32_of r _ 0 1 (by decide) _ (nob_number r _ _ h)).mono ?_; rintro e w' ⟨rfl, rfl⟩) | (go_at_call 23; refine (nob_Text r _ h).mono ?_; rintro e w' ⟨rfl, rfl⟩) | (go_at_call 26; refine (nob_Left r _ h).mono ?_; rintro e w' ⟨rfl, rfl⟩) | (go_at_call 27; refine (nob_End r _ h).mono ?_; rintro e w' ⟨rfl, rfl⟩) | (go_at_call 24; refine (Same_any 0 0 _).mono ?_; rintro e w' ⟨rfl, rfl⟩; rw [beq_self_eq_true]) | (go_at_call 25; refine (Same32_any 0 0 _ (by decide) (by decide)).mono ?_; rintro e w' ⟨rfl, rfl⟩; rw [beq_self_eq_true]))
  go_ret
  exact ⟨rfl, rfl⟩

set_option maxHeartbeats 1000000 in
theorem nobodyLaw_any (k n : Int) (f g : Nat) (s : ByteArray) (w : World) (hT : Tabs w) :
    Calls Tryd.prog 3 #[.agg #[.int .i64 k, .int .u64 n, .float .f64 f, .float .f32 g, .string s]] w fun e w' => e = .returned (.bool true) ∧ Below w.heap.size w w' := by
  have hB1 : Below w.heap.size w (w.alloc (.cells #[.int .i64 k, .int .u64 n, .float .f64 f, .float .f32 g, .string s] 26)) := (Below.refl _ _).alloc (Nat.le_refl _) _
  go_enter Tryd.func3, Tryd.ntmps3
  go_wp2_with (first | (go_at_call 4; refine (U8_none _ _).mono ?_; rintro e w' ⟨rfl, rfl⟩) | (go_at_call 5; refine (U16_none _ _).mono ?_; rintro e w' ⟨rfl, rfl⟩) | (go_at_call 6; refine (U32_none _ _).mono ?_; rintro e w' ⟨rfl, rfl⟩) | (go_at_call 7; refine (U64_none _ _).mono ?_; rintro e w' ⟨rfl, rfl⟩) | (go_at_call 8; refine (F64_none _ _).mono ?_; rintro e w' ⟨rfl, rfl⟩) | (go_at_call 9; refine (F32_none _ _).mono ?_; rintro e w' ⟨rfl, rfl⟩) | (go_at_call 10; refine (Text_none _ _).mono ?_; rintro e w' ⟨rfl, rfl⟩))
  refine (nobody_any (.pointer none) _ (.inl rfl)).mono ?_
  rintro e w2 ⟨rfl, rfl⟩
  go_wp2_with fail
  refine (nobody_any (.pointer (some ⟨w.heap.size + 1, 0, none⟩)) _ (.inr ⟨_, 0, rfl, by simp⟩)).mono ?_
  rintro e w3 ⟨rfl, rfl⟩
  have hB2 : Below w.heap.size w ((w.alloc (.cells #[.int .i64 k, .int .u64 n, .float .f64 f, .float .f32 g, .string s] 26)).alloc (.cells #[.slice none 0 0, .bool false] 42)) := hB1.alloc (by simp) _
  go_wp2_with fail
  refine (heads_any _ (hT.below hB2)).mono ?_
  rintro e w4 ⟨rfl, hb4⟩
  have hB4 := hB2.trans (hb4.mono hB2.size)
  go_wp2_with fail
  go_ret
  exact ⟨rfl, hB4⟩
end Go.Proofs.YtckcdgobgpjdkabDoor.Oct
