/- What nobody made. -/
import Derived.Test.YtckcdgobgpjdkaaDoorHd
namespace Go.Proofs.YtckcdgobgpjdkaaDoor.Oct
open Go.RowKit Go.Lib

theorem from32_run (b : Int) (w : World) : (callFunc 58 #[.int .u32 b]).run Tryd.prog w = .ok (.value (.float .f32 b.toNat)) w := by kernel_rfl
theorem F32_of (r : Value) (w : World) (v : Nat) (e : Int) (hv : v < 4294967296) (K : World → Prop) (h : Calls Tryd.prog 66 #[r, .int .i64 4] w fun x w' => x = .returned (.tuple #[.int .u64 (v : Int), .int .i64 e]) ∧ K w') :
    Calls Tryd.prog 56 #[r] w fun x w' => x = .returned (.tuple #[.float .f32 v, .int .i64 e]) ∧ K w' := by
  have hb := from32_run
  go_enter Tryd.func56, Tryd.ntmps56
  go_wp2_with (go_at_call 52; refine (U32_of r w v e hv K h).mono ?_; rintro x w' ⟨rfl, hk⟩)
  go_ret2
  exact ⟨rfl, hk⟩

/-- A Writer that is none. -/
theorem number_none (x n : Int) (w : World) : Calls Tryd.prog 40 #[.pointer none, .int .u64 x, .int .i64 n] w fun e w' => e = .returned (.tuple #[]) ∧ w' = w := by
  go_enter Tryd.func40, Tryd.ntmps40
  go_wp2
  refine bodyPost_ret (results_none rfl _ _ _) rfl ?_
  exact ⟨rfl, rfl⟩
theorem U8_none (x : Int) (w : World) : Calls Tryd.prog 9 #[.pointer none, .int .u8 x] w fun e w' => e = .returned (.tuple #[]) ∧ w' = w := by
  go_enter Tryd.func9, Tryd.ntmps9
  go_wp2_with (go_at_call 40; refine (number_none _ _ _).mono ?_; rintro e w' ⟨rfl, rfl⟩)
  go_end0
  exact ⟨rfl, rfl⟩
theorem U16_none (x : Int) (w : World) : Calls Tryd.prog 11 #[.pointer none, .int .u16 x] w fun e w' => e = .returned (.tuple #[]) ∧ w' = w := by
  go_enter Tryd.func11, Tryd.ntmps11
  go_wp2_with (go_at_call 40; refine (number_none _ _ _).mono ?_; rintro e w' ⟨rfl, rfl⟩)
  go_end0
  exact ⟨rfl, rfl⟩
theorem U32_none (x : Int) (w : World) : Calls Tryd.prog 12 #[.pointer none, .int .u32 x] w fun e w' => e = .returned (.tuple #[]) ∧ w' = w := by
  go_enter Tryd.func12, Tryd.ntmps12
  go_wp2_with (go_at_call 40; refine (number_none _ _ _).mono ?_; rintro e w' ⟨rfl, rfl⟩)
  go_end0
  exact ⟨rfl, rfl⟩
theorem U64_none (x : Int) (w : World) : Calls Tryd.prog 13 #[.pointer none, .int .u64 x] w fun e w' => e = .returned (.tuple #[]) ∧ w' = w := by
  go_enter Tryd.func13, Tryd.ntmps13
  go_wp2_with (go_at_call 40; refine (number_none _ _ _).mono ?_; rintro e w' ⟨rfl, rfl⟩)
  go_end0
  exact ⟨rfl, rfl⟩
theorem F64_none (x : Nat) (w : World) : Calls Tryd.prog 14 #[.pointer none, .float .f64 x] w fun e w' => e = .returned (.tuple #[]) ∧ w' = w := by
  have hb := bits64_run x
  go_enter Tryd.func14, Tryd.ntmps14
  go_wp2_with (go_at_call 13; refine (U64_none _ _).mono ?_; rintro e w' ⟨rfl, rfl⟩)
  all_goals go_end0
  all_goals exact ⟨rfl, rfl⟩
theorem F32_none (x : Nat) (w : World) : Calls Tryd.prog 16 #[.pointer none, .float .f32 x] w fun e w' => e = .returned (.tuple #[]) ∧ w' = w := by
  have hb := bits32_run x
  go_enter Tryd.func16, Tryd.ntmps16
  go_wp2_with (go_at_call 12; refine (U32_none _ _).mono ?_; rintro e w' ⟨rfl, rfl⟩)
  all_goals go_end0
  all_goals exact ⟨rfl, rfl⟩
theorem Text_none (s : ByteArray) (w : World) : Calls Tryd.prog 18 #[.pointer none, .string s] w fun e w' => e = .returned (.int .i64 1) ∧ w' = w := by
  go_enter Tryd.func18, Tryd.ntmps18
  go_wp2
  go_ret
  exact ⟨rfl, rfl⟩

/-- A Reader that no call made: nil, or one whose mark is not set. -/
def Nob (w : World) (r : Value) : Prop := r = .pointer none ∨ ∃ pb po, r = .pointer (some ⟨pb, po, none⟩) ∧ w.cell? ⟨pb, po + 1, none⟩ = some (.bool false)
theorem nob_is (r : Value) (w : World) (h : Nob w r) : Calls Tryd.prog 60 #[r] w fun e w' => e = .returned (.bool true) ∧ w' = w := by
  rcases h with rfl | ⟨pb, po, rfl, h⟩
  · exact nobodys_nil w
  · exact nobodys_unmade pb po w h
theorem nob_number (r : Value) (n : Int) (w : World) (h : Nob w r) : Calls Tryd.prog 66 #[r, .int .i64 n] w fun e w' => e = .returned (.tuple #[.int .u64 ((0 : Nat) : Int), .int .i64 1]) ∧ w' = w := by
  rcases h with rfl | ⟨pb, po, rfl, h⟩
  · exact number_nil n w
  · exact number_unmade pb po n w h
theorem nob_Text (r : Value) (w : World) (h : Nob w r) : Calls Tryd.prog 48 #[r] w fun e w' => e = .returned (.tuple #[.string ⟨#[]⟩, .int .i64 1]) ∧ w' = w := by
  go_enter Tryd.func48, Tryd.ntmps48
  go_wp2_with (go_at_call 60; refine (nob_is r _ h).mono ?_; rintro e w' ⟨rfl, rfl⟩)
  go_ret2
  exact ⟨rfl, rfl⟩
theorem nob_Left (r : Value) (w : World) (h : Nob w r) : Calls Tryd.prog 25 #[r] w fun e w' => e = .returned (.int .i64 0) ∧ w' = w := by
  go_enter Tryd.func25, Tryd.ntmps25
  go_wp2_with (go_at_call 60; refine (nob_is r _ h).mono ?_; rintro e w' ⟨rfl, rfl⟩)
  go_ret
  exact ⟨rfl, rfl⟩
theorem nob_End (r : Value) (w : World) (h : Nob w r) : Calls Tryd.prog 30 #[r] w fun e w' => e = .returned (.int .i64 1) ∧ w' = w := by
  go_enter Tryd.func30, Tryd.ntmps30
  go_wp2_with (go_at_call 60; refine (nob_is r _ h).mono ?_; rintro e w' ⟨rfl, rfl⟩)
  go_ret
  exact ⟨rfl, rfl⟩

/-- The document's look at two floats. -/
theorem Bits64_any (x : Nat) (w : World) : Calls Tryd.prog 15 #[.float .f64 x] w fun e w' => e = .returned (.int .u64 (can64 x : Int)) ∧ w' = w := by
  have hb := bits64_run x
  cases hn : nan .f64 x
  · have hn' : (FloatKind.f64.format.order x x != some .eq) = false := hn
    have hcn : can64 x = x := by simp [can64, hn]
    rw [hcn]
    clear hn hcn
    go_enter Tryd.func15, Tryd.ntmps15
    go_wp2
    go_ret
    exact ⟨rfl, rfl⟩
  · have hn' : (FloatKind.f64.format.order x x != some .eq) = true := hn
    have hcn : can64 x = 9221120237041090561 := by simp [can64, hn]
    rw [hcn]
    clear hn hcn
    go_enter Tryd.func15, Tryd.ntmps15
    go_wp2
    go_ret
    exact ⟨rfl, rfl⟩
theorem Bits32_any (x : Nat) (w : World) (hx : x < 4294967296) : Calls Tryd.prog 17 #[.float .f32 x] w fun e w' => e = .returned (.int .u64 (can32 x : Int)) ∧ w' = w := by
  have hb := bits32_run x
  cases hn : nan .f32 x
  · have hn' : (FloatKind.f32.format.order x x != some .eq) = false := hn
    have hcn : can32 x = x := by simp [can32, hn]
    rw [hcn]
    clear hn hcn
    go_enter Tryd.func17, Tryd.ntmps17
    go_wp2
    go_ret
    exact ⟨rfl, rfl⟩
  · have hn' : (FloatKind.f32.format.order x x != some .eq) = true := hn
    have hcn : can32 x = 2143289344 := by simp [can32, hn]
    rw [hcn]
    clear hn hcn
    go_enter Tryd.func17, Tryd.ntmps17
    go_wp2
    go_ret
    exact ⟨rfl, rfl⟩
theorem beq_cast (a b : Nat) : ((a : Int) == (b : Int)) = (a == b) := by
  rw [Bool.eq_iff_iff]; simp only [beq_iff_eq]; omega
theorem Same_any (a b : Nat) (w : World) : Calls Tryd.prog 54 #[.float .f64 a, .float .f64 b] w fun e w' => e = .returned (.bool (can64 a == can64 b)) ∧ w' = w := by
  rw [← beq_cast]
  go_enter Tryd.func54, Tryd.ntmps54
  go_wp2_with (go_at_call 15; refine (Bits64_any _ _).mono ?_; rintro e w' ⟨rfl, rfl⟩)
  go_ret
  exact ⟨rfl, rfl⟩
theorem Same32_any (a b : Nat) (w : World) (ha : a < 4294967296) (hb : b < 4294967296) : Calls Tryd.prog 57 #[.float .f32 a, .float .f32 b] w fun e w' => e = .returned (.bool (can32 a == can32 b)) ∧ w' = w := by
  rw [← beq_cast]
  go_enter Tryd.func57, Tryd.ntmps57
  go_wp2_with (go_at_call 17; refine (Bits32_any _ _ (by assumption)).mono ?_; rintro e w' ⟨rfl, rfl⟩)
  go_ret
  exact ⟨rfl, rfl⟩
end Go.Proofs.YtckcdgobgpjdkaaDoor.Oct
