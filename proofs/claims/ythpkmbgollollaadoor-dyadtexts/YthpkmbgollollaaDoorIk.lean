/- IndexRune of a wrong rune in a text of the two signs. -/
import Derived.Test.YthpkmbgollollaaDoorIj
namespace Go.Proofs.YthpkmbgollollaaDoor.Dy
open Go.RowKit Go.Lib Go.Shelf Go.Proofs.YthpkmbgollollaaDoor.Sca

def two : ByteArray := ⟨#[43, 45]⟩
theorem dec0 : Utf8.decode two 0 = (43, 1) ∧ Utf8.decode two 1 = (45, 1) := by decide +kernel
set_option maxRecDepth 100000 in
set_option maxHeartbeats 1000000 in
theorem iRune_err (w : World) : Calls Tryd.prog 71 #[.string ⟨#[43, 45]⟩, .int .i32 65533] w fun e w' => e = .returned (.int .i64 (-1)) ∧ Below w.heap.size w w' := by
  have mixed := mixed_ok
  show Calls Tryd.prog 71 #[.string two, .int .i32 65533] w _
  have hsz : two.size = 2 := rfl
  have h0 := fun ty => run_next_any (P := Tryd.prog) w two 0 ty (by decide)
  have h1 := fun ty => run_next_any (P := Tryd.prog) w two 1 ty (by decide)
  have h2 := fun ty => run_next_end (P := Tryd.prog) w two 2 ty (by decide)
  rw [dec0.1] at h0
  rw [dec0.2] at h1
  have h0' : ∀ ty, (Instr.next (.pointer (some ⟨w.heap.size, 0, none⟩)) true ty).run Tryd.prog (w.alloc (.stringIter two 0)) = .ok (.tuple #[.bool true, .int .i64 0, .int .i32 43]) (w.alloc (.stringIter two 1)) := h0
  have h1' : ∀ ty, (Instr.next (.pointer (some ⟨w.heap.size, 0, none⟩)) true ty).run Tryd.prog (w.alloc (.stringIter two 1)) = .ok (.tuple #[.bool true, .int .i64 1, .int .i32 45]) (w.alloc (.stringIter two 2)) := h1
  have h2' : ∀ ty, (Instr.next (.pointer (some ⟨w.heap.size, 0, none⟩)) true ty).run Tryd.prog (w.alloc (.stringIter two 2)) = .ok (.tuple #[.bool false]) (w.alloc (.stringIter two 2)) := h2
  clear h0 h1 h2
  generalize two = s at *
  go_enter Tryd.func71, Tryd.ntmps71
  go_wp2_with fail
  go_loopw [] (fun wr => wr = w.alloc (.stringIter s 0) ∨ wr = w.alloc (.stringIter s 1) ∨ wr = w.alloc (.stringIter s 2)) (fun wr => 2 - wr.iterPos w.heap.size)
  case atStart => exact .inl rfl
  case round =>
    have p0 : (w.alloc (.stringIter s 0)).iterPos w.heap.size = 0 := World.iterPos_iter w s 0
    have p1 : (w.alloc (.stringIter s 1)).iterPos w.heap.size = 1 := World.iterPos_iter w s 1
    have p2 : (w.alloc (.stringIter s 2)).iterPos w.heap.size = 2 := World.iterPos_iter w s 2
    rcases hrel with rfl | rfl | rfl
    · go_wp2_with fail
      exact ⟨by simp, by rw [p0, p1]; decide⟩
    · go_wp2_with fail
      exact ⟨by simp, by rw [p1, p2]; decide⟩
    · go_wp2_with fail
      go_ret
      exact ⟨rfl, below_new _ _⟩
end Go.Proofs.YthpkmbgollollaaDoor.Dy
