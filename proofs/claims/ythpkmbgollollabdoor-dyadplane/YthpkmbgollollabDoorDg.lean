/- The program's over. -/
import Derived.Test.YthpkmbgollollabDoorDf
namespace Go.Proofs.YthpkmbgollollabDoor.Dy
open Go.RowKit Go.Shelf Go.Proofs.YthpkmbgollollabDoor.Sca

theorem bl_le_iff (m k : Nat) : bl m ≤ k ↔ m < 2 ^ k := by
  constructor
  · intro h
    by_cases h0 : m = 0
    · rw [h0]; exact Nat.pow_pos (by decide)
    · rw [bl_pos h0] at h
      exact Nat.lt_of_lt_of_le Nat.lt_log2_self (Nat.pow_le_pow_right (by decide) h)
  · exact bl_lt
theorem or_lt_iff (x y k : Nat) : x ||| y < 2 ^ k ↔ x < 2 ^ k ∧ y < 2 ^ k :=
  ⟨fun h => ⟨Nat.lt_of_le_of_lt Nat.left_le_or h, Nat.lt_of_le_of_lt Nat.right_le_or h⟩, fun h => Nat.or_lt_two_pow h.1 h.2⟩
theorem lt_scale (x u : Nat) (hu : u ≤ 62) : x < 2 ^ (62 - u) ↔ x * 2 ^ u < 4611686018427387904 := by
  rw [show (4611686018427387904 : Nat) = 2 ^ (62 - u) * 2 ^ u by rw [← Nat.pow_add, Nat.sub_add_cancel hu]]
  exact (Nat.mul_lt_mul_right (Nat.pow_pos (by decide))).symm
theorem fits_iff (x y u : Nat) (hu : u ≤ 62) : bl (x ||| y) + u ≤ 62 ↔ (x * 2 ^ u < 4611686018427387904 ∧ y * 2 ^ u < 4611686018427387904) := by
  rw [← lt_scale x u hu, ← lt_scale y u hu, ← or_lt_iff, ← bl_le_iff]
  omega
theorem natAbs_scale (x : Int) (u : Nat) : (x * 2 ^ u).natAbs = x.natAbs * 2 ^ u := by
  rw [Int.natAbs_mul, Int.natAbs_pow]
  rfl
/-- Do the parts fit? -/
def fitB (d : DD) (u : Nat) : Bool := decide (d.re.natAbs * 2 ^ u < 4611686018427387904 ∧ d.im.natAbs * 2 ^ u < 4611686018427387904)
def overV (d : DD) (u : Nat) : Value := if fitB d u then .tuple #[.int .i64 (d.re * 2 ^ u), .int .i64 (d.im * 2 ^ u), .bool true] else .tuple #[.int .i64 0, .int .i64 0, .bool false]
set_option maxRecDepth 100000 in
set_option maxHeartbeats 1000000 in
theorem yOver (d : DD) (h : inR d) (u : Nat) (hu : u ≤ 60) (w : World) :
    Calls Tryd.prog 25 #[dV d, .int .i64 (d.ex + u)] w fun x w' => x = .returned (overV d u) ∧ Below w.heap.size w w' := by
  obtain ⟨hr, hi, he0, he1⟩ := h
  have cr := fun w => ySize d.re ⟨by omega, by omega⟩ w
  have ci := fun w => ySize d.im ⟨by omega, by omega⟩ w
  have hor : bits .or .u64 (d.re.natAbs : Int) (d.im.natAbs : Int) = ((d.re.natAbs ||| d.im.natAbs : Nat) : Int) := u64_or_nat _ _ (by omega) (by omega)
  have hlt : d.re.natAbs ||| d.im.natAbs < 2 ^ 54 := (or_lt_iff _ _ 54).2 ⟨by omega, by omega⟩
  have cL := fun w => len64 (d.re.natAbs ||| d.im.natAbs) (Nat.lt_of_lt_of_le hlt (by decide)) w
  have hf := fits_iff d.re.natAbs d.im.natAbs u (by omega)
  have hbl : bl (d.re.natAbs ||| d.im.natAbs) ≤ 54 := (bl_le_iff _ _).2 hlt
  have hs1 := natAbs_scale d.re u
  have hs2 := natAbs_scale d.im u
  have hup : IntKind.i64.wrap (d.ex + (u : Int) - d.ex) = (u : Int) := by rw [wrapI]; omega
  unfold overV fitB
  obtain ⟨m, hm⟩ : ∃ m, d.re.natAbs ||| d.im.natAbs = m := ⟨_, rfl⟩
  rw [hm] at hor cL hf hbl
  clear hm hlt
  generalize bl m = L at *
  have hsum : IntKind.i64.wrap ((L : Int) + (u : Int)) = (L : Int) + (u : Int) := by rw [wrapI]; omega
  by_cases c : L + u ≤ 62
  · have hc := hf.1 c
    rw [decide_eq_true hc, if_pos rfl]
    rw [← hs1, ← hs2] at hc
    have w1 : IntKind.i64.wrap (d.re * 2 ^ u) = d.re * 2 ^ u := by rw [wrapI]; omega
    have w2 : IntKind.i64.wrap (d.im * 2 ^ u) = d.im * 2 ^ u := by rw [wrapI]; omega
    have z : decide (62 < (L : Int) + (u : Int)) = false := decide_eq_false (by omega)
    have hu' : (0 : Int) ≤ (u : Int) := by omega
    clear hc hf hs1 hs2 hr hi c
    obtain ⟨re, im, ex⟩ := d
    unfold dV at *
    dsimp only at *
    go_enter Tryd.func25, Tryd.ntmps25
    go_wp2_with fail
    go_quiet (first | (go_at_call_of 29 re; exact Calls.quiet_of_same (cr _)) | (go_at_call_of 29 im; exact Calls.quiet_of_same (ci _)) | (go_at_call 40; exact Calls.quiet_of_same (cL _)))
    go_wp2_with fail
    have hA := ((At.new w re im ex).drewN nq)
    have hb : Below w.heap.size w ((w.alloc (dO re im ex)).drewN nq) := below_drewN (below_new _ _) nq
    generalize (w.alloc (dO re im ex)).drewN nq = W at *
    obtain ⟨g0, g1, g2⟩ := hA.cells
    go_region
    go_wp2_with fail
    go_ret3
    exact ⟨rfl, Below.drew' hb⟩
  · rw [decide_eq_false (fun hc => c (hf.2 hc)), if_neg (by decide)]
    have z : decide (62 < (L : Int) + (u : Int)) = true := decide_eq_true (by omega)
    have z' : 62 < (L : Int) + (u : Int) := by omega
    clear hf hs1 hs2 hr hi c
    obtain ⟨re, im, ex⟩ := d
    unfold dV at *
    dsimp only at *
    go_enter Tryd.func25, Tryd.ntmps25
    go_wp2_with fail
    go_quiet (first | (go_at_call_of 29 re; exact Calls.quiet_of_same (cr _)) | (go_at_call_of 29 im; exact Calls.quiet_of_same (ci _)) | (go_at_call 40; exact Calls.quiet_of_same (cL _)))
    go_wp2_with fail
    go_ret3
    exact ⟨rfl, below_drewN (below_new _ _) _⟩
end Go.Proofs.YthpkmbgollollabDoor.Dy
