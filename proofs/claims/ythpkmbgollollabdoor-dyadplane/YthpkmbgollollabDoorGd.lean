/- The program's From. -/
import Derived.Test.YthpkmbgollollabDoorGc
import Derived.Test.YthpkmbgollollabDoorDh
namespace Go.Proofs.YthpkmbgollollabDoor.Dy
open Go.RowKit Go.Shelf Go.Proofs.YthpkmbgollollabDoor.Sca

theorem lst_part {x : Int} {n : Nat} (hx : -9007199254740992 ≤ x ∧ x ≤ 9007199254740992) (hn : n ≤ 60) : ∃ (y : Int) (m : Nat), lst n x 0 = ⟨y, 0, m⟩ ∧ m ≤ n ∧ x = y * 2 ^ (n - m) ∧ (x % 2 ≠ 0 → m = n) ∧ Rt (lst n x 0) := by
  obtain ⟨h, h1, h2, h3, h4, h5⟩ := lst_val n x 0
  have hi : (lst n x 0).im = 0 := by
    rcases Int.mul_eq_zero.1 h4.symm with q | q
    · exact q
    · exact absurd q (Int.ne_of_gt (pow_pos' h))
  have hle : (lst n x 0).re.natAbs ≤ x.natAbs := by
    have e : x.natAbs = (lst n x 0).re.natAbs * 2 ^ h := by
      have := congrArg Int.natAbs h3
      rw [Int.natAbs_mul, Int.natAbs_pow] at this
      exact this
    rw [e]
    exact Nat.le_mul_of_pos_right _ (Nat.pow_pos (by decide))
  refine ⟨(lst n x 0).re, n - h, ?_, by omega, ?_, ?_, ?_⟩
  · cases hl : lst n x 0 with
    | mk a b c =>
      rw [hl] at hi h2
      dsimp only at *
      rw [hi, h2]
  · rw [show n - (n - h) = h by omega]; exact h3
  · intro hodd
    cases h with
    | zero => rfl
    | succ h =>
      rw [two_pow_succ, Int.mul_left_comm] at h3
      omega
  · apply lst_right
    unfold inR
    rw [hi, h2]
    omega
/-- The parts put together. -/
theorem from_add {d : DD} (h : Rt d) : Rt (lst d.ex.toNat d.re 0) ∧ Rt (lst d.ex.toNat d.im 0) ∧ addR (lst d.ex.toNat d.re 0) (turnD (lst d.ex.toNat d.im 0) 1) = (d, 0) := by
  obtain ⟨hin, ho⟩ := h
  have hb := hin
  obtain ⟨y, m, e1, l1, x1, o1, r1⟩ := lst_part (x := d.re) (n := d.ex.toNat) hin.1 (by omega)
  obtain ⟨z, k, e2, l2, x2, o2, r2⟩ := lst_part (x := d.im) (n := d.ex.toNat) hin.2.1 (by omega)
  refine ⟨r1, r2, ?_⟩
  have r3 := turn_right r2 1
  unfold addR
  rw [if_pos ⟨r1, r3⟩, e1, e2]
  have ht : turnD ⟨z, 0, (k : Int)⟩ 1 = ⟨0, z, k⟩ := rfl
  rw [ht]
  have hmk : addP ⟨y, 0, (m : Int)⟩ ⟨0, z, (k : Int)⟩ = some d := by
    unfold addP up
    dsimp only
    rw [Int.zero_mul, Int.zero_mul, Int.add_zero, Int.zero_add]
    have hmax : (max (m : Int) (k : Int)).toNat = max m k := by omega
    rw [hmax, show (max (m : Int) (k : Int) - (m : Int)).toNat = max m k - m by omega, show (max (m : Int) (k : Int) - (k : Int)).toNat = max m k - k by omega]
    have hM : max m k = d.ex.toNat := by
      rcases ho with q | q | q
      · omega
      · have := o1 q; omega
      · have := o2 q; omega
    rw [hM, ← x1, ← x2]
    have hl : lst d.ex.toNat d.re d.im = d := by
      have := lst_char 0 d.ex.toNat d.re d.im (by omega) (by
        rcases ho with q | q | q
        · left; omega
        · right; omega
        · right; omega)
      rw [Int.pow_zero, Int.mul_one, Int.mul_one, Nat.sub_zero, show ((d.ex.toNat : Nat) : Int) = d.ex by omega] at this
      exact this
    unfold mkP
    rw [hl, if_pos hin]
  rw [hmk]
  rfl
set_option maxRecDepth 100000 in
set_option maxHeartbeats 1000000 in
theorem yFrom (d : DD) (h : Rt d) (w : World) (hT : Tz w) :
    Calls Tryd.prog 22 #[.complex .f64 (joinB d.re (-d.ex)) (joinB d.im (-d.ex))] w fun e w' => e = .returned (aV (d, 0)) ∧ Below w.heap.size w w' := by
  have hb := h.1
  have he : (d.ex.toNat : Int) = d.ex := by omega
  have c1 := fun w hT => yPart d.re d.ex.toNat (by omega) (by omega) w hT
  have c2 := fun w hT => yPart d.im d.ex.toNat (by omega) (by omega) w hT
  rw [he] at c1 c2
  obtain ⟨r1, r2, hadd⟩ := from_add h
  have c3 := fun w => yTurn (lst d.ex.toNat d.im 0) r2.d64 1 w
  rw [show turnR (lst d.ex.toNat d.im 0) 1 = (turnD (lst d.ex.toNat d.im 0) 1, 0) by unfold turnR; rw [if_pos r2]] at c3
  have c4 := fun w hT => yAdd (lst d.ex.toNat d.re 0) (turnD (lst d.ex.toNat d.im 0) 1) r1.d64 (turn_right r2 1).d64 w hT
  rw [hadd] at c4
  generalize turnD (lst d.ex.toNat d.im 0) 1 = q at *
  generalize lst d.ex.toNat d.im 0 = r at *
  generalize lst d.ex.toNat d.re 0 = s at *
  generalize joinB d.re (-d.ex) = b at *
  generalize joinB d.im (-d.ex) = b' at *
  clear h hb he r1 r2 hadd
  obtain ⟨d1, d2, d3⟩ := d
  obtain ⟨q1, q2, q3⟩ := q
  obtain ⟨r1, r2, r3⟩ := r
  obtain ⟨s1, s2, s3⟩ := s
  unfold aV dV at *
  dsimp only at *
  go_enter Tryd.func22, Tryd.ntmps22
  go_wp2_with fail
  refine (c1 _ (hT.below (below_new _ _))).mono ?_
  rintro e w1 ⟨rfl, hb1⟩
  have hR1 := ((At.new w 0 0 0).below hb1).below (below_new w1 (dO s1 s2 s3))
  have hbw1 : Below w.heap.size w w1 := (below_new _ _).trans (hb1.mono (by simp))
  have hbw2 := hbw1.trans ((below_new w1 (dO s1 s2 s3)).mono hbw1.size)
  have hS1 := At.new w1 s1 s2 s3
  have hl1 := hbw1.size
  clear c1 hb1
  go_wp2_with fail
  generalize w1.alloc (dO s1 s2 s3) = W1 at *
  refine (c2 _ (hT.below hbw2)).mono ?_
  rintro e w2 ⟨rfl, hb2⟩
  have hR2 := (hR1.below hb2).below (below_new w2 (dO r1 r2 r3))
  have hS2 := (hS1.below hb2).below (below_new w2 (dO r1 r2 r3))
  have hbw3 := hbw2.trans (hb2.mono hbw2.size)
  have hbw4 := hbw3.trans ((below_new w2 (dO r1 r2 r3)).mono hbw3.size)
  have hI2 := At.new w2 r1 r2 r3
  have hl2 : w1.heap.size < w2.heap.size := Nat.lt_of_lt_of_le hS1.lt hb2.size
  obtain ⟨i0, i1, i2⟩ := hI2.cells
  clear c2 hb2 hR1 hS1 hbw2
  go_wp2_with fail
  clear i0 i1 i2
  generalize w2.alloc (dO r1 r2 r3) = W2 at *
  refine (c3 _).mono ?_
  rintro e w3 ⟨rfl, hb3⟩
  have hR3 := hR2.below hb3
  have hS3 := hS2.below hb3
  have hI3 := hI2.below hb3
  have hbw5 := hbw4.trans (hb3.mono hbw4.size)
  clear c3 hb3 hR2 hS2 hI2 hbw4
  have hR4 := hR3.farRow w2.heap.size #[.int .i64 q1, .int .i64 q2, .int .i64 q3] (by omega)
  have hS4 := hS3.farRow w2.heap.size #[.int .i64 q1, .int .i64 q2, .int .i64 q3] (by omega)
  have hI4 : At (w3.setRow w2.heap.size #[.int .i64 q1, .int .i64 q2, .int .i64 q3]) w2.heap.size q1 q2 q3 := setRow_heap _ _ _ _ _ _ hI3
  have hbw6 : Below w.heap.size w (w3.setRow w2.heap.size #[.int .i64 q1, .int .i64 q2, .int .i64 q3]) := below_setRow hbw5 (by omega) _
  obtain ⟨k0, k1, k2⟩ := hS4.cells
  obtain ⟨j0, j1, j2⟩ := hI4.cells
  go_wp2_with (refine wpList_store_row rfl _ _ _ rfl w2.heap.size _ rfl rfl _ _ hI3 (by exact infoD) (by rfl) (allD _ _ _) ?_)
  clear k0 k1 k2 j0 j1 j2
  generalize w3.setRow w2.heap.size #[.int .i64 q1, .int .i64 q2, .int .i64 q3] = W3 at *
  refine (c4 _ (hT.below hbw6)).mono ?_
  rintro e w5 ⟨rfl, hb5⟩
  have hbw7 := hbw6.trans (hb5.mono hbw6.size)
  have hR5 := hR4.below hb5
  clear c4 hb5 hR3 hS3 hI3 hR4 hS4 hI4 hbw6 hbw5
  go_wp2_with (refine wpList_store_row rfl _ _ _ rfl w.heap.size _ rfl rfl _ _ hR5 (by exact infoD) (by rfl) (allD _ _ _) ?_)
  refine bodyPost_ret (results_ct rfl _ _ w.heap.size _ _ _ _ rfl (setRow_heap _ _ _ _ _ _ hR5) Tryd.underlying23 rfl (by exact infoD)) rfl ?_
  exact ⟨rfl, below_setRow hbw7 (by omega) _⟩
end Go.Proofs.YthpkmbgollollabDoor.Dy
