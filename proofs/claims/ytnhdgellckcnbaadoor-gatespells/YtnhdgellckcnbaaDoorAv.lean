/- Package gate: alike. -/
import Derived.Test.YtnhdgellckcnbaaDoorAs
namespace Go.Proofs.YtnhdgellckcnbaaDoor.Gt
open Go.RowKit Go.Proofs.YtnhdgellckcnbaaDoor.Oct Go.Proofs.YtnhdgellckcnbaaDoor.Dy

/-- A step that does what its gate does, in every later world. -/
def StepOK (w : World) (ba bm k n : Nat) (l : List Nat) (S : Nat) : Prop :=
  ∀ W, Below w.heap.size w W → ∀ (gv cv B : Nat) (V : Nat → Int × Int) (pv : Nat → Nat × Nat) (e : Int), -50 ≤ e → e ≤ 50 → B ≤ 1024 → Rk W gv 34 S (fun j => cx (pv j)) → (∀ j, j < S → Cx (pv j) (V j) e) → (∀ j, j < S → zle (V j) B) →
    Calls Tryd.prog 72 #[.slice (some ⟨gv, 0, none⟩) S cv, .pointer (some ⟨ba, 0, none⟩), .pointer (some ⟨bm, 0, none⟩)] W fun e' w' => ∃ (g : Nat) (f : Nat → Nat × Nat), e' = .returned (.slice (some ⟨g, 0, none⟩) S S) ∧ Rk w' g 34 S (fun j => cx (f j)) ∧ (∀ j, j < S → Cx (f j) (plG k n l V S j) (-1 + e)) ∧ W.heap.size ≤ g ∧ Below W.heap.size W w'
theorem StepOK.below {w w' : World} {ba bm k n : Nat} {l : List Nat} {S : Nat} (h : StepOK w ba bm k n l S) (hb : Below w.heap.size w w') : StepOK w' ba bm k n l S :=
  fun W hW => h W (hb.trans (hW.mono hb.size))
/-- A basis state. -/
def bas (c j : Nat) : Int × Int := if j = c then (1, 0) else (0, 0)
/-- Is a column of both products the same? -/
def colP (S k n : Nat) (l : List Nat) (k' n' : Nat) (l' : List Nat) (c : Nat) : Bool := eqB (plG k n l (plG k' n' l' (bas c) S) S) (plG k' n' l' (plG k n l (bas c) S) S) S
def alkG (S k n : Nat) (l : List Nat) (k' n' : Nat) (l' : List Nat) : Nat → Nat → Bool
  | 0, _ => true
  | m + 1, c => colP S k n l k' n' l' c && alkG S k n l k' n' l' m (c + 1)
theorem cx_one : Cx (4607182418800017408, 0) (1, 0) 0 := ⟨.inl ⟨by decide, by decide +kernel⟩, .inr ⟨rfl, false, rfl⟩⟩
def basF (c j : Nat) : Nat × Nat := if j = c then (4607182418800017408, 0) else (0, 0)
theorem bas_cx (c j : Nat) : Cx (basF c j) (bas c j) 0 := by
  unfold basF bas
  split
  · exact cx_one
  · exact cx_zero 0
theorem bas_le (c j : Nat) : zle (bas c j) 1 := by
  unfold bas
  split
  · exact ⟨by decide, by decide⟩
  · exact ⟨by decide, by decide⟩
theorem rk_bas (w : World) (S c : Nat) (t : TypeId) : Rk (w.alloc (.cells ((madeCells #[Value.complex .f64 0 0] S).setIfInBounds c (.complex .f64 4607182418800017408 0)) t)) w.heap.size t S (fun j => cx (basF c j)) := by
  obtain ⟨cu, h1, h2, h3⟩ := rk_made w S t (.complex .f64 0 0)
  rw [heap_alloc_new] at h1
  cases h1
  refine ⟨_, heap_alloc_new _ _, by simpa using h2, fun j hj => ?_⟩
  rw [Array.getElem?_setIfInBounds]
  show _ = some (cx (basF c j))
  unfold basF
  by_cases e : j = c
  · subst e
    have : j < (madeCells #[Value.complex .f64 0 0] S).size := by omega
    rw [if_pos rfl, if_pos this, if_pos rfl]
  · rw [if_neg (fun h => e h.symm), if_neg e]
    exact h3 j hj
set_option maxRecDepth 100000 in
set_option maxHeartbeats 2000000 in
theorem gAlike (ba bm k n ba' bm' k' n' : Nat) (l l' : List Nat) (S : Nat) (hS : S ≤ 32) (hn : n ≤ 8) (hn' : n' ≤ 8) (w : World) (hA : StepOK w ba bm k n l S) (hB : StepOK w ba' bm' k' n' l' S) :
    Calls Tryd.prog 52 #[.func (.func 72) #[] #[.pointer (some ⟨ba, 0, none⟩), .pointer (some ⟨bm, 0, none⟩)], .func (.func 72) #[] #[.pointer (some ⟨ba', 0, none⟩), .pointer (some ⟨bm', 0, none⟩)], .int .i64 (S : Int)] w fun e w' => e = .returned (.bool (alkG S k n l k' n' l' S 0)) ∧ Below w.heap.size w w' := by
  obtain ⟨R, hR⟩ : ∃ R, alkG S k n l k' n' l' S 0 = R := ⟨_, rfl⟩
  rw [hR]
  have HR : Hid (R = alkG S k n l k' n' l' (S - 0) 0) := hide hR.symm
  have hmk := make_c S (by omega)
  have hst := store_c
  have HA := hide hA
  have HB := hide hB
  clear hR hA hB
  have b1 : ∀ (k n : Nat) (l : List Nat) (c : Nat), n ≤ 8 → ∀ j, zle (plG k n l (bas c) S j) 1024 := fun k n l c hn j => zle_mono (plG_le (k := k) (n := n) (l := l) (S := S) (fun j _ => bas_le c j) S (Nat.le_refl _) j) (by
    have : S * (n * (4 * 1)) ≤ 32 * (8 * (4 * 1)) := Nat.mul_le_mul hS (Nat.mul_le_mul hn (Nat.le_refl _))
    omega)
  have b2 : ∀ (k n : Nat) (l : List Nat) (V : Nat → Int × Int), n ≤ 8 → (∀ j, j < S → zle (V j) 1024) → ∀ j, zle (plG k n l V S j) 4503599627370496 := fun k n l V hn hV j => zle_mono (plG_le (k := k) (n := n) (l := l) hV S (Nat.le_refl _) j) (by
    have : S * (n * (4 * 1024)) ≤ 32 * (8 * (4 * 1024)) := Nat.mul_le_mul hS (Nat.mul_le_mul hn (Nat.le_refl _))
    omega)
  have B1 := hide b1
  have B2 := hide b2
  clear b1 b2
  go_enter Tryd.func52, Tryd.ntmps52
  go_wp2_with fail
  go_loopw [7, 8, 10] (fun _ _ vi wr => ∃ c : Nat, vi = .int .i64 (c : Int) ∧ c ≤ S ∧ Hid (R = alkG S k n l k' n' l' (S - c) c) ∧ Below w.heap.size w wr) (fun _ _ vi _ => S - (Go.RowKit.intOf vi).toNat)
  case atStart => exact ⟨0, rfl, by omega, HR, Below.refl _ _⟩
  case round =>
    clear HR
    obtain ⟨c, rfl, hc, HR, hb⟩ := hrel
    by_cases h : c < S
    · have hd : decide ((c : Int) < (S : Int)) = true := decide_eq_true (by omega)
      have HR2 : Hid (R = (colP S k n l k' n' l' c && alkG S k n l k' n' l' (S - (c + 1)) (c + 1))) := hide (by rw [HR.out, show S - c = (S - (c + 1)) + 1 by omega, alkG])
      clear HR
      have hR0 := rk_made wr S 34 (.complex .f64 0 0)
      have q0 := below_new wr (.cells (madeCells #[.complex .f64 0 0] S) 34)
      have x0 := hR0.cell c h
      have x1 := hR0.frozen c
      go_wp2_with fail
      have hRb := rk_bas wr S c 34
      have q1 := below_new wr (.cells ((madeCells #[Value.complex .f64 0 0] S).setIfInBounds c (.complex .f64 4607182418800017408 0)) 34)
      clear hR0 q0 x0 x1
      generalize wr.alloc (.cells ((madeCells #[Value.complex .f64 0 0] S).setIfInBounds c (.complex .f64 4607182418800017408 0)) 34) = W1 at *
      replace q1 := hb.trans (q1.mono hb.size)
      refine (HB.out W1 q1 wr.heap.size S 1 (bas c) (basF c) 0 (by decide) (by decide) (by decide) hRb (fun j _ => bas_cx c j) (fun j _ => bas_le c j)).mono ?_
      rintro e w2 ⟨g2, f2, rfl, r2, v2, _, q2⟩
      replace hRb := hRb.below q2
      replace q2 := q1.trans (q2.mono q1.size)
      clear q1
      go_wp2_with fail
      refine (HA.out w2 q2 g2 S 1024 (plG k' n' l' (bas c) S) f2 (-1 + 0) (by decide) (by decide) (by decide) r2 v2 (fun j _ => B1.out k' n' l' c hn' j)).mono ?_
      rintro e w3 ⟨g3, f3, rfl, r3, v3, _, q3⟩
      replace hRb := hRb.below q3
      replace q3 := q2.trans (q3.mono q2.size)
      clear q2 r2 v2
      go_wp2_with fail
      refine (HA.out w3 q3 wr.heap.size S 1 (bas c) (basF c) 0 (by decide) (by decide) (by decide) hRb (fun j _ => bas_cx c j) (fun j _ => bas_le c j)).mono ?_
      rintro e w4 ⟨g4, f4, rfl, r4, v4, _, q4⟩
      replace r3 := r3.below q4
      replace q4 := q3.trans (q4.mono q3.size)
      clear q3 hRb
      go_wp2_with fail
      refine (HB.out w4 q4 g4 S 1024 (plG k n l (bas c) S) f4 (-1 + 0) (by decide) (by decide) (by decide) r4 v4 (fun j _ => B1.out k n l c hn j)).mono ?_
      rintro e w5 ⟨g5, f5, rfl, r5, v5, _, q5⟩
      replace r3 := r3.below q5
      replace q5 := q4.trans (q5.mono q4.size)
      clear q4 r4 v4
      have cE := sEqualFunc g3 g5 S S S _ _ f3 f5 (-1 + (-1 + 0)) (by decide) (by decide) (by omega) w5 r3 r5 v3 v5 (fun j _ => B2.out k n l _ hn (fun j _ => B1.out k' n' l' c hn' j) j) (fun j _ => B2.out k' n' l' _ hn' (fun j _ => B1.out k n l c hn j) j)
      rw [show eqB (plG k n l (plG k' n' l' (bas c) S) S) (plG k' n' l' (plG k n l (bas c) S) S) S = colP S k n l k' n' l' c from rfl] at cE
      clear r3 v3 r5 v5
      generalize colP S k n l k' n' l' c = CP at *
      go_wp2_with fail
      refine cE.mono ?_
      rintro e w6 ⟨rfl, hw6⟩
      obtain rfl := hw6
      clear cE
      cases CP
      · have HF : Hid (R = false) := hide (by rw [HR2.out]; rfl)
        clear HR2
        go_wp2_with fail
        go_ret
        exact ⟨by rw [HF.out]; rfl, q5⟩
      · have HF : Hid (R = alkG S k n l k' n' l' (S - (c + 1)) (c + 1)) := hide (by rw [HR2.out]; rfl)
        clear HR2
        go_wp2_with fail
        exact ⟨⟨c + 1, by go_num, by omega, HF, q5⟩, by simp [Go.RowKit.intOf]; omega⟩
    · obtain rfl : c = S := by omega
      have HF : Hid (R = true) := hide (by rw [HR.out, Nat.sub_self]; rfl)
      clear HR
      go_wp2_with fail
      go_ret
      exact ⟨by rw [HF.out]; rfl, hb⟩
end Go.Proofs.YtnhdgellckcnbaaDoor.Gt
