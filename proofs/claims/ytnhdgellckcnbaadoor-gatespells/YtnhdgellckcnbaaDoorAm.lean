/- Package gate: equal; a kind's matrix in whole numbers. -/
import Derived.Test.YtnhdgellckcnbaaDoorAk
namespace Go.Proofs.YtnhdgellckcnbaaDoor.Gt
open Go.RowKit Go.Proofs.YtnhdgellckcnbaaDoor.Oct Go.Proofs.YtnhdgellckcnbaaDoor.Dy Go.Proofs.YtnhdgellckcnbaaDoor.Sca

/-- Are the first entries equal? -/
def eqB (A B : Nat → Int × Int) : Nat → Bool
  | 0 => true
  | m + 1 => eqB A B m && decide (A m = B m)
theorem eqB_iff (A B : Nat → Int × Int) : ∀ m, eqB A B m = true ↔ ∀ j, j < m → A j = B j
  | 0 => by simp [eqB]
  | m + 1 => by
    rw [eqB, Bool.and_eq_true, eqB_iff A B m, decide_eq_true_eq]
    constructor
    · rintro ⟨h1, h2⟩ j hj
      by_cases e : j = m
      · rw [e]; exact h2
      · exact h1 j (by omega)
    · intro h
      exact ⟨fun j hj => h j (by omega), h m (by omega)⟩
theorem eqB_false {A B : Nat → Int × Int} {N i : Nat} (hi : i < N) (h : A i ≠ B i) : eqB A B N = false := by
  cases e : eqB A B N
  · rfl
  · exact absurd ((eqB_iff A B N).1 e i hi) h
set_option maxRecDepth 100000 in
set_option maxHeartbeats 1000000 in
/-- EqualFunc of two rows of exact numbers. -/
theorem sEqualFunc (ga gb N ca cb : Nat) (A B : Nat → Int × Int) (pa pb : Nat → Nat × Nat) (e : Int) (he1 : -300 ≤ e) (he2 : e ≤ 300) (hN : N ≤ 4096) (w : World) (rA : Rk w ga 34 N (fun j => cx (pa j))) (rB : Rk w gb 34 N (fun j => cx (pb j)))
    (vA : ∀ j, j < N → Cx (pa j) (A j) e) (vB : ∀ j, j < N → Cx (pb j) (B j) e) (lA : ∀ j, j < N → zle (A j) 4503599627370496) (lB : ∀ j, j < N → zle (B j) 4503599627370496) :
    Calls Tryd.prog 69 #[.slice (some ⟨ga, 0, none⟩) N ca, .slice (some ⟨gb, 0, none⟩) N cb, .func (.func 70) #[] #[]] w fun e w' => e = .returned (.bool (eqB A B N)) ∧ w' = w := by
  go_enter Tryd.func69, Tryd.ntmps69
  go_wp2_with fail
  go_loop [7, 8, 9, 17] (fun _ _ _ vi => ∃ i : Nat, vi = .int .i64 (i : Int) ∧ i ≤ N ∧ Hid (∀ j, j < i → A j = B j)) (fun _ _ _ vi => N - (Go.RowKit.intOf vi).toNat)
  case atStart => exact ⟨0, rfl, by omega, hide (fun j hj => absurd hj (by omega))⟩
  case round =>
    obtain ⟨i, rfl, hi, HE⟩ := hrel
    by_cases h : i < N
    · have hd : decide ((i : Int) < (N : Int)) = true := decide_eq_true (by omega)
      have xa : w.cell? ⟨ga, i, none⟩ = some (.complex .f64 (pa i).1 (pa i).2) := rA.cell i h
      have xb : w.cell? ⟨gb, i, none⟩ = some (.complex .f64 (pb i).1 (pb i).2) := rB.cell i h
      have cE := fun w => cx_equal (vA i h) (vB i h) (lA i h) (lB i h) he1 he2 w
      clear rA rB vA vB lA lB
      generalize pa i = PA at *
      generalize pb i = PB at *
      by_cases hab : A i = B i
      · rw [decide_eq_true hab] at cE
        have HE2 : Hid (∀ j, j < i + 1 → A j = B j) := hide (fun j hj => by
          by_cases ej : j = i
          · rw [ej]; exact hab
          · exact HE.out j (by omega))
        clear HE hab
        go_wp2_with fail
        refine (cE _).mono ?_
        rintro e w1 ⟨rfl, rfl⟩
        go_wp2_with fail
        exact ⟨⟨i + 1, by go_num, by omega, HE2⟩, by simp [Go.RowKit.intOf]; omega⟩
      · rw [decide_eq_false hab] at cE
        have hfin := hide (eqB_false h hab)
        clear HE hab
        go_wp2_with fail
        refine (cE _).mono ?_
        rintro e w1 ⟨rfl, rfl⟩
        go_wp2_with fail
        go_ret
        exact ⟨by rw [hfin.out]; rfl, rfl⟩
    · obtain rfl : i = N := by omega
      go_wp2_with fail
      go_ret
      exact ⟨by rw [(eqB_iff A B i).2 HE.out]; rfl, rfl⟩
set_option maxRecDepth 100000 in
set_option maxHeartbeats 1000000 in
/-- equal of two matrices. -/
theorem gEqual (na nb ga gb N : Nat) (A B : Nat → Int × Int) (pa pb : Nat → Nat × Nat) (e : Int) (he1 : -300 ≤ e) (he2 : e ≤ 300) (hN : N ≤ 4096) (w : World) (rA : Rk w ga 34 N (fun j => cx (pa j))) (rB : Rk w gb 34 N (fun j => cx (pb j)))
    (vA : ∀ j, j < N → Cx (pa j) (A j) e) (vB : ∀ j, j < N → Cx (pb j) (B j) e) (lA : ∀ j, j < N → zle (A j) 4503599627370496) (lB : ∀ j, j < N → zle (B j) 4503599627370496) :
    Calls Tryd.prog 46 #[.agg #[.int .i64 (na : Int), .slice (some ⟨ga, 0, none⟩) N N], .agg #[.int .i64 (nb : Int), .slice (some ⟨gb, 0, none⟩) N N]] w fun e w' => e = .returned (.bool (eqB A B N)) ∧ Below w.heap.size w w' := by
  have b0 : Below w.heap.size w ((w.alloc (.cells #[.int .i64 (na : Int), .slice (some ⟨ga, 0, none⟩) N N] 25)).alloc (.cells #[.int .i64 (nb : Int), .slice (some ⟨gb, 0, none⟩) N N] 25)) := (below_new w _).trans ((below_new _ _).mono (by simp))
  have cE := sEqualFunc ga gb N N N A B pa pb e he1 he2 hN _ (rA.below b0) (rB.below b0) vA vB lA lB
  clear rA rB vA vB lA lB
  go_enter Tryd.func46, Tryd.ntmps46
  go_wp2_with fail
  refine cE.mono ?_
  rintro e w1 ⟨rfl, rfl⟩
  go_wp2_with fail
  go_ret
  exact ⟨rfl, b0⟩
/-- The number that a part of an entry is, in halves. -/
def cz (b : Nat) : Int := if b = 4607182418800017408 then 2 else if b = 13830554455654793216 then -2 else if b = 4602678819172646912 then 1 else if b = 13826050856027422720 then -1 else 0
def okb (b : Nat) : Bool := b == 0 || b == 4607182418800017408 || b == 13830554455654793216 || b == 4602678819172646912 || b == 13826050856027422720
theorem fl_one (b : Nat) (c : Int) (hc : c ≠ 0) (h : joinB c (-1) = b) : Fl b c (-1) := .inl ⟨hc, h.symm⟩
theorem fl_okb (b : Nat) (h : okb b = true) : Fl b (cz b) (-1) := by
  simp only [okb, Bool.or_eq_true, beq_iff_eq] at h
  rcases h with (((h | h) | h) | h) | h
  · subst h; exact .inr ⟨by decide +kernel, false, rfl⟩
  · subst h; exact fl_one _ 2 (by decide) (by decide +kernel)
  · subst h; exact fl_one _ (-2) (by decide) (by decide +kernel)
  · subst h; exact fl_one _ 1 (by decide) (by decide +kernel)
  · subst h; exact fl_one _ (-1) (by decide) (by decide +kernel)
theorem cz_le (b : Nat) : (cz b).natAbs ≤ 2 := by
  unfold cz
  repeat' split
  all_goals decide
/-- An entry of a kind's matrix, in halves. -/
def mz (k j : Nat) : Int × Int := (cz (mbs k j).1, cz (mbs k j).2)
theorem mbs_ok : ∀ (k : Fin 21) (j : Fin 64), (okb (mbs k.1 j.1).1 && okb (mbs k.1 j.1).2) = true := by decide +kernel
theorem mz_cx (k j : Nat) (hk : k ≤ 20) (hj : j < 64) : Cx (mbs k j) (mz k j) (-1) := by
  have := mbs_ok ⟨k, by omega⟩ ⟨j, hj⟩
  rw [Bool.and_eq_true] at this
  exact ⟨fl_okb _ this.1, fl_okb _ this.2⟩
theorem mz_le (k j : Nat) : zle (mz k j) 2 := ⟨cz_le _, cz_le _⟩
/-- The same number, counted in smaller parts. -/
theorem fl_down {b : Nat} {c e : Int} (k : Nat) (h : Fl b c e) : Fl b (c * 2 ^ k) (e - k) := by
  have hp := pow_pos' k
  rcases h with ⟨h0, rfl⟩ | ⟨rfl, s, rfl⟩
  · exact .inl ⟨Int.mul_ne_zero h0 (by omega), (join_scale c k e).symm⟩
  · exact .inr ⟨by rw [Int.zero_mul], s, rfl⟩
def zdbl (a : Int × Int) : Int × Int := (a.1 * 2, a.2 * 2)
theorem cx_down {p : Nat × Nat} {a : Int × Int} {e : Int} (h : Cx p a e) : Cx p (zdbl a) (e - 1) := ⟨fl_down 1 h.1, fl_down 1 h.2⟩
theorem cx_up {p : Nat × Nat} {a : Int × Int} {e : Int} (h : Cx p (zdbl a) (e - 1)) : Cx p a e := ⟨fl_scale 1 h.1, fl_scale 1 h.2⟩
theorem rowsN_le (k : Nat) : rowsN k * rowsN k ≤ 64 := by unfold rowsN; repeat' split
                                                          all_goals decide
theorem mv_kind {w : World} {k g : Nat} (hk : k ≤ 20) (h : Rk w g 34 (rowsN k * rowsN k) (fun j => cx (mbs k j))) : Mv w (rowsN k * rowsN k) (mz k) (-1) g (mbs k) :=
  ⟨h, fun j hj => mz_cx k j hk (by have := rowsN_le k; omega), fun j _ => zle_mono (mz_le k j) (by decide)⟩
end Go.Proofs.YtnhdgellckcnbaaDoor.Gt
