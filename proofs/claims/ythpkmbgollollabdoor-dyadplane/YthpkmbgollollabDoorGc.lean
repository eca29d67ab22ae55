/- The program's part. -/
import Derived.Test.YthpkmbgollollabDoorGb
namespace Go.Proofs.YthpkmbgollollabDoor.Dy
open Go.RowKit Go.Shelf Go.Proofs.YthpkmbgollollabDoor.Sca

theorem read_p53 : dbl.read 4845873199050653696 = .number false 4503599627370496 1 := by decide +kernel
theorem read_m53 : dbl.read 14069245235905429504 = .number true 4503599627370496 1 := by decide +kernel
/-- A float between -2^53 and 2^53 is neither below nor above. -/
theorem ord53 (b : Nat) (h : mg b ≤ 4845873199050653696) : (dbl.order b 14069245235905429504 == some .lt) = false ∧ (dbl.order b 4845873199050653696 == some .gt) = false := by
  have hr := read_num b (by omega)
  have hp : pOf b ≤ 1 := by unfold pOf; omega
  have hm := mOf_lt b
  have hcmp : (mOf b : Int) ≤ ((4503599627370496 <<< (1 - pOf b).toNat : Nat) : Int) := by
    rw [Nat.shiftLeft_eq]
    by_cases c : pOf b = 1
    · rw [c]
      have : mOf b = 4503599627370496 := by unfold pOf at c; unfold mOf; split <;> omega
      rw [this]; decide
    · have : 2 ^ 1 ≤ 2 ^ (1 - pOf b).toNat := Nat.pow_le_pow_right (by decide) (by omega)
      have := Nat.mul_le_mul_left 4503599627370496 this
      omega
  have hmin : min (pOf b) 1 = pOf b := by omega
  have hsg : -(mOf b : Int) ≤ Ieee.signed (neg b) (mOf b) 0 ∧ Ieee.signed (neg b) (mOf b) 0 ≤ (mOf b : Int) := by
    unfold Ieee.signed
    rw [Nat.shiftLeft_zero]
    split <;> omega
  unfold Ieee.Format.order
  rw [hr, read_p53, read_m53]
  simp only [Ieee.Datum.order, hmin, Int.sub_self, Int.toNat_zero]
  generalize Ieee.signed (neg b) (mOf b) 0 = x at *
  have s1 : Ieee.signed true 4503599627370496 (1 - pOf b).toNat = -((4503599627370496 <<< (1 - pOf b).toNat : Nat) : Int) := rfl
  have s2 : Ieee.signed false 4503599627370496 (1 - pOf b).toNat = ((4503599627370496 <<< (1 - pOf b).toNat : Nat) : Int) := rfl
  rw [s1, s2]
  generalize ((4503599627370496 <<< (1 - pOf b).toNat : Nat) : Int) = M at *
  have c1 : compare x (-M) ≠ .lt := by
    rw [Int.compare_eq_ite_lt]
    split
    · omega
    · split <;> decide
  have c2 : compare x M ≠ .gt := by
    rw [Int.compare_eq_ite_lt]
    split
    · decide
    · split
      · omega
      · decide
  constructor
  · cases hc : compare x (-M)
    · exact absurd hc c1
    · rfl
    · rfl
  · cases hc : compare x M
    · rfl
    · rfl
    · exact absurd hc c2
theorem cut_zero (g : Bool) (x d : Nat) (h0 : x ≠ 0) : Ieee.Toward.zero.cut g (x * 2 ^ d) d = x := by
  have hl := log2_scale h0 d
  have hmin : min d ((x * 2 ^ d).log2 + 2) = d := by omega
  unfold Ieee.Toward.cut
  simp only [hmin, Nat.shiftLeft_eq, Nat.one_mul]
  rw [Nat.mul_div_cancel _ (Nat.pow_pos (by decide))]
  rfl
/-- The whole number that a float is. -/
theorem fti (s : Int) (f : Nat) (ho : s.natAbs % 2 = 1) (hlt : s.natAbs < 9007199254740992) (hf : f ≤ 53) (hb : (s * 2 ^ f).natAbs ≤ 9007199254740992) : floatToIntVal .f64 (joinB s f) .i64 = some (s * 2 ^ f) := by
  obtain ⟨k, hk, h1, h2, h3, h4⟩ := rung_odd s.natAbs f ho hlt (by omega) (by omega)
  obtain ⟨g1, g2, g3⟩ := mg_join s f
  have hneg := neg_sb (joinB s f) g3
  generalize joinB s f = b at *
  rw [← g1] at h3 h4
  have hs0 : s.natAbs ≠ 0 := by omega
  have hm0 : s.natAbs * 2 ^ k ≠ 0 := by omega
  have e1 : mOf b = s.natAbs * 2 ^ k := by generalize s.natAbs * 2 ^ k = m at *; unfold mOf; rw [h3]; rw [if_neg (by omega)]; omega
  have e2 : pOf b = (f : Int) - k := by generalize s.natAbs * 2 ^ k = m at *; unfold pOf; rw [h3]; omega
  have hcut : Ieee.Toward.zero.cut (neg b) (mOf b <<< (pOf b).toNat) (-pOf b).toNat = s.natAbs * 2 ^ f := by
    rw [Nat.shiftLeft_eq, e1, e2]
    by_cases c : k ≤ f
    · rw [show (-((f : Int) - k)).toNat = 0 by omega, show ((f : Int) - k).toNat = f - k by omega, Nat.mul_assoc, ← Nat.pow_add, show k + (f - k) = f by omega]
      have := cut_zero (neg b) (s.natAbs * 2 ^ f) 0 (Nat.mul_ne_zero hs0 (Nat.ne_of_gt (Nat.pow_pos (by decide))))
      rwa [Nat.pow_zero, Nat.mul_one] at this
    · rw [show ((f : Int) - k).toNat = 0 by omega, show (-((f : Int) - k)).toNat = k - f by omega, Nat.pow_zero, Nat.mul_one]
      have := cut_zero (neg b) (s.natAbs * 2 ^ f) (k - f) (Nat.mul_ne_zero hs0 (Nat.ne_of_gt (Nat.pow_pos (by decide))))
      rwa [Nat.mul_assoc, ← Nat.pow_add, show f + (k - f) = k by omega] at this
  have hval : Ieee.signed (neg b) (s.natAbs * 2 ^ f) 0 = s * 2 ^ f := by
    unfold Ieee.signed
    rw [Nat.shiftLeft_zero, Int.natCast_mul, Int.natCast_pow]
    rw [g2] at hneg
    by_cases c : s < 0
    · rw [if_pos c] at hneg
      have : neg b = true := by cases hn : neg b; rw [hn] at hneg; simp at hneg; rfl
      rw [this, if_pos rfl, ← Int.neg_mul, show -((s.natAbs : Nat) : Int) = s by omega]
      rfl
    · rw [if_neg c] at hneg
      have : neg b = false := by cases hn : neg b; rfl; rw [hn] at hneg; simp at hneg
      rw [this, if_neg (by decide), show ((s.natAbs : Nat) : Int) = s by omega]
      rfl
  unfold floatToIntVal
  have hd : (FloatKind.f64.decode b).toInt .zero = some (s * 2 ^ f) := by
    show (dbl.read b).toInt .zero = _
    rw [read_num b h4]
    unfold Ieee.Datum.toInt Ieee.Datum.integral
    simp only
    rw [hcut, hval]
  rw [hd]
  simp only
  rw [if_pos]
  constructor
  · show (-9223372036854775808 : Int) ≤ _; omega
  · show _ ≤ (9223372036854775807 : Int); omega
theorem cv_int {b : Nat} {v : Int} (h : floatToIntVal .f64 b .i64 = some v) (w : World) : (convert 35 2 (.float .f64 b)).run Tryd.prog w = .ok (.int .i64 v) w :=
  run_convert_float_int w _ _ _ _ _ _ (by rw [Tryd.underlying35]; rfl) Tryd.underlying2 h
theorem mg53 (s : Int) (t n : Nat) (ho : s.natAbs % 2 = 1) (hlt : s.natAbs < 9007199254740992) (ht : t ≤ 53) (hn : n ≤ 60) (hb : (s * 2 ^ t).natAbs ≤ 9007199254740992) : mg (joinB s ((t : Int) - n)) ≤ 4845873199050653696 := by
  obtain ⟨k, hk, h1, h2, h3, h4⟩ := rung_odd s.natAbs ((t : Int) - n) ho hlt (by omega) (by omega)
  rw [(mg_join s ((t : Int) - n)).1, h3]
  rw [Int.natAbs_mul, Int.natAbs_pow, show (2 : Int).natAbs = 2 from rfl] at hb
  by_cases c : t ≤ k + n
  · generalize s.natAbs * 2 ^ k = m at *
    omega
  · have e : s.natAbs * 2 ^ t = s.natAbs * 2 ^ k * 2 ^ (t - k) := by rw [Nat.mul_assoc, ← Nat.pow_add]; congr 2; omega
    rw [e] at hb
    have h5 : 2 ^ 1 ≤ 2 ^ (t - k) := Nat.pow_le_pow_right (by decide) (by omega)
    have h6 := Nat.mul_le_mul h1 (Nat.le_refl (2 ^ (t - k)))
    have h7 : t - k = 1 := by
      rcases Nat.lt_or_ge 1 (t - k) with q | q
      · have : 2 ^ 2 ≤ 2 ^ (t - k) := Nat.pow_le_pow_right (by decide) q
        have := Nat.mul_le_mul_left 4503599627370496 this
        omega
      · omega
    rw [h7] at hb h6
    generalize s.natAbs * 2 ^ k = m at *
    omega
set_option maxRecDepth 100000 in
set_option maxHeartbeats 1000000 in
theorem yPart (re : Int) (n : Nat) (hr : re.natAbs ≤ 9007199254740992) (hn : n ≤ 60) (w : World) (hT : Tz w) :
    Calls Tryd.prog 33 #[.float .f64 (joinB re (-(n : Int)))] w fun e w' => e = .returned (aV (lst n re 0, 0)) ∧ Below w.heap.size w w' := by
  by_cases h0 : re = 0
  · subst h0
    rw [join_zero]
    have cS := fun w hT => sSplit 0 (by decide) w hT
    rw [slM_zero.1, slM_zero.2.1, slM_zero.2.2] at cS
    have o1 := (ord53 0 (by decide)).1
    have o2 := (ord53 0 (by decide)).2
    have hfi : floatToIntVal .f64 0 .i64 = some 0 := by decide +kernel
    have hcv := cv_int hfi
    have cM := fun w hT => yMake 0 0 0 (by decide) (by decide) w hT
    rw [show makeR 0 0 0 = (⟨0, 0, 0⟩, 0) from rfl] at cM
    have hl : lst n 0 0 = ⟨0, 0, 0⟩ := by
      have := lst_char n n 0 0 (Nat.le_refl _) (.inl rfl)
      simpa using this
    rw [hl]
    unfold aV dV at *
    dsimp only at *
    clear hl hr
    go_enter Tryd.func33, Tryd.ntmps33
    go_wp2_with fail
    refine (cS _ (hT.below (below_new _ _))).mono ?_
    rintro e w1 ⟨rfl, hw⟩
    obtain rfl := hw.symm
    go_wp2_with fail
    refine (cM _ (hT.below (below_new _ _))).mono ?_
    rintro e w2 ⟨rfl, hb2⟩
    have hbw2 : Below w.heap.size w w2 := (below_new _ _).trans (hb2.mono (by simp))
    have hA2 := (At.new w 0 0 0).below hb2
    clear hb2 cM cS
    go_wp2_with (refine wpList_store_row rfl _ _ _ rfl w.heap.size _ rfl rfl _ _ hA2 (by exact infoD) (by rfl) (allD _ _ _) ?_)
    refine bodyPost_ret (results_ct rfl _ _ w.heap.size _ _ _ _ rfl (setRow_heap _ _ _ _ _ _ hA2) Tryd.underlying23 rfl (by exact infoD)) rfl ?_
    exact ⟨rfl, below_setRow hbw2 (by omega) _⟩
  · obtain ⟨s, t, hst, ho, hlt, ht⟩ := odd_part re h0 hr
    have e2 : joinB re (-(n : Int)) = joinB s ((t : Int) - n) := by
      rw [hst, ← join_scale s t ((t : Int) - n)]
      congr 1
      omega
    rw [e2]
    obtain ⟨_, _, k1, k2, k3⟩ := split_odd s ((t : Int) - n) ho hlt (by omega) (by omega)
    have cS := fun w hT => sSplit (joinB s ((t : Int) - n)) (mg_join s ((t : Int) - n)).2.2 w hT
    rw [k1, k2, k3] at cS
    have hb := hr
    rw [hst] at hb
    have o := ord53 _ (mg53 s t n ho hlt ht hn hb)
    obtain ⟨o1, o2⟩ := o
    rcases Nat.lt_or_ge t n with hc | hc
    · have hl : lst n re 0 = ⟨s, 0, ((n - t : Nat) : Int)⟩ := by
        have := lst_char t n s 0 (by omega) (.inr (by omega))
        rw [Int.zero_mul, ← hst] at this
        exact this
      have hmk : makeR s 0 ((n : Int) - t) = (⟨s, 0, ((n - t : Nat) : Int)⟩, 0) := by
        have hl2 := lst_char 0 (n - t) s 0 (by omega) (.inr (by omega))
        rw [Int.zero_mul, Int.pow_zero, Int.mul_one, Nat.sub_zero] at hl2
        unfold makeR mkP
        rw [if_pos (by omega), show ((n : Int) - t).toNat = n - t by omega, hl2, if_pos]
        · rfl
        · unfold inR; dsimp only; omega
      have cM := fun w hT => yMake s 0 ((n : Int) - t) ⟨by omega, by omega⟩ (by decide) w hT
      rw [hmk] at cM
      rw [hl]
      have z1 : (t : Int) - (n : Int) < 0 := by omega
      have z2 : IntKind.i64.wrap (-((t : Int) - (n : Int))) = (n : Int) - t := by rw [wrapI]; omega
      unfold aV dV at *
      dsimp only at *
      generalize joinB s ((t : Int) - n) = b at *
      clear hl hmk e2 k1 k2 k3 ho hlt hst h0 hr hb
      go_enter Tryd.func33, Tryd.ntmps33
      go_wp2_with fail
      refine (cS _ (hT.below (below_new _ _))).mono ?_
      rintro e w1 ⟨rfl, hw⟩
      obtain rfl := hw.symm
      go_wp2_with fail
      refine (cM _ (hT.below (below_new _ _))).mono ?_
      rintro e w2 ⟨rfl, hb2⟩
      have hbw2 : Below w.heap.size w w2 := (below_new _ _).trans (hb2.mono (by simp))
      have hA2 := (At.new w 0 0 0).below hb2
      clear hb2 cM cS
      go_wp2_with (refine wpList_store_row rfl _ _ _ rfl w.heap.size _ rfl rfl _ _ hA2 (by exact infoD) (by rfl) (allD _ _ _) ?_)
      refine bodyPost_ret (results_ct rfl _ _ w.heap.size _ _ _ _ rfl (setRow_heap _ _ _ _ _ _ hA2) Tryd.underlying23 rfl (by exact infoD)) rfl ?_
      exact ⟨rfl, below_setRow hbw2 (by omega) _⟩
    · have hl : lst n re 0 = ⟨s * 2 ^ (t - n), 0, 0⟩ := by
        have := lst_char n n (s * 2 ^ (t - n)) 0 (Nat.le_refl _) (.inl rfl)
        rw [Int.zero_mul, Int.mul_assoc, ← Int.pow_add, show t - n + n = t by omega, ← hst] at this
        rw [this]
        simp
      have htn : (t : Int) - (n : Int) = ((t - n : Nat) : Int) := by omega
      have hle : (s * 2 ^ (t - n)).natAbs ≤ 9007199254740992 := by
        rw [Int.natAbs_mul, Int.natAbs_pow, show (2 : Int).natAbs = 2 from rfl] at hb ⊢
        have : 2 ^ (t - n) ≤ 2 ^ t := Nat.pow_le_pow_right (by decide) (by omega)
        have := Nat.mul_le_mul_left s.natAbs this
        omega
      have hfi := fti s (t - n) ho hlt (by omega) hle
      have hcv := cv_int hfi
      rw [htn] at cS o1 o2 ⊢
      have hmk : makeR (s * 2 ^ (t - n)) 0 0 = (⟨s * 2 ^ (t - n), 0, 0⟩, 0) := by
        unfold makeR mkP
        rw [if_pos (by omega), show (0 : Int).toNat = 0 from rfl, lst, if_pos]
        · rfl
        · unfold inR; dsimp only; omega
      have cM := fun w hT => yMake (s * 2 ^ (t - n)) 0 0 ⟨by omega, by omega⟩ (by decide) w hT
      rw [hmk] at cM
      rw [hl]
      have z1 : ¬ ((t - n : Nat) : Int) < 0 := by omega
      unfold aV dV at *
      dsimp only at *
      generalize joinB s ((t - n : Nat) : Int) = b at *
      generalize s * 2 ^ (t - n) = v at *
      clear hl hmk e2 k1 k2 k3 ho hlt hst h0 hr hb hle htn
      go_enter Tryd.func33, Tryd.ntmps33
      go_wp2_with fail
      refine (cS _ (hT.below (below_new _ _))).mono ?_
      rintro e w1 ⟨rfl, hw⟩
      obtain rfl := hw.symm
      go_wp2_with fail
      refine (cM _ (hT.below (below_new _ _))).mono ?_
      rintro e w2 ⟨rfl, hb2⟩
      have hbw2 : Below w.heap.size w w2 := (below_new _ _).trans (hb2.mono (by simp))
      have hA2 := (At.new w 0 0 0).below hb2
      clear hb2 cM cS
      go_wp2_with (refine wpList_store_row rfl _ _ _ rfl w.heap.size _ rfl rfl _ _ hA2 (by exact infoD) (by rfl) (allD _ _ _) ?_)
      refine bodyPost_ret (results_ct rfl _ _ w.heap.size _ _ _ _ rfl (setRow_heap _ _ _ _ _ _ hA2) Tryd.underlying23 rfl (by exact infoD)) rfl ?_
      exact ⟨rfl, below_setRow hbw2 (by omega) _⟩
end Go.Proofs.YthpkmbgollollabDoor.Dy
