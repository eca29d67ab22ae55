/- ScalarBack, as it is walked. -/
import Derived.Test.YtbnclgndgjmmkaaGreatDoorAl
import Derived.Test.YtbnclgndgjmmkaaGreatDoorLe
import Derived.Test.YtbnclgndgjmmkaaGreatDoorBb
namespace Go.Proofs.YtbnclgndgjmmkaaGreatDoor.Sca
open Go.RowKit Go.Lib Go.Shelf

set_option maxRecDepth 100000 in
theorem itoa_len_fin : ∀ k : Fin 2300, (Lib.itoa ((k.val : Int) - 1150)).length ≤ 5 := by decide +kernel
theorem itoa_len5 (e : Int) (h1 : -1150 ≤ e) (h2 : e < 1150) : (Lib.itoa e).length ≤ 5 := by
  have := itoa_len_fin ⟨(e + 1150).toNat, by omega⟩
  rw [show (((e + 1150).toNat : Nat) : Int) - 1150 = e from by omega] at this
  exact this
theorem frac_len (b : Nat) : (fracB b).length ≤ 17 := by
  unfold fracB
  split
  · simp
  · rw [List.length_cons]; exact Nat.succ_le_succ (hexs_len 16 b)
theorem pr_len (b : Nat) : (prB b).length ≤ 1000 := by
  have hm := mns_len b
  unfold prB
  split
  · decide
  · split
    · rw [List.length_append]; simp; omega
    · split
      · rw [List.length_append]; simp; omega
      · rename_i h1 h2 h3
        have h : mg b < 9218868437227405312 := by omega
        have hE : slE b = spE b := by unfold slE; rw [if_pos h]
        have hbd := slE_bd b
        rw [hE] at hbd
        have hm0 : mOf b ≠ 0 := fun e => h3 ((mOf_zero b).1 e)
        have hol := odd_le (mOf b)
        have hmo := mOf_lt b
        have hbl : bl (odd (mOf b)) ≤ 53 := bl_lt (show odd (mOf b) < 2 ^ 53 by omega)
        have hsE : spE b = pOf b + (tz (mOf b) : Int) := by unfold spE; rw [if_neg h3]
        have hz := (tz_spec (mOf b) hm0 (by omega)).2
        have hpo : pOf b ≤ 971 := by unfold pOf; omega
        have hpw : pwB b = spE b + (bl (odd (mOf b)) : Int) - 1 := rfl
        have hi := itoa_len5 (pwB b) (by omega) (by omega)
        have hf := frac_len (frB b)
        unfold numB
        simp only [List.length_append, List.length_cons, List.length_nil]
        omega
theorem can_can (b : Nat) : can (can b) = can b := by
  by_cases h : 9218868437227405312 < mg b
  · rw [can_nan b h]; decide +kernel
  · rw [can_num b h, can_num b h]
theorem join_split (b : Nat) (hb : b < 18446744073709551616) (h : mg b < 9218868437227405312) : joinB (slM b) (slE b) = if mg b = 0 then 0 else b := by
  unfold slM slE
  rw [if_pos h, if_pos h]
  unfold spM spE
  by_cases h0 : mg b = 0
  · rw [if_pos h0, if_pos h0, if_pos h0]; rfl
  · rw [if_neg h0, if_neg h0, if_neg h0]
    have hm0 : mOf b ≠ 0 := fun e => h0 ((mOf_zero b).1 e)
    have hm := mOf_lt b
    obtain ⟨ho1, ho2⟩ := odd_mul (mOf b) hm0 (by omega)
    have hsum := mg_sb b
    have hru : rung (odd (mOf b)) (pOf b + (tz (mOf b) : Int)) = mg b := by
      rw [← rung_scale (odd (mOf b)) (tz (mOf b)), ho1, show pOf b + (tz (mOf b) : Int) - (tz (mOf b) : Int) = pOf b from by omega]
      exact rung_read b h
    rcases sb_eq b hb with hs | hs
    · rw [if_pos hs]
      unfold joinB
      rw [if_neg (by omega), Int.natAbs_natCast, hru]
      omega
    · rw [if_neg (by omega)]
      unfold joinB
      rw [if_pos (by omega), Int.natAbs_neg, Int.natAbs_natCast, hru]
      omega
set_option maxRecDepth 100000 in
theorem back_A (b cl : Nat) (m x f : Int) (s : ByteArray) (w : World) (hT : Tb w)
    (cO : ∀ w, Calls Tryz.prog 19 #[.int .u64 (b : Int)] w fun e w' => e = .returned (.float .f64 b) ∧ w' = w) (cS : Calls Tryz.prog 29 #[.float .f64 b] w fun e w' => e = .returned (.tuple #[.int .i64 m, .int .i64 x, .int .i64 f]) ∧ w' = w)
    (cP : Calls Tryz.prog 35 #[.float .f64 b] w fun e w' => e = .returned (.string s) ∧ Below w.heap.size w w') (cR : ∀ w', Below w.heap.size w w' → Calls Tryz.prog 34 #[.string s] w' fun e w'' => e = .returned (.tuple #[.float .f64 (can b), .int .i64 0]) ∧ Below w'.heap.size w' w'')
    (cA : ∀ w, Calls Tryz.prog 23 #[.float .f64 b, .float .f64 (can b)] w fun e w' => e = .returned (.bool true) ∧ w' = w) (cB : ∀ w, Calls Tryz.prog 16 #[.float .f64 b] w fun e w' => e = .returned (.int .u64 (can b : Int)) ∧ w' = w)
    (cQ : ∀ w, Calls Tryz.prog 19 #[.int .u64 (can b : Int)] w fun e w' => e = .returned (.float .f64 (can b)) ∧ w' = w) (cD : ∀ w, Calls Tryz.prog 23 #[.float .f64 (can b), .float .f64 b] w fun e w' => e = .returned (.bool true) ∧ w' = w)
    (cC : ∀ w, Calls Tryz.prog 12 #[.float .f64 b] w fun e w' => e = .returned (.int .i64 (cl : Int)) ∧ w' = w)
    (hcl : cl = 1 ∨ cl = 2) (hm : m = 0) (hx : x = 0) (hf : f = 20) :
    Calls Tryz.prog 7 #[.int .u64 (b : Int)] w fun e w' => e = .returned (.bool true) ∧ Below w.heap.size w w' := by
  have mixed := mixed_ok
  subst hm hx hf
  rcases hcl with rfl | rfl
  · go_enter Tryz.func7, Tryz.ntmps7
    go_wp2_with fail
    refine (cO _).mono ?_
    rintro e w' ⟨rfl, hw⟩
    obtain rfl := hw.symm
    go_wp2_with fail
    refine cS.mono ?_
    rintro e w' ⟨rfl, hw⟩
    obtain rfl := hw.symm
    go_wp2_with fail
    refine cP.mono ?_
    rintro e1 w1 ⟨rfl, hb1⟩
    go_wp2_with fail
    refine (cR _ hb1).mono ?_
    rintro e2 w2 ⟨rfl, hb2⟩
    have HB : Hid (Below w.heap.size w w2) := hb1.trans (hb2.mono hb1.size)
    have HT : Tb w2 := hT.below HB.out
    clear cO cS cP cR
    go_wp2_with fail
    refine (kNum 0 _).mono ?_
    rintro e w' ⟨rfl, hw⟩
    obtain rfl := hw.symm
    go_wp2_with fail
    refine (cA _).mono ?_
    rintro e w' ⟨rfl, hw⟩
    obtain rfl := hw.symm
    go_wp2_with fail
    refine (cB _).mono ?_
    rintro e w' ⟨rfl, hw⟩
    obtain rfl := hw.symm
    go_wp2_with fail
    refine (cQ _).mono ?_
    rintro e w' ⟨rfl, hw⟩
    obtain rfl := hw.symm
    go_wp2_with fail
    refine (cD _).mono ?_
    rintro e w' ⟨rfl, hw⟩
    obtain rfl := hw.symm
    go_wp2_with fail
    refine (cC _).mono ?_
    rintro e w' ⟨rfl, hw⟩
    obtain rfl := hw.symm
    go_wp2_with fail
    refine (kNum 20 _).mono ?_
    rintro e w' ⟨rfl, hw⟩
    obtain rfl := hw.symm
    go_wp2_with fail
    refine (alive_any w2 HT).mono ?_
    rintro e w3 ⟨rfl, hb3⟩
    go_wp2
    go_ret
    exact ⟨rfl, HB.out.trans (hb3.mono HB.out.size)⟩
  · go_enter Tryz.func7, Tryz.ntmps7
    go_wp2_with fail
    refine (cO _).mono ?_
    rintro e w' ⟨rfl, hw⟩
    obtain rfl := hw.symm
    go_wp2_with fail
    refine cS.mono ?_
    rintro e w' ⟨rfl, hw⟩
    obtain rfl := hw.symm
    go_wp2_with fail
    refine cP.mono ?_
    rintro e1 w1 ⟨rfl, hb1⟩
    go_wp2_with fail
    refine (cR _ hb1).mono ?_
    rintro e2 w2 ⟨rfl, hb2⟩
    have HB : Hid (Below w.heap.size w w2) := hb1.trans (hb2.mono hb1.size)
    have HT : Tb w2 := hT.below HB.out
    clear cO cS cP cR
    go_wp2_with fail
    refine (kNum 0 _).mono ?_
    rintro e w' ⟨rfl, hw⟩
    obtain rfl := hw.symm
    go_wp2_with fail
    refine (cA _).mono ?_
    rintro e w' ⟨rfl, hw⟩
    obtain rfl := hw.symm
    go_wp2_with fail
    refine (cB _).mono ?_
    rintro e w' ⟨rfl, hw⟩
    obtain rfl := hw.symm
    go_wp2_with fail
    refine (cQ _).mono ?_
    rintro e w' ⟨rfl, hw⟩
    obtain rfl := hw.symm
    go_wp2_with fail
    refine (cD _).mono ?_
    rintro e w' ⟨rfl, hw⟩
    obtain rfl := hw.symm
    go_wp2_with fail
    refine (cC _).mono ?_
    rintro e w' ⟨rfl, hw⟩
    obtain rfl := hw.symm
    go_wp2_with fail
    refine (kNum 20 _).mono ?_
    rintro e w' ⟨rfl, hw⟩
    obtain rfl := hw.symm
    go_wp2_with fail
    refine (alive_any w2 HT).mono ?_
    rintro e w3 ⟨rfl, hb3⟩
    go_wp2
    go_ret
    exact ⟨rfl, HB.out.trans (hb3.mono HB.out.size)⟩
set_option maxRecDepth 100000 in
theorem back_B (b cl : Nat) (m x f : Int) (s : ByteArray) (w : World) (hT : Tb w)
    (cO : ∀ w, Calls Tryz.prog 19 #[.int .u64 (b : Int)] w fun e w' => e = .returned (.float .f64 b) ∧ w' = w) (cS : Calls Tryz.prog 29 #[.float .f64 b] w fun e w' => e = .returned (.tuple #[.int .i64 m, .int .i64 x, .int .i64 f]) ∧ w' = w)
    (cP : Calls Tryz.prog 35 #[.float .f64 b] w fun e w' => e = .returned (.string s) ∧ Below w.heap.size w w') (cR : ∀ w', Below w.heap.size w w' → Calls Tryz.prog 34 #[.string s] w' fun e w'' => e = .returned (.tuple #[.float .f64 (can b), .int .i64 0]) ∧ Below w'.heap.size w' w'')
    (cA : ∀ w, Calls Tryz.prog 23 #[.float .f64 b, .float .f64 (can b)] w fun e w' => e = .returned (.bool true) ∧ w' = w) (cB : ∀ w, Calls Tryz.prog 16 #[.float .f64 b] w fun e w' => e = .returned (.int .u64 (can b : Int)) ∧ w' = w)
    (cQ : ∀ w, Calls Tryz.prog 19 #[.int .u64 (can b : Int)] w fun e w' => e = .returned (.float .f64 (can b)) ∧ w' = w) (cD : ∀ w, Calls Tryz.prog 23 #[.float .f64 (can b), .float .f64 b] w fun e w' => e = .returned (.bool true) ∧ w' = w)
    (cC : ∀ w, Calls Tryz.prog 12 #[.float .f64 b] w fun e w' => e = .returned (.int .i64 (cl : Int)) ∧ w' = w)
    (hcl : cl = 3) (hm : m = 0) (hx : x = 0) (hf : f = 0) (j p : Nat) (cJ : ∀ w, Calls Tryz.prog 32 #[.int .i64 m, .int .i64 x] w fun e' w' => e' = .returned (.float .f64 j) ∧ ∃ q, w' = w.drewN q) (cU : ∀ w, Calls Tryz.prog 20 #[.float .f64 j] w fun e w' => (∃ r, e = .returned (.float .f64 r) ∧ r < 18446744073709551616 ∧ can r = can p) ∧ ∃ q, w' = w.drewN q)
    (cV : ∀ w, Calls Tryz.prog 20 #[.float .f64 b] w fun e w' => (∃ r, e = .returned (.float .f64 r) ∧ r < 18446744073709551616 ∧ can r = can p) ∧ ∃ q, w' = w.drewN q) :
    Calls Tryz.prog 7 #[.int .u64 (b : Int)] w fun e w' => e = .returned (.bool true) ∧ Below w.heap.size w w' := by
  have mixed := mixed_ok
  subst hm hx hf hcl
  go_enter Tryz.func7, Tryz.ntmps7
  go_wp2_with fail
  refine (cO _).mono ?_
  rintro e w' ⟨rfl, hw⟩
  obtain rfl := hw.symm
  go_wp2_with fail
  refine cS.mono ?_
  rintro e w' ⟨rfl, hw⟩
  obtain rfl := hw.symm
  go_wp2_with fail
  refine cP.mono ?_
  rintro e1 w1 ⟨rfl, hb1⟩
  go_wp2_with fail
  refine (cR _ hb1).mono ?_
  rintro e2 w2 ⟨rfl, hb2⟩
  have HB : Hid (Below w.heap.size w w2) := hb1.trans (hb2.mono hb1.size)
  have HT : Tb w2 := hT.below HB.out
  clear cO cS cP cR
  go_wp2_with fail
  refine (kNum 0 _).mono ?_
  rintro e w' ⟨rfl, hw⟩
  obtain rfl := hw.symm
  go_wp2_with fail
  refine (cA _).mono ?_
  rintro e w' ⟨rfl, hw⟩
  obtain rfl := hw.symm
  go_wp2_with fail
  refine (cB _).mono ?_
  rintro e w' ⟨rfl, hw⟩
  obtain rfl := hw.symm
  go_wp2_with fail
  refine (cQ _).mono ?_
  rintro e w' ⟨rfl, hw⟩
  obtain rfl := hw.symm
  go_wp2_with fail
  refine (cD _).mono ?_
  rintro e w' ⟨rfl, hw⟩
  obtain rfl := hw.symm
  go_wp2_with fail
  refine (cC _).mono ?_
  rintro e w' ⟨rfl, hw⟩
  obtain rfl := hw.symm
  go_wp2_with fail
  refine (kNum 0 _).mono ?_
  rintro e w' ⟨rfl, hw⟩
  obtain rfl := hw.symm
  go_wp2_with fail
  refine (cJ _).mono ?_
  rintro e3 w3 ⟨rfl, q1, rfl⟩
  go_wp2_with fail
  refine (cU _).mono ?_
  rintro e4 w4 ⟨⟨r1, rfl, hr1, hc1⟩, q2, rfl⟩
  go_wp2_with fail
  refine (cV _).mono ?_
  rintro e5 w5 ⟨⟨r2, rfl, hr2, hc2⟩, q3, rfl⟩
  have cW := fun w => sSame r1 r2 w
  rw [hc1, hc2, beq_self_eq_true] at cW
  clear hc1 hc2 hr1 hr2
  go_wp2_with fail
  refine (cW _).mono ?_
  rintro e w' ⟨rfl, hw⟩
  obtain rfl := hw.symm
  go_wp2_with fail
  refine (aliveN w2 HT _).mono ?_
  rintro e w3 ⟨rfl, hb3⟩
  go_wp2
  go_ret
  exact ⟨rfl, HB.out.trans (hb3.mono HB.out.size)⟩
set_option maxRecDepth 100000 in
theorem back_C (b cl : Nat) (m x f : Int) (s : ByteArray) (w : World) (hT : Tb w)
    (cO : ∀ w, Calls Tryz.prog 19 #[.int .u64 (b : Int)] w fun e w' => e = .returned (.float .f64 b) ∧ w' = w) (cS : Calls Tryz.prog 29 #[.float .f64 b] w fun e w' => e = .returned (.tuple #[.int .i64 m, .int .i64 x, .int .i64 f]) ∧ w' = w)
    (cP : Calls Tryz.prog 35 #[.float .f64 b] w fun e w' => e = .returned (.string s) ∧ Below w.heap.size w w') (cR : ∀ w', Below w.heap.size w w' → Calls Tryz.prog 34 #[.string s] w' fun e w'' => e = .returned (.tuple #[.float .f64 (can b), .int .i64 0]) ∧ Below w'.heap.size w' w'')
    (cA : ∀ w, Calls Tryz.prog 23 #[.float .f64 b, .float .f64 (can b)] w fun e w' => e = .returned (.bool true) ∧ w' = w) (cB : ∀ w, Calls Tryz.prog 16 #[.float .f64 b] w fun e w' => e = .returned (.int .u64 (can b : Int)) ∧ w' = w)
    (cQ : ∀ w, Calls Tryz.prog 19 #[.int .u64 (can b : Int)] w fun e w' => e = .returned (.float .f64 (can b)) ∧ w' = w) (cD : ∀ w, Calls Tryz.prog 23 #[.float .f64 (can b), .float .f64 b] w fun e w' => e = .returned (.bool true) ∧ w' = w)
    (cC : ∀ w, Calls Tryz.prog 12 #[.float .f64 b] w fun e w' => e = .returned (.int .i64 (cl : Int)) ∧ w' = w)
    (h1 : ((cl : Int) == 1) = false) (h2 : ((cl : Int) == 2) = false) (hm : m % 2 = 1) (hf : f = 0) (j p : Nat) (cJ : ∀ w, Calls Tryz.prog 32 #[.int .i64 m, .int .i64 x] w fun e' w' => e' = .returned (.float .f64 j) ∧ ∃ q, w' = w.drewN q) (cU : ∀ w, Calls Tryz.prog 20 #[.float .f64 j] w fun e w' => (∃ r, e = .returned (.float .f64 r) ∧ r < 18446744073709551616 ∧ can r = can p) ∧ ∃ q, w' = w.drewN q)
    (cV : ∀ w, Calls Tryz.prog 20 #[.float .f64 b] w fun e w' => (∃ r, e = .returned (.float .f64 r) ∧ r < 18446744073709551616 ∧ can r = can p) ∧ ∃ q, w' = w.drewN q) :
    Calls Tryz.prog 7 #[.int .u64 (b : Int)] w fun e w' => e = .returned (.bool true) ∧ Below w.heap.size w w' := by
  have mixed := mixed_ok
  have hm0 : (m == 0) = false := by rw [beq_eq_false_iff_ne]; omega
  have hmt : m.tmod 2 ≠ 0 := by
    rcases Int.lt_or_le m 0 with c | c
    · obtain ⟨n, rfl⟩ : ∃ n : Int, m = -n := ⟨-m, by omega⟩
      rw [Int.neg_tmod, Int.tmod_eq_emod_of_nonneg (by omega)]; omega
    · rw [Int.tmod_eq_emod_of_nonneg c]; omega
  have hm2 : (m.tmod 2 == 0) = false := by rw [beq_eq_false_iff_ne]; exact hmt
  have hm3 : (m.tmod 2 != 0) = true := by rw [bne_iff_ne]; exact hmt
  subst hf
  go_enter Tryz.func7, Tryz.ntmps7
  go_wp2_with fail
  refine (cO _).mono ?_
  rintro e w' ⟨rfl, hw⟩
  obtain rfl := hw.symm
  go_wp2_with fail
  refine cS.mono ?_
  rintro e w' ⟨rfl, hw⟩
  obtain rfl := hw.symm
  go_wp2_with fail
  refine cP.mono ?_
  rintro e1 w1 ⟨rfl, hb1⟩
  go_wp2_with fail
  refine (cR _ hb1).mono ?_
  rintro e2 w2 ⟨rfl, hb2⟩
  have HB : Hid (Below w.heap.size w w2) := hb1.trans (hb2.mono hb1.size)
  have HT : Tb w2 := hT.below HB.out
  clear cO cS cP cR
  go_wp2_with fail
  refine (kNum 0 _).mono ?_
  rintro e w' ⟨rfl, hw⟩
  obtain rfl := hw.symm
  go_wp2_with fail
  refine (cA _).mono ?_
  rintro e w' ⟨rfl, hw⟩
  obtain rfl := hw.symm
  go_wp2_with fail
  refine (cB _).mono ?_
  rintro e w' ⟨rfl, hw⟩
  obtain rfl := hw.symm
  go_wp2_with fail
  refine (cQ _).mono ?_
  rintro e w' ⟨rfl, hw⟩
  obtain rfl := hw.symm
  go_wp2_with fail
  refine (cD _).mono ?_
  rintro e w' ⟨rfl, hw⟩
  obtain rfl := hw.symm
  go_wp2_with fail
  refine (cC _).mono ?_
  rintro e w' ⟨rfl, hw⟩
  obtain rfl := hw.symm
  go_wp2_with fail
  refine (kNum 0 _).mono ?_
  rintro e w' ⟨rfl, hw⟩
  obtain rfl := hw.symm
  go_wp2_with fail
  refine (cJ _).mono ?_
  rintro e3 w3 ⟨rfl, q1, rfl⟩
  go_wp2_with fail
  refine (cU _).mono ?_
  rintro e4 w4 ⟨⟨r1, rfl, hr1, hc1⟩, q2, rfl⟩
  go_wp2_with fail
  refine (cV _).mono ?_
  rintro e5 w5 ⟨⟨r2, rfl, hr2, hc2⟩, q3, rfl⟩
  have cW := fun w => sSame r1 r2 w
  rw [hc1, hc2, beq_self_eq_true] at cW
  clear hc1 hc2 hr1 hr2
  go_wp2_with fail
  refine (cW _).mono ?_
  rintro e w' ⟨rfl, hw⟩
  obtain rfl := hw.symm
  go_wp2_with fail
  refine (aliveN w2 HT _).mono ?_
  rintro e w3 ⟨rfl, hb3⟩
  go_wp2
  go_ret
  exact ⟨rfl, HB.out.trans (hb3.mono HB.out.size)⟩
theorem back_law (b : Nat) (hb : b < 18446744073709551616) (w : World) (hT : Tb w) :
    Calls Tryz.prog 7 #[.int .u64 (b : Int)] w fun e w' => e = .returned (.bool true) ∧ Below w.heap.size w w' := by
  have cR : ∀ w', Below w.heap.size w w' → Calls Tryz.prog 34 #[.string ⟨(prB b).toArray⟩] w' fun e w'' => e = .returned (.tuple #[.float .f64 (can b), .int .i64 0]) ∧ Below w'.heap.size w' w'' := fun w' h => by
    have T := hT.below h
    have := sParse (prB b) (by have := pr_len b; omega) w' T.er T.tz T.ten
    rw [par_back b hb, if_pos rfl, if_pos rfl, read_back b hb] at this
    exact this
  have cA := fun w => sSame b (can b) w
  rw [can_can, beq_self_eq_true] at cA
  have cD := fun w => sSame (can b) b w
  rw [can_can, beq_self_eq_true] at cD
  have cS := sSplit b hb w hT.tz
  have cP := sPrint b hb w hT.tz hT.ten
  have cC := fun w => sClass b hb w
  by_cases h : mg b < 9218868437227405312
  · have hmb : -9223372036854775808 ≤ slM b ∧ slM b ≤ 9223372036854775807 := by
      have h1 := odd_le (mOf b)
      have h2 := mOf_lt b
      unfold slM spM
      rw [if_pos h]
      split
      · omega
      · split <;> omega
    have cJ := fun w => sJoin (slM b) (slE b) hmb.1 hmb.2 w
    have hf : spF b = 0 := by unfold spF; rw [if_pos h]
    have cV := fun w => sPlus b hb w
    rw [join_split b hb h] at cJ
    by_cases h0 : mg b = 0
    · rw [if_pos h0] at cJ
      have hcl : clsOf b = 3 := by unfold clsOf; rw [if_neg (by omega), if_neg (by omega), if_pos h0]
      have cU := fun w => sPlus 0 (by decide) w
      rw [show plusB 0 = 0 from rfl] at cU
      rw [show plusB b = 0 from by unfold plusB; rw [if_pos h0]] at cV
      exact back_B b _ _ _ _ _ w hT (sOf b) cS cP cR cA (sBits b) (sOf (can b)) cD cC hcl (by unfold slM spM; rw [if_pos h, if_pos h0]) (by unfold slE spE; rw [if_pos h, if_pos h0]) hf 0 0 cJ cU cV
    · rw [if_neg h0] at cJ
      have hcl : clsOf b = 4 ∨ clsOf b = 5 := by unfold clsOf; rw [if_neg (by omega), if_neg (by omega), if_neg h0]; split <;> simp
      have hm0 : mOf b ≠ 0 := fun e => h0 ((mOf_zero b).1 e)
      have ho := (odd_mul (mOf b) hm0 (by have := mOf_lt b; omega)).2
      have hodd : slM b % 2 = 1 := by
        unfold slM spM
        rw [if_pos h, if_neg h0]
        split <;> omega
      exact back_C b _ _ _ _ _ w hT (sOf b) cS cP cR cA (sBits b) (sOf (can b)) cD cC (by rcases hcl with e | e <;> rw [e] <;> rfl) (by rcases hcl with e | e <;> rw [e] <;> rfl) hodd hf b (plusB b) cJ cV cV
  · have hcl : clsOf b = 1 ∨ clsOf b = 2 := by
      unfold clsOf
      by_cases h1 : 9218868437227405312 < mg b
      · rw [if_pos h1]; exact .inl rfl
      · rw [if_neg h1, if_pos (by omega)]; exact .inr rfl
    exact back_A b _ _ _ _ _ w hT (sOf b) cS cP cR cA (sBits b) (sOf (can b)) cD cC hcl (by unfold slM; rw [if_neg h]) (by unfold slE; rw [if_neg h]) (by unfold spF; rw [if_neg h])
end Go.Proofs.YtbnclgndgjmmkaaGreatDoor.Sca
