/- ScalarTotal, as it is walked. -/
import Derived.Test.YtbnclgndgjmmkaaGreatDoorAl
import Derived.Test.YtbnclgndgjmmkaaGreatDoorLa
namespace Go.Proofs.YtbnclgndgjmmkaaGreatDoor.Sca
open Go.RowKit Go.Lib Go.Shelf

theorem rk_inj {a b : Nat} (ha : a < 18446744073709551616) (hb : b < 18446744073709551616) : rk a = rk b ↔ a = b := by
  unfold rk
  split <;> split <;> omega
theorem unrk_rk (r : Nat) (h : r < 18446744073709551616) : rk (unrk r) = r := by
  unfold rk unrk
  split <;> split <;> omega
theorem rk_unrk (b : Nat) (h : b < 18446744073709551616) : unrk (rk b) = b := by
  unfold rk unrk
  split <;> split <;> omega
/-- A float that is no NaN and not the last: its neighbour is one above, and is no NaN. -/
theorem nx_step (b : Nat) (hb : b < 18446744073709551616) (h1 : ¬ 9218868437227405312 < mg b) (h2 : b ≠ 9218868437227405312) : can b = b ∧ can (nxU b) = nxU b ∧ rk (nxU b) = rk b + 1 ∧ nxD (nxU b) = b := by
  have hr := rk_up b hb h1
  have e : nxU b = unrk (rk b + 1) := by unfold nxU; rw [if_neg (fun h => h.elim h1 h2)]
  have hk : rk (nxU b) = rk b + 1 := by rw [e, unrk_rk _ hr]
  have hl := nxU_lt b hb
  have hn : ¬ 9218868437227405312 < mg (nxU b) := by
    rw [e]
    unfold mg at h1 ⊢
    unfold unrk rk
    split <;> split <;> omega
  refine ⟨can_num b h1, can_num _ hn, hk, ?_⟩
  have hd : nxU b ≠ 18442240474082181120 := by
    intro h
    rw [h] at hk
    have : rk 18442240474082181120 = 4503599627370495 := by decide
    rw [this] at hk
    unfold rk at hk
    unfold mg at h1
    split at hk <;> omega
  unfold nxD
  rw [if_neg (fun h => h.elim hn hd), hk, Nat.add_sub_cancel, rk_unrk b hb]
set_option maxRecDepth 100000 in
set_option maxHeartbeats 1000000 in
theorem total_A (b c d : Nat) (p q r p' : Int) (sm : Bool) (w : World) (hT : Tb w)
    (c1 : ∀ w, Calls Tryz.prog 19 #[.int .u64 (b : Int)] w fun e w' => e = .returned (.float .f64 b) ∧ w' = w) (c2 : ∀ w, Calls Tryz.prog 19 #[.int .u64 (c : Int)] w fun e w' => e = .returned (.float .f64 c) ∧ w' = w) (c3 : ∀ w, Calls Tryz.prog 19 #[.int .u64 (d : Int)] w fun e w' => e = .returned (.float .f64 d) ∧ w' = w)
    (p1 : ∀ w, Calls Tryz.prog 25 #[.float .f64 b, .float .f64 c] w fun e w' => e = .returned (.int .i64 p) ∧ w' = w) (p2 : ∀ w, Calls Tryz.prog 25 #[.float .f64 c, .float .f64 d] w fun e w' => e = .returned (.int .i64 q) ∧ w' = w)
    (p3 : ∀ w, Calls Tryz.prog 25 #[.float .f64 b, .float .f64 d] w fun e w' => e = .returned (.int .i64 r) ∧ w' = w) (p4 : ∀ w, Calls Tryz.prog 25 #[.float .f64 c, .float .f64 b] w fun e w' => e = .returned (.int .i64 p') ∧ w' = w)
    (ps : ∀ w, Calls Tryz.prog 23 #[.float .f64 b, .float .f64 c] w fun e w' => e = .returned (.bool sm) ∧ w' = w)
    (h1 : decide (p < -1) = false) (h2 : decide (1 < p) = false) (h3' : (p' != -p) = false) (hpb : -1 ≤ p ∧ p ≤ 1) (h4 : (p == 0) = sm)
    (hg : decide (p ≤ 0) = false ∨ (decide (p ≤ 0) = true ∧ decide (q ≤ 0) = false) ∨ (decide (p ≤ 0) = true ∧ decide (q ≤ 0) = true ∧ decide (0 < r) = false)) (n : Nat) (cN : ∀ w, Calls Tryz.prog 27 #[.float .f64 b, .bool true] w fun e w' => e = .returned (.float .f64 n) ∧ w' = w)
    (cK : ∀ w, Calls Tryz.prog 12 #[.float .f64 b] w fun e w' => e = .returned (.int .i64 1) ∧ w' = w) :
    Calls Tryz.prog 5 #[.int .u64 (b : Int), .int .u64 (c : Int), .int .u64 (d : Int)] w fun e w' => e = .returned (.bool true) ∧ Below w.heap.size w w' := by
  have mixed := mixed_ok
  rcases hg with g1 | ⟨g1, g2⟩ | ⟨g1, g2, g3⟩
  · go_enter Tryz.func5, Tryz.ntmps5
    go_wp2_with fail
    refine (c1 _).mono ?_
    rintro e w' ⟨rfl, hw⟩
    obtain rfl := hw.symm
    go_wp2_with fail
    refine (c2 _).mono ?_
    rintro e w' ⟨rfl, hw⟩
    obtain rfl := hw.symm
    go_wp2_with fail
    refine (c3 _).mono ?_
    rintro e w' ⟨rfl, hw⟩
    obtain rfl := hw.symm
    go_wp2_with fail
    refine (p1 _).mono ?_
    rintro e w' ⟨rfl, hw⟩
    obtain rfl := hw.symm
    go_wp2_with fail
    refine (p2 _).mono ?_
    rintro e w' ⟨rfl, hw⟩
    obtain rfl := hw.symm
    go_wp2_with fail
    refine (p3 _).mono ?_
    rintro e w' ⟨rfl, hw⟩
    obtain rfl := hw.symm
    go_wp2_with fail
    refine (p4 _).mono ?_
    rintro e w' ⟨rfl, hw⟩
    obtain rfl := hw.symm
    go_wp2_with fail
    refine (ps _).mono ?_
    rintro e w' ⟨rfl, hw⟩
    obtain rfl := hw.symm
    go_wp2_with fail
    refine (cN _).mono ?_
    rintro e w' ⟨rfl, hw⟩
    obtain rfl := hw.symm
    go_wp2_with fail
    refine (cK _).mono ?_
    rintro e w' ⟨rfl, hw⟩
    obtain rfl := hw.symm
    go_wp2_with fail
    refine (alive_any w hT).mono ?_
    rintro e w1 ⟨rfl, hb1⟩
    go_wp2
    go_ret
    exact ⟨rfl, hb1⟩
  · go_enter Tryz.func5, Tryz.ntmps5
    go_wp2_with fail
    refine (c1 _).mono ?_
    rintro e w' ⟨rfl, hw⟩
    obtain rfl := hw.symm
    go_wp2_with fail
    refine (c2 _).mono ?_
    rintro e w' ⟨rfl, hw⟩
    obtain rfl := hw.symm
    go_wp2_with fail
    refine (c3 _).mono ?_
    rintro e w' ⟨rfl, hw⟩
    obtain rfl := hw.symm
    go_wp2_with fail
    refine (p1 _).mono ?_
    rintro e w' ⟨rfl, hw⟩
    obtain rfl := hw.symm
    go_wp2_with fail
    refine (p2 _).mono ?_
    rintro e w' ⟨rfl, hw⟩
    obtain rfl := hw.symm
    go_wp2_with fail
    refine (p3 _).mono ?_
    rintro e w' ⟨rfl, hw⟩
    obtain rfl := hw.symm
    go_wp2_with fail
    refine (p4 _).mono ?_
    rintro e w' ⟨rfl, hw⟩
    obtain rfl := hw.symm
    go_wp2_with fail
    refine (ps _).mono ?_
    rintro e w' ⟨rfl, hw⟩
    obtain rfl := hw.symm
    go_wp2_with fail
    refine (cN _).mono ?_
    rintro e w' ⟨rfl, hw⟩
    obtain rfl := hw.symm
    go_wp2_with fail
    refine (cK _).mono ?_
    rintro e w' ⟨rfl, hw⟩
    obtain rfl := hw.symm
    go_wp2_with fail
    refine (alive_any w hT).mono ?_
    rintro e w1 ⟨rfl, hb1⟩
    go_wp2
    go_ret
    exact ⟨rfl, hb1⟩
  · go_enter Tryz.func5, Tryz.ntmps5
    go_wp2_with fail
    refine (c1 _).mono ?_
    rintro e w' ⟨rfl, hw⟩
    obtain rfl := hw.symm
    go_wp2_with fail
    refine (c2 _).mono ?_
    rintro e w' ⟨rfl, hw⟩
    obtain rfl := hw.symm
    go_wp2_with fail
    refine (c3 _).mono ?_
    rintro e w' ⟨rfl, hw⟩
    obtain rfl := hw.symm
    go_wp2_with fail
    refine (p1 _).mono ?_
    rintro e w' ⟨rfl, hw⟩
    obtain rfl := hw.symm
    go_wp2_with fail
    refine (p2 _).mono ?_
    rintro e w' ⟨rfl, hw⟩
    obtain rfl := hw.symm
    go_wp2_with fail
    refine (p3 _).mono ?_
    rintro e w' ⟨rfl, hw⟩
    obtain rfl := hw.symm
    go_wp2_with fail
    refine (p4 _).mono ?_
    rintro e w' ⟨rfl, hw⟩
    obtain rfl := hw.symm
    go_wp2_with fail
    refine (ps _).mono ?_
    rintro e w' ⟨rfl, hw⟩
    obtain rfl := hw.symm
    go_wp2_with fail
    refine (cN _).mono ?_
    rintro e w' ⟨rfl, hw⟩
    obtain rfl := hw.symm
    go_wp2_with fail
    refine (cK _).mono ?_
    rintro e w' ⟨rfl, hw⟩
    obtain rfl := hw.symm
    go_wp2_with fail
    refine (alive_any w hT).mono ?_
    rintro e w1 ⟨rfl, hb1⟩
    go_wp2
    go_ret
    exact ⟨rfl, hb1⟩
set_option maxRecDepth 100000 in
set_option maxHeartbeats 1000000 in
theorem total_B (b c d : Nat) (p q r p' : Int) (sm : Bool) (w : World) (hT : Tb w)
    (c1 : ∀ w, Calls Tryz.prog 19 #[.int .u64 (b : Int)] w fun e w' => e = .returned (.float .f64 b) ∧ w' = w) (c2 : ∀ w, Calls Tryz.prog 19 #[.int .u64 (c : Int)] w fun e w' => e = .returned (.float .f64 c) ∧ w' = w) (c3 : ∀ w, Calls Tryz.prog 19 #[.int .u64 (d : Int)] w fun e w' => e = .returned (.float .f64 d) ∧ w' = w)
    (p1 : ∀ w, Calls Tryz.prog 25 #[.float .f64 b, .float .f64 c] w fun e w' => e = .returned (.int .i64 p) ∧ w' = w) (p2 : ∀ w, Calls Tryz.prog 25 #[.float .f64 c, .float .f64 d] w fun e w' => e = .returned (.int .i64 q) ∧ w' = w)
    (p3 : ∀ w, Calls Tryz.prog 25 #[.float .f64 b, .float .f64 d] w fun e w' => e = .returned (.int .i64 r) ∧ w' = w) (p4 : ∀ w, Calls Tryz.prog 25 #[.float .f64 c, .float .f64 b] w fun e w' => e = .returned (.int .i64 p') ∧ w' = w)
    (ps : ∀ w, Calls Tryz.prog 23 #[.float .f64 b, .float .f64 c] w fun e w' => e = .returned (.bool sm) ∧ w' = w)
    (h1 : decide (p < -1) = false) (h2 : decide (1 < p) = false) (h3' : (p' != -p) = false) (hpb : -1 ≤ p ∧ p ≤ 1) (h4 : (p == 0) = sm)
    (hg : decide (p ≤ 0) = false ∨ (decide (p ≤ 0) = true ∧ decide (q ≤ 0) = false) ∨ (decide (p ≤ 0) = true ∧ decide (q ≤ 0) = true ∧ decide (0 < r) = false)) (n : Nat) (k : Int) (hk : (k == 1) = false) (cN : ∀ w, Calls Tryz.prog 27 #[.float .f64 b, .bool true] w fun e w' => e = .returned (.float .f64 n) ∧ w' = w)
    (cK : ∀ w, Calls Tryz.prog 12 #[.float .f64 b] w fun e w' => e = .returned (.int .i64 k) ∧ w' = w)
    (cS : ∀ w, Calls Tryz.prog 23 #[.float .f64 n, .float .f64 b] w fun e w' => e = .returned (.bool true) ∧ w' = w) :
    Calls Tryz.prog 5 #[.int .u64 (b : Int), .int .u64 (c : Int), .int .u64 (d : Int)] w fun e w' => e = .returned (.bool true) ∧ Below w.heap.size w w' := by
  have mixed := mixed_ok
  rcases hg with g1 | ⟨g1, g2⟩ | ⟨g1, g2, g3⟩
  · go_enter Tryz.func5, Tryz.ntmps5
    go_wp2_with fail
    refine (c1 _).mono ?_
    rintro e w' ⟨rfl, hw⟩
    obtain rfl := hw.symm
    go_wp2_with fail
    refine (c2 _).mono ?_
    rintro e w' ⟨rfl, hw⟩
    obtain rfl := hw.symm
    go_wp2_with fail
    refine (c3 _).mono ?_
    rintro e w' ⟨rfl, hw⟩
    obtain rfl := hw.symm
    go_wp2_with fail
    refine (p1 _).mono ?_
    rintro e w' ⟨rfl, hw⟩
    obtain rfl := hw.symm
    go_wp2_with fail
    refine (p2 _).mono ?_
    rintro e w' ⟨rfl, hw⟩
    obtain rfl := hw.symm
    go_wp2_with fail
    refine (p3 _).mono ?_
    rintro e w' ⟨rfl, hw⟩
    obtain rfl := hw.symm
    go_wp2_with fail
    refine (p4 _).mono ?_
    rintro e w' ⟨rfl, hw⟩
    obtain rfl := hw.symm
    go_wp2_with fail
    refine (ps _).mono ?_
    rintro e w' ⟨rfl, hw⟩
    obtain rfl := hw.symm
    go_wp2_with fail
    refine (cN _).mono ?_
    rintro e w' ⟨rfl, hw⟩
    obtain rfl := hw.symm
    go_wp2_with fail
    refine (cK _).mono ?_
    rintro e w' ⟨rfl, hw⟩
    obtain rfl := hw.symm
    go_wp2_with fail
    refine (cS _).mono ?_
    rintro e w' ⟨rfl, hw⟩
    obtain rfl := hw.symm
    go_wp2_with fail
    refine (alive_any w hT).mono ?_
    rintro e w1 ⟨rfl, hb1⟩
    go_wp2
    go_ret
    exact ⟨rfl, hb1⟩
  · go_enter Tryz.func5, Tryz.ntmps5
    go_wp2_with fail
    refine (c1 _).mono ?_
    rintro e w' ⟨rfl, hw⟩
    obtain rfl := hw.symm
    go_wp2_with fail
    refine (c2 _).mono ?_
    rintro e w' ⟨rfl, hw⟩
    obtain rfl := hw.symm
    go_wp2_with fail
    refine (c3 _).mono ?_
    rintro e w' ⟨rfl, hw⟩
    obtain rfl := hw.symm
    go_wp2_with fail
    refine (p1 _).mono ?_
    rintro e w' ⟨rfl, hw⟩
    obtain rfl := hw.symm
    go_wp2_with fail
    refine (p2 _).mono ?_
    rintro e w' ⟨rfl, hw⟩
    obtain rfl := hw.symm
    go_wp2_with fail
    refine (p3 _).mono ?_
    rintro e w' ⟨rfl, hw⟩
    obtain rfl := hw.symm
    go_wp2_with fail
    refine (p4 _).mono ?_
    rintro e w' ⟨rfl, hw⟩
    obtain rfl := hw.symm
    go_wp2_with fail
    refine (ps _).mono ?_
    rintro e w' ⟨rfl, hw⟩
    obtain rfl := hw.symm
    go_wp2_with fail
    refine (cN _).mono ?_
    rintro e w' ⟨rfl, hw⟩
    obtain rfl := hw.symm
    go_wp2_with fail
    refine (cK _).mono ?_
    rintro e w' ⟨rfl, hw⟩
    obtain rfl := hw.symm
    go_wp2_with fail
    refine (cS _).mono ?_
    rintro e w' ⟨rfl, hw⟩
    obtain rfl := hw.symm
    go_wp2_with fail
    refine (alive_any w hT).mono ?_
    rintro e w1 ⟨rfl, hb1⟩
    go_wp2
    go_ret
    exact ⟨rfl, hb1⟩
  · go_enter Tryz.func5, Tryz.ntmps5
    go_wp2_with fail
    refine (c1 _).mono ?_
    rintro e w' ⟨rfl, hw⟩
    obtain rfl := hw.symm
    go_wp2_with fail
    refine (c2 _).mono ?_
    rintro e w' ⟨rfl, hw⟩
    obtain rfl := hw.symm
    go_wp2_with fail
    refine (c3 _).mono ?_
    rintro e w' ⟨rfl, hw⟩
    obtain rfl := hw.symm
    go_wp2_with fail
    refine (p1 _).mono ?_
    rintro e w' ⟨rfl, hw⟩
    obtain rfl := hw.symm
    go_wp2_with fail
    refine (p2 _).mono ?_
    rintro e w' ⟨rfl, hw⟩
    obtain rfl := hw.symm
    go_wp2_with fail
    refine (p3 _).mono ?_
    rintro e w' ⟨rfl, hw⟩
    obtain rfl := hw.symm
    go_wp2_with fail
    refine (p4 _).mono ?_
    rintro e w' ⟨rfl, hw⟩
    obtain rfl := hw.symm
    go_wp2_with fail
    refine (ps _).mono ?_
    rintro e w' ⟨rfl, hw⟩
    obtain rfl := hw.symm
    go_wp2_with fail
    refine (cN _).mono ?_
    rintro e w' ⟨rfl, hw⟩
    obtain rfl := hw.symm
    go_wp2_with fail
    refine (cK _).mono ?_
    rintro e w' ⟨rfl, hw⟩
    obtain rfl := hw.symm
    go_wp2_with fail
    refine (cS _).mono ?_
    rintro e w' ⟨rfl, hw⟩
    obtain rfl := hw.symm
    go_wp2_with fail
    refine (alive_any w hT).mono ?_
    rintro e w1 ⟨rfl, hb1⟩
    go_wp2
    go_ret
    exact ⟨rfl, hb1⟩
set_option maxRecDepth 100000 in
set_option maxHeartbeats 1000000 in
theorem total_C1 (b c d : Nat) (p q r p' : Int) (sm : Bool) (w : World) (hT : Tb w)
    (c1 : ∀ w, Calls Tryz.prog 19 #[.int .u64 (b : Int)] w fun e w' => e = .returned (.float .f64 b) ∧ w' = w) (c2 : ∀ w, Calls Tryz.prog 19 #[.int .u64 (c : Int)] w fun e w' => e = .returned (.float .f64 c) ∧ w' = w) (c3 : ∀ w, Calls Tryz.prog 19 #[.int .u64 (d : Int)] w fun e w' => e = .returned (.float .f64 d) ∧ w' = w)
    (p1 : ∀ w, Calls Tryz.prog 25 #[.float .f64 b, .float .f64 c] w fun e w' => e = .returned (.int .i64 p) ∧ w' = w) (p2 : ∀ w, Calls Tryz.prog 25 #[.float .f64 c, .float .f64 d] w fun e w' => e = .returned (.int .i64 q) ∧ w' = w)
    (p3 : ∀ w, Calls Tryz.prog 25 #[.float .f64 b, .float .f64 d] w fun e w' => e = .returned (.int .i64 r) ∧ w' = w) (p4 : ∀ w, Calls Tryz.prog 25 #[.float .f64 c, .float .f64 b] w fun e w' => e = .returned (.int .i64 p') ∧ w' = w)
    (ps : ∀ w, Calls Tryz.prog 23 #[.float .f64 b, .float .f64 c] w fun e w' => e = .returned (.bool sm) ∧ w' = w)
    (h1 : decide (p < -1) = false) (h2 : decide (1 < p) = false) (h3' : (p' != -p) = false) (hpb : -1 ≤ p ∧ p ≤ 1) (h4 : (p == 0) = sm)
    (hg : decide (p ≤ 0) = false ∨ (decide (p ≤ 0) = true ∧ decide (q ≤ 0) = false) ∨ (decide (p ≤ 0) = true ∧ decide (q ≤ 0) = true ∧ decide (0 < r) = false)) (n : Nat) (k y : Int) (hk : (k == 1) = false) (cN : ∀ w, Calls Tryz.prog 27 #[.float .f64 b, .bool true] w fun e w' => e = .returned (.float .f64 n) ∧ w' = w)
    (cK : ∀ w, Calls Tryz.prog 12 #[.float .f64 b] w fun e w' => e = .returned (.int .i64 k) ∧ w' = w)
    (cS : ∀ w, Calls Tryz.prog 23 #[.float .f64 n, .float .f64 b] w fun e w' => e = .returned (.bool false) ∧ w' = w)
    (cC : ∀ w, Calls Tryz.prog 25 #[.float .f64 b, .float .f64 n] w fun e w' => e = .returned (.int .i64 (-1)) ∧ w' = w)
    (_cY : ∀ w, Calls Tryz.prog 25 #[.float .f64 c, .float .f64 n] w fun e w' => e = .returned (.int .i64 y) ∧ w' = w)
    (cD : ∀ w, Calls Tryz.prog 27 #[.float .f64 n, .bool false] w fun e w' => e = .returned (.float .f64 b) ∧ w' = w)
    (cE : ∀ w, Calls Tryz.prog 23 #[.float .f64 b, .float .f64 b] w fun e w' => e = .returned (.bool true) ∧ w' = w) (hy : decide (p' ≤ 0) = true) :
    Calls Tryz.prog 5 #[.int .u64 (b : Int), .int .u64 (c : Int), .int .u64 (d : Int)] w fun e w' => e = .returned (.bool true) ∧ Below w.heap.size w w' := by
  have mixed := mixed_ok
  rcases hg with g1 | ⟨g1, g2⟩ | ⟨g1, g2, g3⟩
  · go_enter Tryz.func5, Tryz.ntmps5
    go_wp2_with fail
    refine (c1 _).mono ?_
    rintro e w' ⟨rfl, hw⟩
    obtain rfl := hw.symm
    go_wp2_with fail
    refine (c2 _).mono ?_
    rintro e w' ⟨rfl, hw⟩
    obtain rfl := hw.symm
    go_wp2_with fail
    refine (c3 _).mono ?_
    rintro e w' ⟨rfl, hw⟩
    obtain rfl := hw.symm
    go_wp2_with fail
    refine (p1 _).mono ?_
    rintro e w' ⟨rfl, hw⟩
    obtain rfl := hw.symm
    go_wp2_with fail
    refine (p2 _).mono ?_
    rintro e w' ⟨rfl, hw⟩
    obtain rfl := hw.symm
    go_wp2_with fail
    refine (p3 _).mono ?_
    rintro e w' ⟨rfl, hw⟩
    obtain rfl := hw.symm
    go_wp2_with fail
    refine (p4 _).mono ?_
    rintro e w' ⟨rfl, hw⟩
    obtain rfl := hw.symm
    go_wp2_with fail
    refine (ps _).mono ?_
    rintro e w' ⟨rfl, hw⟩
    obtain rfl := hw.symm
    go_wp2_with fail
    refine (cN _).mono ?_
    rintro e w' ⟨rfl, hw⟩
    obtain rfl := hw.symm
    go_wp2_with fail
    refine (cK _).mono ?_
    rintro e w' ⟨rfl, hw⟩
    obtain rfl := hw.symm
    go_wp2_with fail
    refine (cS _).mono ?_
    rintro e w' ⟨rfl, hw⟩
    obtain rfl := hw.symm
    go_wp2_with fail
    refine (cC _).mono ?_
    rintro e w' ⟨rfl, hw⟩
    obtain rfl := hw.symm
    go_wp2_with fail
    refine (p4 _).mono ?_
    rintro e w' ⟨rfl, hw⟩
    obtain rfl := hw.symm
    go_wp2_with fail
    refine (cD _).mono ?_
    rintro e w' ⟨rfl, hw⟩
    obtain rfl := hw.symm
    go_wp2_with fail
    refine (cE _).mono ?_
    rintro e w' ⟨rfl, hw⟩
    obtain rfl := hw.symm
    go_wp2_with fail
    refine (alive_any w hT).mono ?_
    rintro e w1 ⟨rfl, hb1⟩
    go_wp2
    go_ret
    exact ⟨rfl, hb1⟩
  · go_enter Tryz.func5, Tryz.ntmps5
    go_wp2_with fail
    refine (c1 _).mono ?_
    rintro e w' ⟨rfl, hw⟩
    obtain rfl := hw.symm
    go_wp2_with fail
    refine (c2 _).mono ?_
    rintro e w' ⟨rfl, hw⟩
    obtain rfl := hw.symm
    go_wp2_with fail
    refine (c3 _).mono ?_
    rintro e w' ⟨rfl, hw⟩
    obtain rfl := hw.symm
    go_wp2_with fail
    refine (p1 _).mono ?_
    rintro e w' ⟨rfl, hw⟩
    obtain rfl := hw.symm
    go_wp2_with fail
    refine (p2 _).mono ?_
    rintro e w' ⟨rfl, hw⟩
    obtain rfl := hw.symm
    go_wp2_with fail
    refine (p3 _).mono ?_
    rintro e w' ⟨rfl, hw⟩
    obtain rfl := hw.symm
    go_wp2_with fail
    refine (p4 _).mono ?_
    rintro e w' ⟨rfl, hw⟩
    obtain rfl := hw.symm
    go_wp2_with fail
    refine (ps _).mono ?_
    rintro e w' ⟨rfl, hw⟩
    obtain rfl := hw.symm
    go_wp2_with fail
    refine (cN _).mono ?_
    rintro e w' ⟨rfl, hw⟩
    obtain rfl := hw.symm
    go_wp2_with fail
    refine (cK _).mono ?_
    rintro e w' ⟨rfl, hw⟩
    obtain rfl := hw.symm
    go_wp2_with fail
    refine (cS _).mono ?_
    rintro e w' ⟨rfl, hw⟩
    obtain rfl := hw.symm
    go_wp2_with fail
    refine (cC _).mono ?_
    rintro e w' ⟨rfl, hw⟩
    obtain rfl := hw.symm
    go_wp2_with fail
    refine (p4 _).mono ?_
    rintro e w' ⟨rfl, hw⟩
    obtain rfl := hw.symm
    go_wp2_with fail
    refine (cD _).mono ?_
    rintro e w' ⟨rfl, hw⟩
    obtain rfl := hw.symm
    go_wp2_with fail
    refine (cE _).mono ?_
    rintro e w' ⟨rfl, hw⟩
    obtain rfl := hw.symm
    go_wp2_with fail
    refine (alive_any w hT).mono ?_
    rintro e w1 ⟨rfl, hb1⟩
    go_wp2
    go_ret
    exact ⟨rfl, hb1⟩
  · go_enter Tryz.func5, Tryz.ntmps5
    go_wp2_with fail
    refine (c1 _).mono ?_
    rintro e w' ⟨rfl, hw⟩
    obtain rfl := hw.symm
    go_wp2_with fail
    refine (c2 _).mono ?_
    rintro e w' ⟨rfl, hw⟩
    obtain rfl := hw.symm
    go_wp2_with fail
    refine (c3 _).mono ?_
    rintro e w' ⟨rfl, hw⟩
    obtain rfl := hw.symm
    go_wp2_with fail
    refine (p1 _).mono ?_
    rintro e w' ⟨rfl, hw⟩
    obtain rfl := hw.symm
    go_wp2_with fail
    refine (p2 _).mono ?_
    rintro e w' ⟨rfl, hw⟩
    obtain rfl := hw.symm
    go_wp2_with fail
    refine (p3 _).mono ?_
    rintro e w' ⟨rfl, hw⟩
    obtain rfl := hw.symm
    go_wp2_with fail
    refine (p4 _).mono ?_
    rintro e w' ⟨rfl, hw⟩
    obtain rfl := hw.symm
    go_wp2_with fail
    refine (ps _).mono ?_
    rintro e w' ⟨rfl, hw⟩
    obtain rfl := hw.symm
    go_wp2_with fail
    refine (cN _).mono ?_
    rintro e w' ⟨rfl, hw⟩
    obtain rfl := hw.symm
    go_wp2_with fail
    refine (cK _).mono ?_
    rintro e w' ⟨rfl, hw⟩
    obtain rfl := hw.symm
    go_wp2_with fail
    refine (cS _).mono ?_
    rintro e w' ⟨rfl, hw⟩
    obtain rfl := hw.symm
    go_wp2_with fail
    refine (cC _).mono ?_
    rintro e w' ⟨rfl, hw⟩
    obtain rfl := hw.symm
    go_wp2_with fail
    refine (p4 _).mono ?_
    rintro e w' ⟨rfl, hw⟩
    obtain rfl := hw.symm
    go_wp2_with fail
    refine (cD _).mono ?_
    rintro e w' ⟨rfl, hw⟩
    obtain rfl := hw.symm
    go_wp2_with fail
    refine (cE _).mono ?_
    rintro e w' ⟨rfl, hw⟩
    obtain rfl := hw.symm
    go_wp2_with fail
    refine (alive_any w hT).mono ?_
    rintro e w1 ⟨rfl, hb1⟩
    go_wp2
    go_ret
    exact ⟨rfl, hb1⟩
set_option maxRecDepth 100000 in
set_option maxHeartbeats 1000000 in
theorem total_C2 (b c d : Nat) (p q r p' : Int) (sm : Bool) (w : World) (hT : Tb w)
    (c1 : ∀ w, Calls Tryz.prog 19 #[.int .u64 (b : Int)] w fun e w' => e = .returned (.float .f64 b) ∧ w' = w) (c2 : ∀ w, Calls Tryz.prog 19 #[.int .u64 (c : Int)] w fun e w' => e = .returned (.float .f64 c) ∧ w' = w) (c3 : ∀ w, Calls Tryz.prog 19 #[.int .u64 (d : Int)] w fun e w' => e = .returned (.float .f64 d) ∧ w' = w)
    (p1 : ∀ w, Calls Tryz.prog 25 #[.float .f64 b, .float .f64 c] w fun e w' => e = .returned (.int .i64 p) ∧ w' = w) (p2 : ∀ w, Calls Tryz.prog 25 #[.float .f64 c, .float .f64 d] w fun e w' => e = .returned (.int .i64 q) ∧ w' = w)
    (p3 : ∀ w, Calls Tryz.prog 25 #[.float .f64 b, .float .f64 d] w fun e w' => e = .returned (.int .i64 r) ∧ w' = w) (p4 : ∀ w, Calls Tryz.prog 25 #[.float .f64 c, .float .f64 b] w fun e w' => e = .returned (.int .i64 p') ∧ w' = w)
    (ps : ∀ w, Calls Tryz.prog 23 #[.float .f64 b, .float .f64 c] w fun e w' => e = .returned (.bool sm) ∧ w' = w)
    (h1 : decide (p < -1) = false) (h2 : decide (1 < p) = false) (h3' : (p' != -p) = false) (hpb : -1 ≤ p ∧ p ≤ 1) (h4 : (p == 0) = sm)
    (hg : decide (p ≤ 0) = false ∨ (decide (p ≤ 0) = true ∧ decide (q ≤ 0) = false) ∨ (decide (p ≤ 0) = true ∧ decide (q ≤ 0) = true ∧ decide (0 < r) = false)) (n : Nat) (k y : Int) (hk : (k == 1) = false) (cN : ∀ w, Calls Tryz.prog 27 #[.float .f64 b, .bool true] w fun e w' => e = .returned (.float .f64 n) ∧ w' = w)
    (cK : ∀ w, Calls Tryz.prog 12 #[.float .f64 b] w fun e w' => e = .returned (.int .i64 k) ∧ w' = w)
    (cS : ∀ w, Calls Tryz.prog 23 #[.float .f64 n, .float .f64 b] w fun e w' => e = .returned (.bool false) ∧ w' = w)
    (cC : ∀ w, Calls Tryz.prog 25 #[.float .f64 b, .float .f64 n] w fun e w' => e = .returned (.int .i64 (-1)) ∧ w' = w)
    (cY : ∀ w, Calls Tryz.prog 25 #[.float .f64 c, .float .f64 n] w fun e w' => e = .returned (.int .i64 y) ∧ w' = w)
    (cD : ∀ w, Calls Tryz.prog 27 #[.float .f64 n, .bool false] w fun e w' => e = .returned (.float .f64 b) ∧ w' = w)
    (cE : ∀ w, Calls Tryz.prog 23 #[.float .f64 b, .float .f64 b] w fun e w' => e = .returned (.bool true) ∧ w' = w) (hy : decide (p' ≤ 0) = false) (hy2 : decide (0 ≤ y) = true) :
    Calls Tryz.prog 5 #[.int .u64 (b : Int), .int .u64 (c : Int), .int .u64 (d : Int)] w fun e w' => e = .returned (.bool true) ∧ Below w.heap.size w w' := by
  have mixed := mixed_ok
  rcases hg with g1 | ⟨g1, g2⟩ | ⟨g1, g2, g3⟩
  · go_enter Tryz.func5, Tryz.ntmps5
    go_wp2_with fail
    refine (c1 _).mono ?_
    rintro e w' ⟨rfl, hw⟩
    obtain rfl := hw.symm
    go_wp2_with fail
    refine (c2 _).mono ?_
    rintro e w' ⟨rfl, hw⟩
    obtain rfl := hw.symm
    go_wp2_with fail
    refine (c3 _).mono ?_
    rintro e w' ⟨rfl, hw⟩
    obtain rfl := hw.symm
    go_wp2_with fail
    refine (p1 _).mono ?_
    rintro e w' ⟨rfl, hw⟩
    obtain rfl := hw.symm
    go_wp2_with fail
    refine (p2 _).mono ?_
    rintro e w' ⟨rfl, hw⟩
    obtain rfl := hw.symm
    go_wp2_with fail
    refine (p3 _).mono ?_
    rintro e w' ⟨rfl, hw⟩
    obtain rfl := hw.symm
    go_wp2_with fail
    refine (p4 _).mono ?_
    rintro e w' ⟨rfl, hw⟩
    obtain rfl := hw.symm
    go_wp2_with fail
    refine (ps _).mono ?_
    rintro e w' ⟨rfl, hw⟩
    obtain rfl := hw.symm
    go_wp2_with fail
    refine (cN _).mono ?_
    rintro e w' ⟨rfl, hw⟩
    obtain rfl := hw.symm
    go_wp2_with fail
    refine (cK _).mono ?_
    rintro e w' ⟨rfl, hw⟩
    obtain rfl := hw.symm
    go_wp2_with fail
    refine (cS _).mono ?_
    rintro e w' ⟨rfl, hw⟩
    obtain rfl := hw.symm
    go_wp2_with fail
    refine (cC _).mono ?_
    rintro e w' ⟨rfl, hw⟩
    obtain rfl := hw.symm
    go_wp2_with fail
    refine (p4 _).mono ?_
    rintro e w' ⟨rfl, hw⟩
    obtain rfl := hw.symm
    go_wp2_with fail
    refine (cY _).mono ?_
    rintro e w' ⟨rfl, hw⟩
    obtain rfl := hw.symm
    go_wp2_with fail
    refine (cD _).mono ?_
    rintro e w' ⟨rfl, hw⟩
    obtain rfl := hw.symm
    go_wp2_with fail
    refine (cE _).mono ?_
    rintro e w' ⟨rfl, hw⟩
    obtain rfl := hw.symm
    go_wp2_with fail
    refine (alive_any w hT).mono ?_
    rintro e w1 ⟨rfl, hb1⟩
    go_wp2
    go_ret
    exact ⟨rfl, hb1⟩
  · go_enter Tryz.func5, Tryz.ntmps5
    go_wp2_with fail
    refine (c1 _).mono ?_
    rintro e w' ⟨rfl, hw⟩
    obtain rfl := hw.symm
    go_wp2_with fail
    refine (c2 _).mono ?_
    rintro e w' ⟨rfl, hw⟩
    obtain rfl := hw.symm
    go_wp2_with fail
    refine (c3 _).mono ?_
    rintro e w' ⟨rfl, hw⟩
    obtain rfl := hw.symm
    go_wp2_with fail
    refine (p1 _).mono ?_
    rintro e w' ⟨rfl, hw⟩
    obtain rfl := hw.symm
    go_wp2_with fail
    refine (p2 _).mono ?_
    rintro e w' ⟨rfl, hw⟩
    obtain rfl := hw.symm
    go_wp2_with fail
    refine (p3 _).mono ?_
    rintro e w' ⟨rfl, hw⟩
    obtain rfl := hw.symm
    go_wp2_with fail
    refine (p4 _).mono ?_
    rintro e w' ⟨rfl, hw⟩
    obtain rfl := hw.symm
    go_wp2_with fail
    refine (ps _).mono ?_
    rintro e w' ⟨rfl, hw⟩
    obtain rfl := hw.symm
    go_wp2_with fail
    refine (cN _).mono ?_
    rintro e w' ⟨rfl, hw⟩
    obtain rfl := hw.symm
    go_wp2_with fail
    refine (cK _).mono ?_
    rintro e w' ⟨rfl, hw⟩
    obtain rfl := hw.symm
    go_wp2_with fail
    refine (cS _).mono ?_
    rintro e w' ⟨rfl, hw⟩
    obtain rfl := hw.symm
    go_wp2_with fail
    refine (cC _).mono ?_
    rintro e w' ⟨rfl, hw⟩
    obtain rfl := hw.symm
    go_wp2_with fail
    refine (p4 _).mono ?_
    rintro e w' ⟨rfl, hw⟩
    obtain rfl := hw.symm
    go_wp2_with fail
    refine (cY _).mono ?_
    rintro e w' ⟨rfl, hw⟩
    obtain rfl := hw.symm
    go_wp2_with fail
    refine (cD _).mono ?_
    rintro e w' ⟨rfl, hw⟩
    obtain rfl := hw.symm
    go_wp2_with fail
    refine (cE _).mono ?_
    rintro e w' ⟨rfl, hw⟩
    obtain rfl := hw.symm
    go_wp2_with fail
    refine (alive_any w hT).mono ?_
    rintro e w1 ⟨rfl, hb1⟩
    go_wp2
    go_ret
    exact ⟨rfl, hb1⟩
  · go_enter Tryz.func5, Tryz.ntmps5
    go_wp2_with fail
    refine (c1 _).mono ?_
    rintro e w' ⟨rfl, hw⟩
    obtain rfl := hw.symm
    go_wp2_with fail
    refine (c2 _).mono ?_
    rintro e w' ⟨rfl, hw⟩
    obtain rfl := hw.symm
    go_wp2_with fail
    refine (c3 _).mono ?_
    rintro e w' ⟨rfl, hw⟩
    obtain rfl := hw.symm
    go_wp2_with fail
    refine (p1 _).mono ?_
    rintro e w' ⟨rfl, hw⟩
    obtain rfl := hw.symm
    go_wp2_with fail
    refine (p2 _).mono ?_
    rintro e w' ⟨rfl, hw⟩
    obtain rfl := hw.symm
    go_wp2_with fail
    refine (p3 _).mono ?_
    rintro e w' ⟨rfl, hw⟩
    obtain rfl := hw.symm
    go_wp2_with fail
    refine (p4 _).mono ?_
    rintro e w' ⟨rfl, hw⟩
    obtain rfl := hw.symm
    go_wp2_with fail
    refine (ps _).mono ?_
    rintro e w' ⟨rfl, hw⟩
    obtain rfl := hw.symm
    go_wp2_with fail
    refine (cN _).mono ?_
    rintro e w' ⟨rfl, hw⟩
    obtain rfl := hw.symm
    go_wp2_with fail
    refine (cK _).mono ?_
    rintro e w' ⟨rfl, hw⟩
    obtain rfl := hw.symm
    go_wp2_with fail
    refine (cS _).mono ?_
    rintro e w' ⟨rfl, hw⟩
    obtain rfl := hw.symm
    go_wp2_with fail
    refine (cC _).mono ?_
    rintro e w' ⟨rfl, hw⟩
    obtain rfl := hw.symm
    go_wp2_with fail
    refine (p4 _).mono ?_
    rintro e w' ⟨rfl, hw⟩
    obtain rfl := hw.symm
    go_wp2_with fail
    refine (cY _).mono ?_
    rintro e w' ⟨rfl, hw⟩
    obtain rfl := hw.symm
    go_wp2_with fail
    refine (cD _).mono ?_
    rintro e w' ⟨rfl, hw⟩
    obtain rfl := hw.symm
    go_wp2_with fail
    refine (cE _).mono ?_
    rintro e w' ⟨rfl, hw⟩
    obtain rfl := hw.symm
    go_wp2_with fail
    refine (alive_any w hT).mono ?_
    rintro e w1 ⟨rfl, hb1⟩
    go_wp2
    go_ret
    exact ⟨rfl, hb1⟩
end Go.Proofs.YtbnclgndgjmmkaaGreatDoor.Sca
