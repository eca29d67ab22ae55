import Derived.Test.YtaggifpnamjghaaDoorKc355958a
set_option maxRecDepth 100000
set_option maxHeartbeats 2000000
namespace Go.Proofs.YtaggifpnamjghaaDoor.Pau
open Go.RowKit
theorem bt_tb (x q : Nat) : bt x q = (x.testBit q).toNat := by
  unfold bt
  rw [Nat.testBit_eq_decide_div_mod_eq]
  rcases Nat.mod_two_eq_zero_or_one (x / 2 ^ q) with h | h <;> rw [h] <;> rfl
theorem bt_and (x y q : Nat) : bt (x &&& y) q = bt x q * bt y q := by
  rw [bt_tb, bt_tb, bt_tb, Nat.testBit_and]
  cases x.testBit q <;> cases y.testBit q <;> rfl
theorem bt_xor (x y q : Nat) : bt (x ^^^ y) q = (bt x q + bt y q) % 2 := by
  rw [bt_tb, bt_tb, bt_tb, Nat.testBit_xor]
  cases x.testBit q <;> cases y.testBit q <;> rfl
theorem bt_small {x n : Nat} (h : x < 2 ^ n) {q : Nat} (hq : n <= q) : bt x q = 0 := by
  unfold bt
  rw [Nat.div_eq_of_lt (Nat.lt_of_lt_of_le h (Nat.pow_le_pow_right (by decide) hq))]
theorem small_iff {x n : Nat} (hx : x < 18446744073709551616) : x < 2 ^ n ↔ ∀ j, n <= j -> j < 64 -> bt x j = 0 := by
  refine ⟨fun h j hj _ => bt_small h hj, fun h => Nat.lt_pow_two_of_testBit _ (fun i hi => ?_)⟩
  by_cases h64 : i < 64
  . have := h i hi h64
    rw [bt_tb] at this
    cases hb : x.testBit i
    . rfl
    . rw [hb] at this; cases this
  . exact Nat.testBit_lt_two_pow (Nat.lt_of_lt_of_le hx (by rw [show (18446744073709551616 : Nat) = 2 ^ 64 from rfl]; exact Nat.pow_le_pow_right (by decide) (by omega)))
theorem bt_ext {x y : Nat} (h : ∀ q, bt x q = bt y q) : x = y := by
  refine Nat.eq_of_testBit_eq (fun i => ?_)
  have := h i
  rw [bt_tb, bt_tb] at this
  cases hx : x.testBit i <;> cases hy : y.testBit i <;> rw [hx, hy] at this <;> first | rfl | cases this
theorem sm_mod {f g : Nat -> Nat} (m : Nat) : ∀ n, (∀ q, q < n -> f q % m = g q % m) -> sm n f % m = sm n g % m
  | 0, _ => rfl
  | n + 1, h => by
    rw [sm, sm, Nat.add_mod, sm_mod m n (fun q hq => h q (by omega)), h n (by omega), ← Nat.add_mod]
def on (a b : Nat) : Nat := if a = 73 ∨ b = 73 ∨ a = b then 0 else if a = 88 /\ b = 89 ∨ a = 89 /\ b = 90 ∨ a = 90 /\ b = 88 then 1 else 3
def onq (a b : P) (q : Nat) : Nat := on (lt (bt a.x q) (bt a.z q)) (lt (bt b.x q) (bt b.z q))
theorem on_tab : ∀ u v u' v' : Fin 2, (2 * (v.1 * u'.1) + u.1 * v.1 + u'.1 * v'.1) % 4 = (on (lt u.1 v.1) (lt u'.1 v'.1) + (u.1 + u'.1) % 2 * ((v.1 + v'.1) % 2)) % 4 := by decide
theorem on_bits (a b : P) (q : Nat) : (2 * bt (a.z &&& b.x) q + bt (a.x &&& a.z) q + bt (b.x &&& b.z) q) % 4 = (onq a b q + bt ((a.x ^^^ b.x) &&& (a.z ^^^ b.z)) q) % 4 := by
  rw [bt_and, bt_and, bt_and, bt_and, bt_xor, bt_xor]
  exact on_tab ⟨bt a.x q, bt_lt _ _⟩ ⟨bt a.z q, bt_lt _ _⟩ ⟨bt b.x q, bt_lt _ _⟩ ⟨bt b.z q, bt_lt _ _⟩
theorem mulPh_eq (a b : P) : mulPh a b = (a.ph + b.ph + (sm 64 (onq a b) : Int)) % 4 := by
  have h := sm_mod 4 64 (fun q _ => on_bits a b q)
  rw [sm_add, sm_add, sm_add, sm_mul] at h
  unfold mulPh
  unfold pc
  omega
theorem on_le (a b : Nat) : on a b <= 3 := by unfold on; (repeat' split) <;> omega
theorem onq_zero {a b : P} {q : Nat} (h1 : bt a.x q = 0) (h2 : bt a.z q = 0) : onq a b q = 0 := by
  unfold onq
  rw [h1, h2]
  rfl
theorem sm_cut {f : Nat -> Nat} {n : Nat} (hn : n <= 64) (h : ∀ q, n <= q -> q < 64 -> f q = 0) : sm 64 f = sm n f := by
  obtain ⟨k, hk⟩ : ∃ k, 64 = n + k := ⟨64 - n, by omega⟩
  rw [hk, sm_split, sm_zero k (fun q hq => h (n + q) (by omega) (by omega)), Nat.add_zero]
theorem rt_iff {p : P} : rt p = true ↔ 0 <= p.n /\ p.n <= 64 /\ p.x < 2 ^ p.n.toNat /\ p.z < 2 ^ p.n.toNat /\ 0 <= p.ph /\ p.ph <= 3 := by
  unfold rt
  rw [decide_eq_true_eq]
theorem fit_iff {a b : P} : fitP a b = true ↔ rt a = true /\ rt b = true /\ a.n = b.n := by
  unfold fitP
  simp only [Bool.and_eq_true, decide_eq_true_eq, and_assoc]
theorem mul_rt {a b : P} (h : fitP a b = true) : rt (mulP a b) = true := by
  obtain ⟨h1, h2, h3⟩ := fit_iff.1 h
  obtain ⟨a1, a2, a3, a4, -⟩ := rt_iff.1 h1
  obtain ⟨b1, b2, b3, b4, -⟩ := rt_iff.1 h2
  rw [← h3] at b3 b4
  refine rt_iff.2 ⟨a1, a2, Nat.xor_lt_two_pow a3 b3, Nat.xor_lt_two_pow a4 b4, ?_, ?_⟩
  . show 0 <= mulPh a b
    unfold mulPh
    omega
  . show mulPh a b <= 3
    unfold mulPh
    omega
theorem mul_cut {a b : P} (h : fitP a b = true) : mulPh a b = (a.ph + b.ph + (sm a.n.toNat (onq a b) : Int)) % 4 := by
  obtain ⟨h1, -, -⟩ := fit_iff.1 h
  obtain ⟨a1, a2, a3, a4, -⟩ := rt_iff.1 h1
  rw [mulPh_eq, sm_cut (n := a.n.toNat) (by omega) (fun q hq _ => onq_zero (bt_small a3 hq) (bt_small a4 hq))]
theorem P.ext' {a b : P} (h1 : a.n = b.n) (h2 : a.x = b.x) (h3 : a.z = b.z) (h4 : a.ph = b.ph) : a = b := by
  cases a; cases b; simp only at *; subst h1; subst h2; subst h3; subst h4; rfl
theorem dBit (x k : Nat) (hx : x < 18446744073709551616) (hk : k <= 64) (w : World) : Calls Tryd.prog 71 #[.int .u64 (x : Int), .int .i64 (k : Int)] w fun e w' => e = .returned (.int .i64 (bt x k : Int)) /\ w' = w := by
  have b1 := bit_run x k hx
  have l1 := bt_lt x k
  have hw : IntKind.u64.wrap (k : Int) = (k : Int) := by rw [wrapU]; omega
  have hw2 : wrap64 ((bt x k : Nat) : Int) = ((bt x k : Nat) : Int) := by unfold wrap64; omega
  have hw3 : IntKind.i64.wrap ((bt x k : Nat) : Int) = ((bt x k : Nat) : Int) := by rw [wrapI]; omega
  generalize bt x k = u at *
  clear hx l1
  go_enter Tryd.func71, Tryd.ntmps71
  go_wp2_with fail
  go_ret
  exact ⟨rfl, rfl⟩
theorem dRight (p : P) (hp : Wd p) (w : World) : Calls Tryd.prog 57 #[pV p] w fun e w' => e = .returned (.bool (rt p)) /\ Below w.heap.size w w' := by
  have c1 := fun (k : Nat) (hk : k <= 64) W => dBit p.x k hp.1 hk W
  have c2 := fun (k : Nat) (hk : k <= 64) W => dBit p.z k hp.2 hk W
  have sx := small_iff (n := p.n.toNat) hp.1
  have sz := small_iff (n := p.n.toNat) hp.2
  unfold rt
  obtain ⟨n, x, z, ph⟩ := p
  simp only at *
  have HB := hide (bnew w (.cells #[.int .i64 n, .int .u64 (x : Int), .int .u64 (z : Int), .int .i64 ph] 32))
  have HA := hide (At4.new w (.int .i64 n) (.int .u64 (x : Int)) (.int .u64 (z : Int)) (.int .i64 ph))
  unfold pV
  simp only
  by_cases h0 : n < 0
  . rw [decide_eq_false (by omega)]
    have d0 : decide (n < 0) = true := decide_eq_true h0
    clear hp c1 c2 sx sz
    go_enter Tryd.func57, Tryd.ntmps57
    go_wp2_with fail
    go_ret
    exact ⟨rfl, HB.out⟩
  . have d0 : decide (n < 0) = false := decide_eq_false h0
    by_cases h1 : 64 < n
    . rw [decide_eq_false (by omega)]
      have d1 : decide (64 < n) = true := decide_eq_true h1
      clear hp c1 c2 sx sz
      go_enter Tryd.func57, Tryd.ntmps57
      go_wp2_with fail
      go_ret
      exact ⟨rfl, HB.out⟩
    . have d1 : decide (64 < n) = false := decide_eq_false h1
      by_cases h2 : ph < 0
      . rw [decide_eq_false (by omega)]
        have d2 : decide (ph < 0) = true := decide_eq_true h2
        clear hp c1 c2 sx sz
        go_enter Tryd.func57, Tryd.ntmps57
        go_wp2_with fail
        go_ret
        exact ⟨rfl, HB.out⟩
      . have d2 : decide (ph < 0) = false := decide_eq_false h2
        by_cases h3 : 3 < ph
        . rw [decide_eq_false (by omega)]
          have d3 : decide (3 < ph) = true := decide_eq_true h3
          clear hp c1 c2 sx sz
          go_enter Tryd.func57, Tryd.ntmps57
          go_wp2_with fail
          go_ret
          exact ⟨rfl, HB.out⟩
        . have d3 : decide (3 < ph) = false := decide_eq_false h3
          obtain ⟨m, rfl⟩ : ∃ m : Nat, n = (m : Int) := ⟨n.toNat, by omega⟩
          rw [Int.toNat_natCast] at *
          have HX := hide sx
          have HZ := hide sz
          have hm : m <= 64 := by omega
          obtain ⟨R, hR⟩ : ∃ R, decide (0 <= (m : Int) /\ (m : Int) <= 64 /\ x < 2 ^ m /\ z < 2 ^ m /\ 0 <= ph /\ ph <= 3) = R := ⟨_, rfl⟩
          rw [hR]
          have HR := hide hR
          clear hp sx sz hR
          go_enter Tryd.func57, Tryd.ntmps57
          go_wp2_with fail
          go_loopw [3] (fun vi wr => ∃ k : Nat, vi = .int .i64 (k : Int) /\ m <= k /\ k <= 64 /\ wr = w.alloc (.cells #[.int .i64 (m : Int), .int .u64 (x : Int), .int .u64 (z : Int), .int .i64 ph] 32) /\ Hid (∀ j, m <= j -> j < k -> bt x j = 0 /\ bt z j = 0)) (fun vi _ => 64 - (Go.RowKit.intOf vi).toNat)
          case atStart => exact ⟨m, rfl, Nat.le_refl _, hm, rfl, hide (fun j h1 h2 => absurd h2 (by omega))⟩
          case round =>
            obtain ⟨k, rfl, hmk, hk, rfl, HI⟩ := hrel
            by_cases h : k < 64
            . have hd : decide ((k : Int) < 64) = true := decide_eq_true (by omega)
              have c1' := fun W => c1 k hk W
              have c2' := fun W => c2 k hk W
              have l1 := bt_lt x k
              have l2 := bt_lt z k
              have HN : Hid (bt x k = 0 -> bt z k = 0 -> ∀ j, m <= j -> j < k + 1 -> bt x j = 0 /\ bt z j = 0) := hide (fun e1 e2 j g1 g2 => by
                by_cases e : j = k
                . subst e; exact ⟨e1, e2⟩
                . exact HI.out j g1 (by omega))
              have HF : Hid (bt x k = 1 ∨ bt z k = 1 -> R = false) := hide (fun hh => by
                rw [← HR.out]
                refine decide_eq_false (fun g => ?_)
                rcases hh with hh | hh
                . have := HX.out.1 g.2.2.1 k hmk h; omega
                . have := HZ.out.1 g.2.2.2.1 k hmk h; omega)
              clear c1 c2
              generalize bt x k = u at *
              generalize bt z k = v at *
              have hu : u = 0 ∨ u = 1 := by omega
              have hv : v = 0 ∨ v = 1 := by omega
              rcases hu with rfl | rfl
              . rcases hv with rfl | rfl
                . simp only [Int.natCast_zero] at c1' c2'
                  have HN' := hide (HN.out rfl rfl)
                  clear HN HF
                  go_wp2_with (go_at_call 71; first | ((with_reducible refine Calls.mono (c1' _) ?_); rintro e w1 ⟨rfl, hw⟩; obtain rfl := hw.symm) | ((with_reducible refine Calls.mono (c2' _) ?_); rintro e w1 ⟨rfl, hw⟩; obtain rfl := hw.symm))
                  go_roundw
                  case rel => exact ⟨k + 1, by go_num, by omega, by omega, (by trivial), HN'⟩
                  case measure => simp [Go.RowKit.intOf]; omega
                . simp only [Int.natCast_zero, Int.natCast_one] at c1' c2'
                  obtain rfl := HF.out (.inr rfl)
                  clear HN HF
                  go_wp2_with (go_at_call 71; first | ((with_reducible refine Calls.mono (c1' _) ?_); rintro e w1 ⟨rfl, hw⟩; obtain rfl := hw.symm) | ((with_reducible refine Calls.mono (c2' _) ?_); rintro e w1 ⟨rfl, hw⟩; obtain rfl := hw.symm))
                  go_ret
                  exact ⟨rfl, HB.out⟩
              . simp only [Int.natCast_one] at c1'
                obtain rfl := HF.out (.inl rfl)
                clear HN HF
                go_wp2_with (go_at_call 71; first | ((with_reducible refine Calls.mono (c1' _) ?_); rintro e w1 ⟨rfl, hw⟩; obtain rfl := hw.symm) | ((with_reducible refine Calls.mono (c2' _) ?_); rintro e w1 ⟨rfl, hw⟩; obtain rfl := hw.symm))
                go_ret
                exact ⟨rfl, HB.out⟩
            . obtain rfl : k = 64 := by omega
              have hT : R = true := by
                rw [← HR.out]
                exact decide_eq_true ⟨by omega, by omega, HX.out.2 (fun j g1 g2 => (HI.out j g1 g2).1), HZ.out.2 (fun j g1 g2 => (HI.out j g1 g2).2), by omega, by omega⟩
              subst hT
              go_wp2_with fail
              go_ret
              exact ⟨rfl, HB.out⟩
theorem dLetter (p : P) (hp : Wd p) (q : Int) (w : World) : Calls Tryd.prog 73 #[pV p, .int .i64 q] w fun e w' => e = .returned (.int .u8 (letP p q : Int)) /\ Below w.heap.size w w' := by
  have c1 := fun W => dRight p hp W
  have hn : rt p = true -> 0 <= p.n /\ p.n <= 64 := fun h => ⟨(rt_iff.1 h).1, (rt_iff.1 h).2.1⟩
  have b1 := fun (k : Nat) (hk : k <= 64) W => dBit p.x k hp.1 hk W
  have b2 := fun (k : Nat) (hk : k <= 64) W => dBit p.z k hp.2 hk W
  unfold letP
  generalize rt p = r at *
  obtain ⟨n, x, z, ph⟩ := p
  have HB := hide (bnew w (.cells #[.int .i64 n, .int .u64 (x : Int), .int .u64 (z : Int), .int .i64 ph] 32))
  have HA := hide (At4.new w (.int .i64 n) (.int .u64 (x : Int)) (.int .u64 (z : Int)) (.int .i64 ph))
  unfold pV at *
  simp only at *
  clear hp
  cases r
  . rw [if_neg (by simp)]
    clear b1 b2 hn
    go_enter Tryd.func73, Tryd.ntmps73
    go_wp2_with (first
      | (go_at_call 57; refine (c1 _).mono ?_; rintro e w1 ⟨rfl, hb1⟩; obtain ⟨x0, x1, x2, x3, x4⟩ := (HA.out.below hb1).cells; have HB1 := hide (bkp HB.out hb1)))
    go_ret
    exact ⟨rfl, HB1.out⟩
  . have hn' := hn rfl
    clear hn
    by_cases h0 : q < 0
    . rw [if_neg (by omega)]
      have d0 : decide (q < 0) = true := decide_eq_true h0
      clear b1 b2
      go_enter Tryd.func73, Tryd.ntmps73
      go_wp2_with (first
        | (go_at_call 57; refine (c1 _).mono ?_; rintro e w1 ⟨rfl, hb1⟩; obtain ⟨x0, x1, x2, x3, x4⟩ := (HA.out.below hb1).cells; have HB1 := hide (bkp HB.out hb1)))
      go_ret
      exact ⟨rfl, HB1.out⟩
    . have d0 : decide (q < 0) = false := decide_eq_false h0
      by_cases h1 : q < n
      . rw [if_pos ⟨rfl, by omega, h1⟩]
        have d2 : decide (n <= q) = false := decide_eq_false (by omega)
        obtain ⟨k, rfl⟩ : ∃ k : Nat, q = (k : Int) := ⟨q.toNat, by omega⟩
        rw [Int.toNat_natCast]
        have b1' := fun W => b1 k (by omega) W
        have b2' := fun W => b2 k (by omega) W
        have l1 := bt_lt x k
        have l2 := bt_lt z k
        clear b1 b2
        generalize bt x k = u at *
        generalize bt z k = v at *
        have hu : u = 0 ∨ u = 1 := by omega
        have hv : v = 0 ∨ v = 1 := by omega
        rcases hu with rfl | rfl <;> rcases hv with rfl | rfl
        all_goals simp only [Int.natCast_zero, Int.natCast_one] at b1' b2'
        all_goals go_enter Tryd.func73, Tryd.ntmps73
        all_goals go_wp2_with (first
          | (go_at_call 57; refine (c1 _).mono ?_; rintro e w1 ⟨rfl, hb1⟩; obtain ⟨x0, x1, x2, x3, x4⟩ := (HA.out.below hb1).cells; have HB1 := hide (bkp HB.out hb1)))
        all_goals go_quiet (first | (go_at_call 71; first | (with_reducible exact Calls.quiet_of_same (b1' _)) | (with_reducible exact Calls.quiet_of_same (b2' _))))
        all_goals go_wp2_with fail
        all_goals go_ret
        all_goals exact ⟨rfl, bdrew HB1.out _⟩
      . rw [if_neg (by omega)]
        have d2 : decide (n <= q) = true := decide_eq_true (by omega)
        clear b1 b2
        go_enter Tryd.func73, Tryd.ntmps73
        go_wp2_with (first
          | (go_at_call 57; refine (c1 _).mono ?_; rintro e w1 ⟨rfl, hb1⟩; obtain ⟨x0, x1, x2, x3, x4⟩ := (HA.out.below hb1).cells; have HB1 := hide (bkp HB.out hb1)))
        go_ret
        exact ⟨rfl, HB1.out⟩
theorem dOne_tab (u v u' v' : Nat) (hu : u < 2) (hv : v < 2) (hu' : u' < 2) (hv' : v' < 2) (w : World) : Calls Tryd.prog 72 #[.int .u8 (lt u v : Int), .int .u8 (lt u' v' : Int)] w fun e w' => e = .returned (.int .i64 (on (lt u v) (lt u' v') : Int)) /\ w' = w := by
  have h1 : u = 0 ∨ u = 1 := by omega
  have h2 : v = 0 ∨ v = 1 := by omega
  have h3 : u' = 0 ∨ u' = 1 := by omega
  have h4 : v' = 0 ∨ v' = 1 := by omega
  rcases h1 with rfl | rfl <;> rcases h2 with rfl | rfl <;> rcases h3 with rfl | rfl <;> rcases h4 with rfl | rfl
  all_goals simp only [lt, on, if_true, if_false, Nat.one_ne_zero]
  all_goals go_enter Tryd.func72, Tryd.ntmps72
  all_goals go_wp2_with fail
  all_goals go_ret
  all_goals exact ⟨rfl, rfl⟩
end Go.Proofs.YtaggifpnamjghaaDoor.Pau
