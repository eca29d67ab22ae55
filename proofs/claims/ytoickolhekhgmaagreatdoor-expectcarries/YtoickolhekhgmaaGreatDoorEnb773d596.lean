import Derived.Test.YtoickolhekhgmaaGreatDoorEncfc45d73
namespace Go.Proofs.YtoickolhekhgmaaGreatDoor.Gt
end Go.Proofs.YtoickolhekhgmaaGreatDoor.Gt
set_option maxRecDepth 100000
set_option maxHeartbeats 4000000
namespace Go.Proofs.YtoickolhekhgmaaGreatDoor.Pau
open Go.RowKit
theorem bt_tb (x q : Nat) : bt x q = (x.testBit q).toNat := by
  unfold bt
  rw [Nat.testBit_eq_decide_div_mod_eq]
  rcases Nat.mod_two_eq_zero_or_one (x / 2 ^ q) with h | h <;> rw [h] <;> rfl
theorem bt_and (x y q : Nat) : bt (x &&& y) q = bt x q * bt y q := by
  rw [bt_tb, bt_tb, bt_tb, Nat.testBit_and]
  cases x.testBit q <;> cases y.testBit q <;> rfl
theorem bt_or (x y q : Nat) : bt (x ||| y) q = if bt x q = 0 /\ bt y q = 0 then 0 else 1 := by
  rw [bt_tb, bt_tb, bt_tb, Nat.testBit_or]
  cases x.testBit q <;> cases y.testBit q <;> rfl
theorem bt_xor (x y q : Nat) : bt (x ^^^ y) q = (bt x q + bt y q) % 2 := by
  rw [bt_tb, bt_tb, bt_tb, Nat.testBit_xor]
  cases x.testBit q <;> cases y.testBit q <;> rfl
theorem bt_small {x n : Nat} (h : x < 2 ^ n) {q : Nat} (hq : n <= q) : bt x q = 0 := by
  unfold bt
  rw [Nat.div_eq_of_lt (Nat.lt_of_lt_of_le h (Nat.pow_le_pow_right (by decide) hq))]
theorem small_iff {x n : Nat} (hx : x < 18446744073709551616) : x < 2 ^ n ↔ ∀ j, n <= j -> j < 64 -> bt x j = 0 := by
  refine ⟨fun h j hj _ => bt_small h hj, fun h => Nat.lt_pow_two_of_testBit _ (fun i hi => ?_)⟩
  by_cases h64 : i < 64
  . have := h i hi h64
    rw [bt_tb] at this
    cases hb : x.testBit i
    . rfl
    . rw [hb] at this; cases this
  . exact Nat.testBit_lt_two_pow (Nat.lt_of_lt_of_le hx (by rw [show (18446744073709551616 : Nat) = 2 ^ 64 from rfl]; exact Nat.pow_le_pow_right (by decide) (by omega)))
theorem bt_ext {x y : Nat} (h : ∀ q, bt x q = bt y q) : x = y := by
  refine Nat.eq_of_testBit_eq (fun i => ?_)
  have := h i
  rw [bt_tb, bt_tb] at this
  cases hx : x.testBit i <;> cases hy : y.testBit i <;> rw [hx, hy] at this <;> first | rfl | cases this
theorem sm_mod {f g : Nat -> Nat} (m : Nat) : ∀ n, (∀ q, q < n -> f q % m = g q % m) -> sm n f % m = sm n g % m
  | 0, _ => rfl
  | n + 1, h => by
    rw [sm, sm, Nat.add_mod, sm_mod m n (fun q hq => h q (by omega)), h n (by omega), ← Nat.add_mod]
def on (a b : Nat) : Nat := if a = 73 ∨ b = 73 ∨ a = b then 0 else if a = 88 /\ b = 89 ∨ a = 89 /\ b = 90 ∨ a = 90 /\ b = 88 then 1 else 3
def onq (a b : P) (q : Nat) : Nat := on (lt (bt a.x q) (bt a.z q)) (lt (bt b.x q) (bt b.z q))
theorem on_tab : ∀ u v u' v' : Fin 2, (2 * (v.1 * u'.1) + u.1 * v.1 + u'.1 * v'.1) % 4 = (on (lt u.1 v.1) (lt u'.1 v'.1) + (u.1 + u'.1) % 2 * ((v.1 + v'.1) % 2)) % 4 := by decide
theorem on_bits (a b : P) (q : Nat) : (2 * bt (a.z &&& b.x) q + bt (a.x &&& a.z) q + bt (b.x &&& b.z) q) % 4 = (onq a b q + bt ((a.x ^^^ b.x) &&& (a.z ^^^ b.z)) q) % 4 := by
  rw [bt_and, bt_and, bt_and, bt_and, bt_xor, bt_xor]
  exact on_tab ⟨bt a.x q, bt_lt _ _⟩ ⟨bt a.z q, bt_lt _ _⟩ ⟨bt b.x q, bt_lt _ _⟩ ⟨bt b.z q, bt_lt _ _⟩
theorem mulPh_eq (a b : P) : mulPh a b = (a.ph + b.ph + (sm 64 (onq a b) : Int)) % 4 := by
  have h := sm_mod 4 64 (fun q _ => on_bits a b q)
  rw [sm_add, sm_add, sm_add, sm_mul] at h
  unfold mulPh
  unfold pc
  omega
theorem on_le (a b : Nat) : on a b <= 3 := by unfold on; (repeat' split) <;> omega
theorem onq_zero {a b : P} {q : Nat} (h1 : bt a.x q = 0) (h2 : bt a.z q = 0) : onq a b q = 0 := by
  unfold onq
  rw [h1, h2]
  rfl
theorem sm_cut {f : Nat -> Nat} {n : Nat} (hn : n <= 64) (h : ∀ q, n <= q -> q < 64 -> f q = 0) : sm 64 f = sm n f := by
  obtain ⟨k, hk⟩ : ∃ k, 64 = n + k := ⟨64 - n, by omega⟩
  rw [hk, sm_split, sm_zero k (fun q hq => h (n + q) (by omega) (by omega)), Nat.add_zero]
theorem rt_iff {p : P} : rt p = true ↔ 0 <= p.n /\ p.n <= 64 /\ p.x < 2 ^ p.n.toNat /\ p.z < 2 ^ p.n.toNat /\ 0 <= p.ph /\ p.ph <= 3 := by
  unfold rt
  rw [decide_eq_true_eq]
theorem fit_iff {a b : P} : fitP a b = true ↔ rt a = true /\ rt b = true /\ a.n = b.n := by
  unfold fitP
  simp only [Bool.and_eq_true, decide_eq_true_eq, and_assoc]
theorem mul_rt {a b : P} (h : fitP a b = true) : rt (mulP a b) = true := by
  obtain ⟨h1, h2, h3⟩ := fit_iff.1 h
  obtain ⟨a1, a2, a3, a4, -⟩ := rt_iff.1 h1
  obtain ⟨b1, b2, b3, b4, -⟩ := rt_iff.1 h2
  rw [← h3] at b3 b4
  refine rt_iff.2 ⟨a1, a2, Nat.xor_lt_two_pow a3 b3, Nat.xor_lt_two_pow a4 b4, ?_, ?_⟩
  . show 0 <= mulPh a b
    unfold mulPh
    omega
  . show mulPh a b <= 3
    unfold mulPh
    omega
theorem mul_cut {a b : P} (h : fitP a b = true) : mulPh a b = (a.ph + b.ph + (sm a.n.toNat (onq a b) : Int)) % 4 := by
  obtain ⟨h1, -, -⟩ := fit_iff.1 h
  obtain ⟨a1, a2, a3, a4, -⟩ := rt_iff.1 h1
  rw [mulPh_eq, sm_cut (n := a.n.toNat) (by omega) (fun q hq _ => onq_zero (bt_small a3 hq) (bt_small a4 hq))]
theorem P.ext' {a b : P} (h1 : a.n = b.n) (h2 : a.x = b.x) (h3 : a.z = b.z) (h4 : a.ph = b.ph) : a = b := by
  cases a; cases b; simp only at *; subst h1; subst h2; subst h3; subst h4; rfl
theorem dBit (x k : Nat) (hx : x < 18446744073709551616) (hk : k <= 64) (w : World) : Calls Tryz.prog 45 #[.int .u64 (x : Int), .int .i64 (k : Int)] w fun e w' => e = .returned (.int .i64 (bt x k : Int)) /\ w' = w := by
  have b1 := bit_run x k hx
  have l1 := bt_lt x k
  have hw : IntKind.u64.wrap (k : Int) = (k : Int) := by rw [wrapU]; omega
  have hw2 : wrap64 ((bt x k : Nat) : Int) = ((bt x k : Nat) : Int) := by unfold wrap64; omega
  have hw3 : IntKind.i64.wrap ((bt x k : Nat) : Int) = ((bt x k : Nat) : Int) := by rw [wrapI]; omega
  generalize bt x k = u at *
  clear hx l1
  go_enter Tryz.func45, Tryz.ntmps45
  go_wp2_with fail
  go_ret
  exact ⟨rfl, rfl⟩
theorem dRight (p : P) (hp : Wd p) (w : World) : Calls Tryz.prog 21 #[pV p] w fun e w' => e = .returned (.bool (rt p)) /\ Below w.heap.size w w' := by
  have c1 := fun (k : Nat) (hk : k <= 64) W => dBit p.x k hp.1 hk W
  have c2 := fun (k : Nat) (hk : k <= 64) W => dBit p.z k hp.2 hk W
  have sx := small_iff (n := p.n.toNat) hp.1
  have sz := small_iff (n := p.n.toNat) hp.2
  unfold rt
  obtain ⟨n, x, z, ph⟩ := p
  simp only at *
  have HB := hide (bnew w (.cells #[.int .i64 n, .int .u64 (x : Int), .int .u64 (z : Int), .int .i64 ph] 27))
  have HA := hide (At4.new w (.int .i64 n) (.int .u64 (x : Int)) (.int .u64 (z : Int)) (.int .i64 ph))
  unfold pV
  simp only
  by_cases h0 : n < 0
  . rw [decide_eq_false (by omega)]
    have d0 : decide (n < 0) = true := decide_eq_true h0
    clear hp c1 c2 sx sz
    go_enter Tryz.func21, Tryz.ntmps21
    go_wp2_with fail
    go_ret
    exact ⟨rfl, HB.out⟩
  . have d0 : decide (n < 0) = false := decide_eq_false h0
    by_cases h1 : 64 < n
    . rw [decide_eq_false (by omega)]
      have d1 : decide (64 < n) = true := decide_eq_true h1
      clear hp c1 c2 sx sz
      go_enter Tryz.func21, Tryz.ntmps21
      go_wp2_with fail
      go_ret
      exact ⟨rfl, HB.out⟩
    . have d1 : decide (64 < n) = false := decide_eq_false h1
      by_cases h2 : ph < 0
      . rw [decide_eq_false (by omega)]
        have d2 : decide (ph < 0) = true := decide_eq_true h2
        clear hp c1 c2 sx sz
        go_enter Tryz.func21, Tryz.ntmps21
        go_wp2_with fail
        go_ret
        exact ⟨rfl, HB.out⟩
      . have d2 : decide (ph < 0) = false := decide_eq_false h2
        by_cases h3 : 3 < ph
        . rw [decide_eq_false (by omega)]
          have d3 : decide (3 < ph) = true := decide_eq_true h3
          clear hp c1 c2 sx sz
          go_enter Tryz.func21, Tryz.ntmps21
          go_wp2_with fail
          go_ret
          exact ⟨rfl, HB.out⟩
        . have d3 : decide (3 < ph) = false := decide_eq_false h3
          obtain ⟨m, rfl⟩ : ∃ m : Nat, n = (m : Int) := ⟨n.toNat, by omega⟩
          rw [Int.toNat_natCast] at *
          have HX := hide sx
          have HZ := hide sz
          have hm : m <= 64 := by omega
          obtain ⟨R, hR⟩ : ∃ R, decide (0 <= (m : Int) /\ (m : Int) <= 64 /\ x < 2 ^ m /\ z < 2 ^ m /\ 0 <= ph /\ ph <= 3) = R := ⟨_, rfl⟩
          rw [hR]
          have HR := hide hR
          clear hp sx sz hR
          go_enter Tryz.func21, Tryz.ntmps21
          go_wp2_with fail
          go_loopw [3] (fun vi wr => ∃ k : Nat, vi = .int .i64 (k : Int) /\ m <= k /\ k <= 64 /\ wr = w.alloc (.cells #[.int .i64 (m : Int), .int .u64 (x : Int), .int .u64 (z : Int), .int .i64 ph] 27) /\ Hid (∀ j, m <= j -> j < k -> bt x j = 0 /\ bt z j = 0)) (fun vi _ => 64 - (Go.RowKit.intOf vi).toNat)
          case atStart => exact ⟨m, rfl, Nat.le_refl _, hm, rfl, hide (fun j h1 h2 => absurd h2 (by omega))⟩
          case round =>
            obtain ⟨k, rfl, hmk, hk, rfl, HI⟩ := hrel
            by_cases h : k < 64
            . have hd : decide ((k : Int) < 64) = true := decide_eq_true (by omega)
              have c1' := fun W => c1 k hk W
              have c2' := fun W => c2 k hk W
              have l1 := bt_lt x k
              have l2 := bt_lt z k
              have HN : Hid (bt x k = 0 -> bt z k = 0 -> ∀ j, m <= j -> j < k + 1 -> bt x j = 0 /\ bt z j = 0) := hide (fun e1 e2 j g1 g2 => by
                by_cases e : j = k
                . subst e; exact ⟨e1, e2⟩
                . exact HI.out j g1 (by omega))
              have HF : Hid (bt x k = 1 ∨ bt z k = 1 -> R = false) := hide (fun hh => by
                rw [← HR.out]
                refine decide_eq_false (fun g => ?_)
                rcases hh with hh | hh
                . have := HX.out.1 g.2.2.1 k hmk h; omega
                . have := HZ.out.1 g.2.2.2.1 k hmk h; omega)
              clear c1 c2
              generalize bt x k = u at *
              generalize bt z k = v at *
              have hu : u = 0 ∨ u = 1 := by omega
              have hv : v = 0 ∨ v = 1 := by omega
              rcases hu with rfl | rfl
              . rcases hv with rfl | rfl
                . simp only [Int.natCast_zero] at c1' c2'
                  have HN' := hide (HN.out rfl rfl)
                  clear HN HF
                  go_wp2_with (go_at_call 45; first | ((with_reducible refine Calls.mono (c1' _) ?_); rintro e w1 ⟨rfl, hw⟩; obtain rfl := hw.symm) | ((with_reducible refine Calls.mono (c2' _) ?_); rintro e w1 ⟨rfl, hw⟩; obtain rfl := hw.symm))
                  go_roundw
                  case rel => exact ⟨k + 1, by go_num, by omega, by omega, (by trivial), HN'⟩
                  case measure => simp [Go.RowKit.intOf]; omega
                . simp only [Int.natCast_zero, Int.natCast_one] at c1' c2'
                  obtain rfl := HF.out (.inr rfl)
                  clear HN HF
                  go_wp2_with (go_at_call 45; first | ((with_reducible refine Calls.mono (c1' _) ?_); rintro e w1 ⟨rfl, hw⟩; obtain rfl := hw.symm) | ((with_reducible refine Calls.mono (c2' _) ?_); rintro e w1 ⟨rfl, hw⟩; obtain rfl := hw.symm))
                  go_ret
                  exact ⟨rfl, HB.out⟩
              . simp only [Int.natCast_one] at c1'
                obtain rfl := HF.out (.inl rfl)
                clear HN HF
                go_wp2_with (go_at_call 45; first | ((with_reducible refine Calls.mono (c1' _) ?_); rintro e w1 ⟨rfl, hw⟩; obtain rfl := hw.symm) | ((with_reducible refine Calls.mono (c2' _) ?_); rintro e w1 ⟨rfl, hw⟩; obtain rfl := hw.symm))
                go_ret
                exact ⟨rfl, HB.out⟩
            . obtain rfl : k = 64 := by omega
              have hT : R = true := by
                rw [← HR.out]
                exact decide_eq_true ⟨by omega, by omega, HX.out.2 (fun j g1 g2 => (HI.out j g1 g2).1), HZ.out.2 (fun j g1 g2 => (HI.out j g1 g2).2), by omega, by omega⟩
              subst hT
              go_wp2_with fail
              go_ret
              exact ⟨rfl, HB.out⟩
theorem dLetter (p : P) (hp : Wd p) (q : Int) (w : World) : Calls Tryz.prog 79 #[pV p, .int .i64 q] w fun e w' => e = .returned (.int .u8 (letP p q : Int)) /\ Below w.heap.size w w' := by
  have c1 := fun W => dRight p hp W
  have hn : rt p = true -> 0 <= p.n /\ p.n <= 64 := fun h => ⟨(rt_iff.1 h).1, (rt_iff.1 h).2.1⟩
  have b1 := fun (k : Nat) (hk : k <= 64) W => dBit p.x k hp.1 hk W
  have b2 := fun (k : Nat) (hk : k <= 64) W => dBit p.z k hp.2 hk W
  unfold letP
  generalize rt p = r at *
  obtain ⟨n, x, z, ph⟩ := p
  have HB := hide (bnew w (.cells #[.int .i64 n, .int .u64 (x : Int), .int .u64 (z : Int), .int .i64 ph] 27))
  have HA := hide (At4.new w (.int .i64 n) (.int .u64 (x : Int)) (.int .u64 (z : Int)) (.int .i64 ph))
  unfold pV at *
  simp only at *
  clear hp
  cases r
  . rw [if_neg (by simp)]
    clear b1 b2 hn
    go_enter Tryz.func79, Tryz.ntmps79
    go_wp2_with (first
      | (go_at_call 21; refine (c1 _).mono ?_; rintro e w1 ⟨rfl, hb1⟩; obtain ⟨x0, x1, x2, x3, x4⟩ := (HA.out.below hb1).cells; have HB1 := hide (bkp HB.out hb1)))
    go_ret
    exact ⟨rfl, HB1.out⟩
  . have hn' := hn rfl
    clear hn
    by_cases h0 : q < 0
    . rw [if_neg (by omega)]
      have d0 : decide (q < 0) = true := decide_eq_true h0
      clear b1 b2
      go_enter Tryz.func79, Tryz.ntmps79
      go_wp2_with (first
        | (go_at_call 21; refine (c1 _).mono ?_; rintro e w1 ⟨rfl, hb1⟩; obtain ⟨x0, x1, x2, x3, x4⟩ := (HA.out.below hb1).cells; have HB1 := hide (bkp HB.out hb1)))
      go_ret
      exact ⟨rfl, HB1.out⟩
    . have d0 : decide (q < 0) = false := decide_eq_false h0
      by_cases h1 : q < n
      . rw [if_pos ⟨rfl, by omega, h1⟩]
        have d2 : decide (n <= q) = false := decide_eq_false (by omega)
        obtain ⟨k, rfl⟩ : ∃ k : Nat, q = (k : Int) := ⟨q.toNat, by omega⟩
        rw [Int.toNat_natCast]
        have b1' := fun W => b1 k (by omega) W
        have b2' := fun W => b2 k (by omega) W
        have l1 := bt_lt x k
        have l2 := bt_lt z k
        clear b1 b2
        generalize bt x k = u at *
        generalize bt z k = v at *
        have hu : u = 0 ∨ u = 1 := by omega
        have hv : v = 0 ∨ v = 1 := by omega
        rcases hu with rfl | rfl <;> rcases hv with rfl | rfl
        all_goals simp only [Int.natCast_zero, Int.natCast_one] at b1' b2'
        all_goals go_enter Tryz.func79, Tryz.ntmps79
        all_goals go_wp2_with (first
          | (go_at_call 21; refine (c1 _).mono ?_; rintro e w1 ⟨rfl, hb1⟩; obtain ⟨x0, x1, x2, x3, x4⟩ := (HA.out.below hb1).cells; have HB1 := hide (bkp HB.out hb1)))
        all_goals go_quiet (first | (go_at_call 45; first | (with_reducible exact Calls.quiet_of_same (b1' _)) | (with_reducible exact Calls.quiet_of_same (b2' _))))
        all_goals go_wp2_with fail
        all_goals go_ret
        all_goals exact ⟨rfl, bdrew HB1.out _⟩
      . rw [if_neg (by omega)]
        have d2 : decide (n <= q) = true := decide_eq_true (by omega)
        clear b1 b2
        go_enter Tryz.func79, Tryz.ntmps79
        go_wp2_with (first
          | (go_at_call 21; refine (c1 _).mono ?_; rintro e w1 ⟨rfl, hb1⟩; obtain ⟨x0, x1, x2, x3, x4⟩ := (HA.out.below hb1).cells; have HB1 := hide (bkp HB.out hb1)))
        go_ret
        exact ⟨rfl, HB1.out⟩
theorem dOne_tab (u v u' v' : Nat) (hu : u < 2) (hv : v < 2) (hu' : u' < 2) (hv' : v' < 2) (w : World) : Calls Tryz.prog 78 #[.int .u8 (lt u v : Int), .int .u8 (lt u' v' : Int)] w fun e w' => e = .returned (.int .i64 (on (lt u v) (lt u' v') : Int)) /\ w' = w := by
  have h1 : u = 0 ∨ u = 1 := by omega
  have h2 : v = 0 ∨ v = 1 := by omega
  have h3 : u' = 0 ∨ u' = 1 := by omega
  have h4 : v' = 0 ∨ v' = 1 := by omega
  rcases h1 with rfl | rfl <;> rcases h2 with rfl | rfl <;> rcases h3 with rfl | rfl <;> rcases h4 with rfl | rfl
  all_goals simp only [lt, on, if_true, if_false, Nat.one_ne_zero]
  all_goals go_enter Tryz.func78, Tryz.ntmps78
  all_goals go_wp2_with fail
  all_goals go_ret
  all_goals exact ⟨rfl, rfl⟩
end Go.Proofs.YtoickolhekhgmaaGreatDoor.Pau
namespace Go.Proofs.YtoickolhekhgmaaGreatDoor.Pau
open Go.RowKit Go.Proofs.YtoickolhekhgmaaGreatDoor.Gt
theorem letP_in {p : P} (h : rt p = true) {q : Nat} (hq : (q : Int) < p.n) : letP p (q : Int) = lt (bt p.x q) (bt p.z q) := by
  unfold letP
  rw [if_pos ⟨h, by omega, hq⟩, Int.toNat_natCast]
theorem dMul_no (a b : P) (ha : Wd a) (hb : Wd b) (hf : fitP a b = false) (w : World) : Calls Tryz.prog 46 #[pV a, pV b] w fun e w' => e = .returned (.tuple #[pV oP, .int .i64 130]) /\ Below w.heap.size w w' := by
  have c1 := fun W => dRight a ha W
  have c2 := fun W => dRight b hb W
  have hff : rt a = false ∨ (rt a = true /\ rt b = false) ∨ (rt a = true /\ rt b = true /\ a.n ≠ b.n) := by
    cases h1 : rt a with
    | false => exact .inl rfl
    | true =>
      cases h2 : rt b with
      | false => exact .inr (.inl ⟨rfl, rfl⟩)
      | true =>
        refine .inr (.inr ⟨rfl, rfl, fun e => ?_⟩)
        rw [fit_iff.2 ⟨h1, h2, e⟩] at hf
        cases hf
  generalize rt a = r1 at *
  generalize rt b = r2 at *
  obtain ⟨n, x, z, ph⟩ := a
  obtain ⟨n', x', z', ph'⟩ := b
  unfold oP pV at *
  simp only at *
  obtain ⟨HA, HA', HA2⟩ := At4.three w (.int .i64 n) (.int .u64 (x : Int)) (.int .u64 (z : Int)) (.int .i64 ph) (.int .i64 n') (.int .u64 (x' : Int)) (.int .u64 (z' : Int)) (.int .i64 ph') (.int .i64 0) (.int .u64 0) (.int .u64 0) (.int .i64 0)
  have HAh := hide HA
  have HAh' := hide HA'
  have HAh2 := hide HA2
  have HB := hide (bkp (bkp (bnew w (.cells #[.int .i64 n, .int .u64 (x : Int), .int .u64 (z : Int), .int .i64 ph] 27)) (bnew _ (.cells #[.int .i64 n', .int .u64 (x' : Int), .int .u64 (z' : Int), .int .i64 ph'] 27))) (bnew _ (.cells #[.int .i64 0, .int .u64 0, .int .u64 0, .int .i64 0] 27)))
  clear HA HA' HA2 ha hb hf
  rcases hff with rfl | ⟨rfl, rfl⟩ | ⟨rfl, rfl, hne⟩
  . go_enter Tryz.func46, Tryz.ntmps46
    go_wp2_with fail
    refine (c1 _).mono ?_
    rintro e w1 ⟨rfl, hb1⟩
    obtain ⟨x0, x1, x2, x3, x4⟩ := (HAh.out.below hb1).cells
    obtain ⟨y0, y1, y2, y3, y4⟩ := (HAh'.out.below hb1).cells
    have HB1 := hide (bkp HB.out hb1)
    have hR := HAh2.out.below hb1
    unfold At4 at hR
    clear hb1
    go_wp2_with (first
      | (refine wpList_store_row rfl _ _ _ rfl (w.heap.size + 1 + 1) _ rfl rfl _ _ hR (by exact infoP) (by rfl) (allP _ _ _ _) ?_))
    refine bodyPost_ret (results_ct rfl _ _ (w.heap.size + 1 + 1) _ _ _ _ rfl (setRow_heap _ _ _ _ _ _ hR) Tryz.underlying27 rfl (by exact infoP)) rfl ?_
    exact ⟨rfl, below_setRow HB1.out (by omega) _⟩
  . go_enter Tryz.func46, Tryz.ntmps46
    go_wp2_with fail
    refine (c1 _).mono ?_
    rintro e w1 ⟨rfl, hb1⟩
    obtain ⟨x0, x1, x2, x3, x4⟩ := (HAh.out.below hb1).cells
    obtain ⟨y0, y1, y2, y3, y4⟩ := (HAh'.out.below hb1).cells
    have HB1 := hide (bkp HB.out hb1)
    have HR1 := hide (HAh2.out.below hb1)
    clear hb1
    go_wp2_with fail
    refine (c2 _).mono ?_
    rintro e w2 ⟨rfl, hb2⟩
    have HB2 := hide (bkp HB1.out hb2)
    have hR := HR1.out.below hb2
    unfold At4 at hR
    clear hb2 x0 x1 x2 x3 x4 y0 y1 y2 y3 y4
    go_wp2_with (first
      | (refine wpList_store_row rfl _ _ _ rfl (w.heap.size + 1 + 1) _ rfl rfl _ _ hR (by exact infoP) (by rfl) (allP _ _ _ _) ?_))
    refine bodyPost_ret (results_ct rfl _ _ (w.heap.size + 1 + 1) _ _ _ _ rfl (setRow_heap _ _ _ _ _ _ hR) Tryz.underlying27 rfl (by exact infoP)) rfl ?_
    exact ⟨rfl, below_setRow HB2.out (by omega) _⟩
  . have hne' : (n == n') = false := beq_eq_false_iff_ne.2 hne
    have hne2 : (n != n') = true := bne_iff_ne.2 hne
    go_enter Tryz.func46, Tryz.ntmps46
    go_wp2_with fail
    refine (c1 _).mono ?_
    rintro e w1 ⟨rfl, hb1⟩
    obtain ⟨x0, x1, x2, x3, x4⟩ := (HAh.out.below hb1).cells
    obtain ⟨y0, y1, y2, y3, y4⟩ := (HAh'.out.below hb1).cells
    have HB1 := hide (bkp HB.out hb1)
    have HR1 := hide (HAh2.out.below hb1)
    have G1 := hide (HAh.out.below hb1)
    have G2 := hide (HAh'.out.below hb1)
    clear hb1
    go_wp2_with fail
    refine (c2 _).mono ?_
    rintro e w2 ⟨rfl, hb2⟩
    have HB2 := hide (bkp HB1.out hb2)
    have hR := HR1.out.below hb2
    unfold At4 at hR
    clear x0 x1 x2 x3 x4 y0 y1 y2 y3 y4
    obtain ⟨x0, x1, x2, x3, x4⟩ := (G1.out.below hb2).cells
    obtain ⟨y0, y1, y2, y3, y4⟩ := (G2.out.below hb2).cells
    clear hb2
    go_wp2_with (first
      | (refine wpList_store_row rfl _ _ _ rfl (w.heap.size + 1 + 1) _ rfl rfl _ _ hR (by exact infoP) (by rfl) (allP _ _ _ _) ?_))
    refine bodyPost_ret (results_ct rfl _ _ (w.heap.size + 1 + 1) _ _ _ _ rfl (setRow_heap _ _ _ _ _ _ hR) Tryz.underlying27 rfl (by exact infoP)) rfl ?_
    exact ⟨rfl, below_setRow HB2.out (by omega) _⟩
theorem dMul_ok (a b : P) (ha : Wd a) (hb : Wd b) (hf : fitP a b = true) (w : World) : Calls Tryz.prog 46 #[pV a, pV b] w fun e w' => e = .returned (.tuple #[pV (mulP a b), .int .i64 0]) /\ Below w.heap.size w w' := by
  have c1 := fun W => dRight a ha W
  have c2 := fun W => dRight b hb W
  obtain ⟨r1, r2, r3⟩ := fit_iff.1 hf
  rw [r1] at c1
  rw [r2] at c2
  have ra := rt_iff.1 r1
  have rb := rt_iff.1 r2
  have hq := mul_cut hf
  have HLa := hide (fun (k : Nat) (hk : (k : Int) < a.n) W => letP_in r1 hk ▸ dLetter a ha (k : Int) W)
  have HLb := hide (fun (k : Nat) (hk : (k : Int) < b.n) W => letP_in r2 hk ▸ dLetter b hb (k : Int) W)
  have HO := hide (fun (k : Nat) W => dOne_tab (bt a.x k) (bt a.z k) (bt b.x k) (bt b.z k) (bt_lt _ _) (bt_lt _ _) (bt_lt _ _) (bt_lt _ _) W)
  have eX : bits .xor .u64 (a.x : Int) (b.x : Int) = ((a.x ^^^ b.x : Nat) : Int) := u64_xor_nat _ _ ha.1 hb.1
  have eZ : bits .xor .u64 (a.z : Int) (b.z : Int) = ((a.z ^^^ b.z : Nat) : Int) := u64_xor_nat _ _ ha.2 hb.2
  have HLE := hide (fun k => sm_le (onq a b) 3 (fun q => on_le _ _) k)
  unfold mulP
  rw [hq]
  have hon : ∀ k, on (lt (bt a.x k) (bt a.z k)) (lt (bt b.x k) (bt b.z k)) = onq a b k := fun k => rfl
  simp only [hon] at HO
  have HON := hide (fun k => on_le (lt (bt a.x k) (bt a.z k)) (lt (bt b.x k) (bt b.z k)))
  simp only [hon] at HON
  clear hon hq
  generalize onq a b = f at *
  obtain ⟨n, x, z, ph⟩ := a
  obtain ⟨n', x', z', ph'⟩ := b
  simp only at *
  subst r3
  obtain ⟨N, rfl⟩ : ∃ N : Nat, n = (N : Int) := ⟨n.toNat, by omega⟩
  rw [Int.toNat_natCast]
  have hN : N <= 64 := by omega
  have p0 : 0 <= ph + ph' /\ ph + ph' <= 6 := by omega
  clear ra rb r1 r2 ha hb hf
  generalize hlA : (fun k => lt (bt x k) (bt z k)) = lA at *
  generalize hlB : (fun k => lt (bt x' k) (bt z' k)) = lB at *
  have eA : ∀ k, lt (bt x k) (bt z k) = lA k := fun k => congrFun hlA k
  have eB : ∀ k, lt (bt x' k) (bt z' k) = lB k := fun k => congrFun hlB k
  simp only [eA, eB] at HLa HLb HO
  clear eA eB hlA hlB
  generalize x ^^^ x' = X at *
  generalize z ^^^ z' = Z at *
  have hw0 : wrap64 (ph + ph') = ph + ph' := by unfold wrap64; omega
  unfold pV at *
  simp only at *
  have hn0 : ((N : Int) != (N : Int)) = false := by simp
  generalize hS : ph + ph' = S at *
  obtain ⟨HA, HA', HA2⟩ := At4.three w (.int .i64 (N : Int)) (.int .u64 (x : Int)) (.int .u64 (z : Int)) (.int .i64 ph) (.int .i64 (N : Int)) (.int .u64 (x' : Int)) (.int .u64 (z' : Int)) (.int .i64 ph') (.int .i64 0) (.int .u64 0) (.int .u64 0) (.int .i64 0)
  have HAh := hide HA
  have HAh' := hide HA'
  have HAh2 := hide HA2
  have HB := hide (bkp (bkp (bnew w (.cells #[.int .i64 (N : Int), .int .u64 (x : Int), .int .u64 (z : Int), .int .i64 ph] 27)) (bnew _ (.cells #[.int .i64 (N : Int), .int .u64 (x' : Int), .int .u64 (z' : Int), .int .i64 ph'] 27))) (bnew _ (.cells #[.int .i64 0, .int .u64 0, .int .u64 0, .int .i64 0] 27)))
  clear HA HA' HA2
  go_enter Tryz.func46, Tryz.ntmps46
  go_wp2_with fail
  refine (c1 _).mono ?_
  rintro e w1 ⟨rfl, hb1⟩
  obtain ⟨x0, x1, x2, x3, x4⟩ := (HAh.out.below hb1).cells
  obtain ⟨y0, y1, y2, y3, y4⟩ := (HAh'.out.below hb1).cells
  have HB1 := hide (bkp HB.out hb1)
  have F1 := hide (HAh.out.below hb1)
  have F2 := hide (HAh'.out.below hb1)
  have F3 := hide (HAh2.out.below hb1)
  clear hb1 HAh HAh' HAh2 HB c1
  go_wp2_with fail
  refine (c2 _).mono ?_
  rintro e w2 ⟨rfl, hb2⟩
  clear x0 x1 x2 x3 x4 y0 y1 y2 y3 y4
  obtain ⟨x0, x1, x2, x3, x4⟩ := (F1.out.below hb2).cells
  obtain ⟨y0, y1, y2, y3, y4⟩ := (F2.out.below hb2).cells
  have HB2 := hide (bkp HB1.out hb2)
  have hbn := bnew w2 (.cells #[.int .i64 (N : Int), .int .u64 (X : Int), .int .u64 (Z : Int), .int .i64 S] 27)
  have G1 := hide ((F1.out.below hb2).below hbn)
  have G2 := hide ((F2.out.below hb2).below hbn)
  have G3 := hide ((F3.out.below hb2).below hbn)
  have G4 := hide (At4.new w2 (.int .i64 (N : Int)) (.int .u64 (X : Int)) (.int .u64 (Z : Int)) (.int .i64 S))
  have HB3 := hide (bkp HB2.out hbn)
  have hsz : w.heap.size + 1 + 1 < w2.heap.size := (F3.out.below hb2).lt
  clear hb2 F1 F2 F3 hbn HB1 HB2 c2
  go_wp2_with fail
  generalize w2.alloc (.cells #[.int .i64 (N : Int), .int .u64 (X : Int), .int .u64 (Z : Int), .int .i64 S] 27) = w3 at *
  generalize w2.heap.size = g at *
  clear x0 x1 x2 x3 x4 y0 y1 y2 y3 y4
  go_loopw [7] (fun vi wr => ∃ k : Nat, vi = .int .i64 (k : Int) /\ k <= N /\ Hid (Below w.heap.size w wr /\ At4 wr w.heap.size (.int .i64 (N : Int)) (.int .u64 (x : Int)) (.int .u64 (z : Int)) (.int .i64 ph) /\ At4 wr (w.heap.size + 1) (.int .i64 (N : Int)) (.int .u64 (x' : Int)) (.int .u64 (z' : Int)) (.int .i64 ph') /\ At4 wr (w.heap.size + 1 + 1) (.int .i64 0) (.int .u64 0) (.int .u64 0) (.int .i64 0) /\ At4 wr g (.int .i64 (N : Int)) (.int .u64 (X : Int)) (.int .u64 (Z : Int)) (.int .i64 (S + (sm k f : Int))))) (fun vi _ => N - (Go.RowKit.intOf vi).toNat)
  case atStart => exact ⟨0, rfl, Nat.zero_le _, hide ⟨HB3.out, G1.out, G2.out, G3.out, by have := G4.out; rw [show S + ((sm 0 f : Nat) : Int) = S from Int.add_zero S]; exact this⟩⟩
  case round =>
    obtain ⟨k, rfl, hk, HI⟩ := hrel
    obtain ⟨x0, x1, x2, x3, x4⟩ := HI.out.2.1.cells
    obtain ⟨y0, y1, y2, y3, y4⟩ := HI.out.2.2.1.cells
    by_cases h : k < N
    . have hd : decide ((k : Int) < (N : Int)) = true := decide_eq_true (by omega)
      have cA := fun W => HLa.out k (by omega) W
      have cB := fun W => HLb.out k (by omega) W
      have cO := fun W => HO.out k W
      have hle := HLE.out k
      have hl3 := HON.out k
      have HS : Hid (S + ((sm (k + 1) f : Nat) : Int) = S + (sm k f : Int) + (f k : Int)) := hide (by rw [show sm (k + 1) f = sm k f + f k from rfl]; omega)
      obtain ⟨S2, hS2⟩ : ∃ S2, S + (sm k f : Int) + (f k : Int) = S2 := ⟨_, rfl⟩
      have hwr : IntKind.i64.wrap (S + (sm k f : Int) + (f k : Int)) = S2 := by rw [wrapI]; omega
      have hwr2 : wrap64 (S + (sm k f : Int) + (f k : Int)) = S2 := by unfold wrap64; omega
      have HC : Hid (∀ W, Below wr.heap.size wr W -> (W.cell? ⟨w.heap.size, 0, none⟩ = some (.int .i64 (N : Int)) /\ W.cell? ⟨w.heap.size, 1, none⟩ = some (.int .u64 (x : Int)) /\ W.cell? ⟨w.heap.size, 2, none⟩ = some (.int .u64 (z : Int)) /\ W.cell? ⟨w.heap.size, 3, none⟩ = some (.int .i64 ph) /\ w.heap.size < W.heap.size) /\ (W.cell? ⟨w.heap.size + 1, 0, none⟩ = some (.int .i64 (N : Int)) /\ W.cell? ⟨w.heap.size + 1, 1, none⟩ = some (.int .u64 (x' : Int)) /\ W.cell? ⟨w.heap.size + 1, 2, none⟩ = some (.int .u64 (z' : Int)) /\ W.cell? ⟨w.heap.size + 1, 3, none⟩ = some (.int .i64 ph') /\ w.heap.size + 1 < W.heap.size) /\ (W.cell? ⟨g, 0, none⟩ = some (.int .i64 (N : Int)) /\ W.cell? ⟨g, 1, none⟩ = some (.int .u64 (X : Int)) /\ W.cell? ⟨g, 2, none⟩ = some (.int .u64 (Z : Int)) /\ W.cell? ⟨g, 3, none⟩ = some (.int .i64 (S + (sm k f : Int))) /\ g < W.heap.size) /\ W.frozen? ⟨g, 3, none⟩ = false) := hide (fun W hW => ⟨(HI.out.2.1.below hW).cells, (HI.out.2.2.1.below hW).cells, (HI.out.2.2.2.2.below hW).cells, (HI.out.2.2.2.2.below hW).fz 3⟩)
      have HT : Hid (∀ W, Below wr.heap.size wr W -> Below w.heap.size w (W.setCell ⟨g, 3, none⟩ (.int .i64 (S + (sm k f : Int) + (f k : Int)))) /\ At4 (W.setCell ⟨g, 3, none⟩ (.int .i64 (S + (sm k f : Int) + (f k : Int)))) w.heap.size (.int .i64 (N : Int)) (.int .u64 (x : Int)) (.int .u64 (z : Int)) (.int .i64 ph) /\ At4 (W.setCell ⟨g, 3, none⟩ (.int .i64 (S + (sm k f : Int) + (f k : Int)))) (w.heap.size + 1) (.int .i64 (N : Int)) (.int .u64 (x' : Int)) (.int .u64 (z' : Int)) (.int .i64 ph') /\ At4 (W.setCell ⟨g, 3, none⟩ (.int .i64 (S + (sm k f : Int) + (f k : Int)))) (w.heap.size + 1 + 1) (.int .i64 0) (.int .u64 0) (.int .u64 0) (.int .i64 0) /\ At4 (W.setCell ⟨g, 3, none⟩ (.int .i64 (S + (sm k f : Int) + (f k : Int)))) g (.int .i64 (N : Int)) (.int .u64 (X : Int)) (.int .u64 (Z : Int)) (.int .i64 (S + (sm k f : Int) + (f k : Int)))) := hide (fun W hW => ⟨(bkp HI.out.1 hW).setCell (p := ⟨g, 3, none⟩) (show w.heap.size <= g by omega) _, (HI.out.2.1.below hW).off (by omega), (HI.out.2.2.1.below hW).off (by omega), (HI.out.2.2.2.1.below hW).off (by omega), (HI.out.2.2.2.2.below hW).set3 _⟩)
      clear HI HLE HON
      rw [hS2] at HT HS
      generalize hfk : (f k : Int) = fk at *
      generalize hS1 : (S + (sm k f : Int)) = S1 at *
      clear hS2 hS1 hfk
      generalize lA k = la at *
      generalize lB k = lb at *
      go_wp2_with fail
      refine wp_region_quiet_last (C := fun W => Below wr.heap.size wr W) (by kernel_rfl) 11 rfl (by kernel_rfl) (by kernel_rfl) (bdrew (Below.refl _ _) 1) ?_
      simp only [List.take_succ_cons, List.take_zero]
      repeat
        refine wpQuiet_step (fun K hK => ?_)
        go_simp
        first
          | (refine hK _ ?_; clear hK K)
          | (apply Exists.intro
             refine ⟨fun W hW => ?_, hK _ ?_⟩
             first
               | ((with_reducible refine Calls.mono (cA _) ?_); rintro e x ⟨rfl, hb⟩; exact ⟨rfl, bkp hW hb⟩)
               | ((with_reducible refine Calls.mono (cB _) ?_); rintro e x ⟨rfl, hb⟩; exact ⟨rfl, bkp hW hb⟩)
               | ((with_reducible refine Calls.mono (cO _) ?_); rintro e x ⟨rfl, rfl⟩; exact ⟨rfl, hW⟩)
               | (obtain ⟨⟨a0, a1, a2, a3, a4⟩, ⟨b0, b1, b2, b3, b4⟩, ⟨d0, d1, d2, d3, d4⟩, d5⟩ := HC.out W hW; go_simp; rfl)
             clear hK K)
      refine wpQuiet_nil ?_
      intro W hW
      obtain ⟨-, -, ⟨d0, d1, d2, d3, d4⟩, d5⟩ := HC.out W hW
      have HT' := hide (HT.out W hW)
      have hst := store_i
      clear hW HC HT x0 x1 x2 x3 x4 y0 y1 y2 y3 y4
      go_wp2_with fail
      go_roundw
      case rel => exact ⟨k + 1, by go_num, by omega, hide (by rw [HS.out]; exact HT'.out)⟩
      case measure => simp [Go.RowKit.intOf]; omega
    . obtain rfl : k = N := by omega
      have hd : decide ((k : Int) < (k : Int)) = false := decide_eq_false (by omega)
      have hle := HLE.out k
      have hmod : Int.tmod (S + (sm k f : Int)) 4 = (S + (sm k f : Int)) % 4 := Int.tmod_eq_emod_of_nonneg (by omega)
      obtain ⟨d0, d1, d2, d3, d4⟩ := HI.out.2.2.2.2.cells
      have d5 := HI.out.2.2.2.2.fz 3
      have HP := hide (HI.out.2.2.2.2.set3 (.int .i64 ((S + (sm k f : Int)) % 4)))
      have HR := hide (HI.out.2.2.2.1.off (k := g) (j := 3) (v := .int .i64 ((S + (sm k f : Int)) % 4)) (by omega))
      have HBs := hide (HI.out.1.setCell (p := ⟨g, 3, none⟩) (show w.heap.size <= g by omega) (.int .i64 ((S + (sm k f : Int)) % 4)))
      have hR := HR.out
      unfold At4 at hR
      obtain ⟨q, hq⟩ : ∃ q, (S + (sm k f : Int)) % 4 = q := ⟨_, rfl⟩
      rw [hq] at hR hmod HP HR HBs
      have Hq := hide hq
      clear hq
      have hst := store_i
      clear HI
      go_wp2_with (first
        | (refine wpList_store_row rfl _ _ _ rfl (w.heap.size + 1 + 1) _ rfl rfl _ _ hR (by exact infoP) (by rfl) (allP _ _ _ _) ?_))
      refine bodyPost_ret (results_ct rfl _ _ (w.heap.size + 1 + 1) _ _ _ _ rfl (setRow_heap _ _ _ _ _ _ hR) Tryz.underlying27 rfl (by exact infoP)) rfl ?_
      exact ⟨by rw [Hq.out]; rfl, below_setRow HBs.out (by omega) _⟩
theorem dMul (a b : P) (ha : Wd a) (hb : Wd b) (w : World) : Calls Tryz.prog 46 #[pV a, pV b] w fun e w' => e = .returned (.tuple #[pV (mulR a b).1, .int .i64 (mulR a b).2]) /\ Below w.heap.size w w' := by
  unfold mulR
  cases hf : fitP a b with
  | true => rw [if_pos rfl]; exact dMul_ok a b ha hb hf w
  | false => rw [if_neg (by decide)]; exact dMul_no a b ha hb hf w
end Go.Proofs.YtoickolhekhgmaaGreatDoor.Pau
