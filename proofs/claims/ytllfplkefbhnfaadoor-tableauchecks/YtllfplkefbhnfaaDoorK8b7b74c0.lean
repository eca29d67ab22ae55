import Derived.Test.YtllfplkefbhnfaaDoorK2c3ee96e
set_option maxRecDepth 100000
set_option maxHeartbeats 2000000
namespace Go.Proofs.YtllfplkefbhnfaaDoor.Pau
open Go.RowKit
theorem dBit (x k : Nat) (hx : x < 18446744073709551616) (hk : k <= 64) (w : World) : Calls Tryd.prog 42 #[.int .u64 (x : Int), .int .i64 (k : Int)] w fun e w' => e = .returned (.int .i64 (bt x k : Int)) /\ w' = w := by
  have b1 := bit_run x k hx
  have l1 := bt_lt x k
  have hw : IntKind.u64.wrap (k : Int) = (k : Int) := by rw [wrapU]; omega
  have hw2 : wrap64 ((bt x k : Nat) : Int) = ((bt x k : Nat) : Int) := by unfold wrap64; omega
  have hw3 : IntKind.i64.wrap ((bt x k : Nat) : Int) = ((bt x k : Nat) : Int) := by rw [wrapI]; omega
  generalize bt x k = u at *
  clear hx l1
  go_enter Tryd.func42, Tryd.ntmps42
  go_wp2_with fail
  go_ret
  exact ⟨rfl, rfl⟩
theorem dRight (p : P) (hp : Wd p) (w : World) : Calls Tryd.prog 19 #[pV p] w fun e w' => e = .returned (.bool (rt p)) /\ Below w.heap.size w w' := by
  have c1 := fun (k : Nat) (hk : k <= 64) W => dBit p.x k hp.1 hk W
  have c2 := fun (k : Nat) (hk : k <= 64) W => dBit p.z k hp.2 hk W
  have sx := small_iff (n := p.n.toNat) hp.1
  have sz := small_iff (n := p.n.toNat) hp.2
  unfold rt
  obtain ⟨n, x, z, ph⟩ := p
  simp only at *
  have HB := hide (bnew w (.cells #[.int .i64 n, .int .u64 (x : Int), .int .u64 (z : Int), .int .i64 ph] 39))
  have HA := hide (At4.new w (.int .i64 n) (.int .u64 (x : Int)) (.int .u64 (z : Int)) (.int .i64 ph))
  unfold pV
  simp only
  by_cases h0 : n < 0
  . rw [decide_eq_false (by omega)]
    have d0 : decide (n < 0) = true := decide_eq_true h0
    clear hp c1 c2 sx sz
    go_enter Tryd.func19, Tryd.ntmps19
    go_wp2_with fail
    go_ret
    exact ⟨rfl, HB.out⟩
  . have d0 : decide (n < 0) = false := decide_eq_false h0
    by_cases h1 : 64 < n
    . rw [decide_eq_false (by omega)]
      have d1 : decide (64 < n) = true := decide_eq_true h1
      clear hp c1 c2 sx sz
      go_enter Tryd.func19, Tryd.ntmps19
      go_wp2_with fail
      go_ret
      exact ⟨rfl, HB.out⟩
    . have d1 : decide (64 < n) = false := decide_eq_false h1
      by_cases h2 : ph < 0
      . rw [decide_eq_false (by omega)]
        have d2 : decide (ph < 0) = true := decide_eq_true h2
        clear hp c1 c2 sx sz
        go_enter Tryd.func19, Tryd.ntmps19
        go_wp2_with fail
        go_ret
        exact ⟨rfl, HB.out⟩
      . have d2 : decide (ph < 0) = false := decide_eq_false h2
        by_cases h3 : 3 < ph
        . rw [decide_eq_false (by omega)]
          have d3 : decide (3 < ph) = true := decide_eq_true h3
          clear hp c1 c2 sx sz
          go_enter Tryd.func19, Tryd.ntmps19
          go_wp2_with fail
          go_ret
          exact ⟨rfl, HB.out⟩
        . have d3 : decide (3 < ph) = false := decide_eq_false h3
          obtain ⟨m, rfl⟩ : ∃ m : Nat, n = (m : Int) := ⟨n.toNat, by omega⟩
          rw [Int.toNat_natCast] at *
          have HX := hide sx
          have HZ := hide sz
          have hm : m <= 64 := by omega
          obtain ⟨R, hR⟩ : ∃ R, decide (0 <= (m : Int) /\ (m : Int) <= 64 /\ x < 2 ^ m /\ z < 2 ^ m /\ 0 <= ph /\ ph <= 3) = R := ⟨_, rfl⟩
          rw [hR]
          have HR := hide hR
          clear hp sx sz hR
          go_enter Tryd.func19, Tryd.ntmps19
          go_wp2_with fail
          go_loopw [3] (fun vi wr => ∃ k : Nat, vi = .int .i64 (k : Int) /\ m <= k /\ k <= 64 /\ wr = w.alloc (.cells #[.int .i64 (m : Int), .int .u64 (x : Int), .int .u64 (z : Int), .int .i64 ph] 39) /\ Hid (∀ j, m <= j -> j < k -> bt x j = 0 /\ bt z j = 0)) (fun vi _ => 64 - (Go.RowKit.intOf vi).toNat)
          case atStart => exact ⟨m, rfl, Nat.le_refl _, hm, rfl, hide (fun j h1 h2 => absurd h2 (by omega))⟩
          case round =>
            obtain ⟨k, rfl, hmk, hk, rfl, HI⟩ := hrel
            by_cases h : k < 64
            . have hd : decide ((k : Int) < 64) = true := decide_eq_true (by omega)
              have c1' := fun W => c1 k hk W
              have c2' := fun W => c2 k hk W
              have l1 := bt_lt x k
              have l2 := bt_lt z k
              have HN : Hid (bt x k = 0 -> bt z k = 0 -> ∀ j, m <= j -> j < k + 1 -> bt x j = 0 /\ bt z j = 0) := hide (fun e1 e2 j g1 g2 => by
                by_cases e : j = k
                . subst e; exact ⟨e1, e2⟩
                . exact HI.out j g1 (by omega))
              have HF : Hid (bt x k = 1 ∨ bt z k = 1 -> R = false) := hide (fun hh => by
                rw [← HR.out]
                refine decide_eq_false (fun g => ?_)
                rcases hh with hh | hh
                . have := HX.out.1 g.2.2.1 k hmk h; omega
                . have := HZ.out.1 g.2.2.2.1 k hmk h; omega)
              clear c1 c2
              generalize bt x k = u at *
              generalize bt z k = v at *
              have hu : u = 0 ∨ u = 1 := by omega
              have hv : v = 0 ∨ v = 1 := by omega
              rcases hu with rfl | rfl
              . rcases hv with rfl | rfl
                . simp only [Int.natCast_zero] at c1' c2'
                  have HN' := hide (HN.out rfl rfl)
                  clear HN HF
                  go_wp2_with (go_at_call 42; first | ((with_reducible refine Calls.mono (c1' _) ?_); rintro e w1 ⟨rfl, hw⟩; obtain rfl := hw.symm) | ((with_reducible refine Calls.mono (c2' _) ?_); rintro e w1 ⟨rfl, hw⟩; obtain rfl := hw.symm))
                  go_roundw
                  case rel => exact ⟨k + 1, by go_num, by omega, by omega, (by trivial), HN'⟩
                  case measure => simp [Go.RowKit.intOf]; omega
                . simp only [Int.natCast_zero, Int.natCast_one] at c1' c2'
                  obtain rfl := HF.out (.inr rfl)
                  clear HN HF
                  go_wp2_with (go_at_call 42; first | ((with_reducible refine Calls.mono (c1' _) ?_); rintro e w1 ⟨rfl, hw⟩; obtain rfl := hw.symm) | ((with_reducible refine Calls.mono (c2' _) ?_); rintro e w1 ⟨rfl, hw⟩; obtain rfl := hw.symm))
                  go_ret
                  exact ⟨rfl, HB.out⟩
              . simp only [Int.natCast_one] at c1'
                obtain rfl := HF.out (.inl rfl)
                clear HN HF
                go_wp2_with (go_at_call 42; first | ((with_reducible refine Calls.mono (c1' _) ?_); rintro e w1 ⟨rfl, hw⟩; obtain rfl := hw.symm) | ((with_reducible refine Calls.mono (c2' _) ?_); rintro e w1 ⟨rfl, hw⟩; obtain rfl := hw.symm))
                go_ret
                exact ⟨rfl, HB.out⟩
            . obtain rfl : k = 64 := by omega
              have hT : R = true := by
                rw [← HR.out]
                exact decide_eq_true ⟨by omega, by omega, HX.out.2 (fun j g1 g2 => (HI.out j g1 g2).1), HZ.out.2 (fun j g1 g2 => (HI.out j g1 g2).2), by omega, by omega⟩
              subst hT
              go_wp2_with fail
              go_ret
              exact ⟨rfl, HB.out⟩
end Go.Proofs.YtllfplkefbhnfaaDoor.Pau
