/- The document's exact sum: its leading bits, rounded. -/
import Derived.Test.YtnpdfkcjjedamaaGreatDoorZd
namespace Go.Proofs.YtnpdfkcjjedamaaGreatDoor.Sca
open Go.RowKit Go.Lib Go.Shelf

theorem pvn_drop : ∀ (l : List Nat) (j : Nat), (∀ x ∈ l, x < 4294967296) → pvn l / 2 ^ (32 * j) = pvn (l.drop j)
  | l, 0, _ => by simp
  | [], j + 1, _ => by simp [pvn]
  | x :: r, j + 1, h => by
    have hx := h x (by simp)
    have ih := pvn_drop r j (fun y hy => h y (by simp [hy]))
    rw [List.drop_succ_cons, ← ih, show 32 * (j + 1) = 32 + 32 * j from by omega, Nat.pow_add, ← Nat.div_div_eq_div_mul]
    congr 1
    show (x + 4294967296 * pvn r) / 2 ^ 32 = pvn r
    omega
theorem bit_at (l : List Nat) (h : ∀ x ∈ l, x < 4294967296) (t x : Nat) (hx : l[t / 32]? = some x) : x / 2 ^ (t % 32) % 2 = pvn l / 2 ^ t % 2 := by
  have hl := (List.getElem?_eq_some_iff.1 hx).1
  have e1 : l.drop (t / 32) = x :: l.drop (t / 32 + 1) := by
    rw [List.drop_eq_getElem_cons hl]
    congr 1
    exact (List.getElem?_eq_some_iff.1 hx).2
  have e2 : pvn l / 2 ^ t = (x + 4294967296 * pvn (l.drop (t / 32 + 1))) / 2 ^ (t % 32) := by
    have e3 : 2 ^ t = 2 ^ (32 * (t / 32)) * 2 ^ (t % 32) := by rw [← Nat.pow_add]; congr 1; omega
    rw [e3, ← Nat.div_div_eq_div_mul, pvn_drop l (t / 32) h, e1]
    rfl
  rw [e2]
  generalize pvn (l.drop (t / 32 + 1)) = R
  have hs : t % 32 < 32 := Nat.mod_lt _ (by decide)
  generalize t % 32 = s at *
  obtain ⟨u, hu⟩ : ∃ u, 4294967296 = 2 ^ s * (2 * u) := ⟨2 ^ (31 - s), by
    rw [← Nat.pow_succ', ← Nat.pow_add, show s + (31 - s + 1) = 32 from by omega]⟩
  rw [hu, Nat.mul_assoc, Nat.add_mul_div_left _ _ (Nat.two_pow_pos s), Nat.mul_assoc]
  omega
theorem top_step (N t : Nat) (h : N < 2 ^ (t + 1)) (hb : N / 2 ^ t % 2 = 0) : N < 2 ^ t := by
  have h1 : N / 2 ^ t < 2 := by
    rw [Nat.div_lt_iff_lt_mul (Nat.two_pow_pos _)]
    rw [Nat.pow_succ] at h
    omega
  have h2 : N / 2 ^ t = 0 := by
    generalize N / 2 ^ t = q at *
    omega
  exact (Nat.div_eq_zero_iff_lt (Nat.two_pow_pos _)).1 h2
theorem div_step (N t : Nat) : N / 2 ^ t = 2 * (N / 2 ^ (t + 1)) + N / 2 ^ t % 2 := by
  rw [Nat.pow_succ, ← Nat.div_div_eq_div_mul]
  generalize N / 2 ^ t = q
  omega
theorem mod_step (N t : Nat) : N % 2 ^ (t + 1) = N % 2 ^ t + 2 ^ t * (N / 2 ^ t % 2) := by rw [Nat.pow_succ, Nat.mod_mul]
/-- The words as the row holds them. -/
def zs (l : List Nat) : List Int := l.map (fun x : Nat => (x : Int))
theorem zs_at {l : List Nat} {i x : Nat} (h : l[i]? = some x) : (zs l)[i]? = some (x : Int) := by simp [zs, h]
set_option maxRecDepth 100000 in
set_option maxHeartbeats 1000000 in
theorem qLeading (g c : Nat) (l : List Nat) (w : World) (hl : l.length = 72) (hlt : ∀ x ∈ l, x < 4294967296) (h : Qw w g (zs l)) :
    Calls Tryz.prog 34 #[.slice (some ⟨g, 0, none⟩) 72 c] w fun e w' => e = .returned (.float .f64 (rung (pvn l) (-1074))) ∧ ∃ q, w' = w.drewN q := by
  have HB : Hid (∀ t, t < 2304 → ∃ x xs bt : Nat, w.cell? ⟨g, t / 32, none⟩ = some (.int .i64 (x : Int)) ∧ (x : Int) / 2 ^ (t % 32) = (xs : Int) ∧ bits .and .i64 (xs : Int) 1 = (bt : Int) ∧ bt = pvn l / 2 ^ t % 2 ∧ x < 4294967296) := fun t ht => by
    obtain ⟨x, hx⟩ : ∃ x, l[t / 32]? = some x := ⟨l[t / 32]'(by omega), List.getElem?_eq_getElem _⟩
    refine ⟨x, x / 2 ^ (t % 32), pvn l / 2 ^ t % 2, h.cell _ _ (zs_at hx), by rw [Int.natCast_ediv, Int.natCast_pow]; rfl, ?_, rfl, hlt x (List.mem_of_getElem? hx)⟩
    rw [i64_and_one, ← bit_at l hlt t x hx]
    omega
  obtain ⟨E, hE⟩ : ∃ E, 32 * 72 = E := ⟨_, rfl⟩
  have HN : Hid (pvn l < 2 ^ E) := by
    show _ < _
    have h1 := pvn_drop l 72 hlt
    rw [List.drop_eq_nil_of_le (by omega), hE] at h1
    exact (Nat.div_eq_zero_iff_lt (Nat.two_pow_pos _)).1 h1
  clear h hlt hl
  generalize pvn l = N at *
  go_enter Tryz.func34, Tryz.ntmps34
  go_wp2
  go_loop [3] (fun vt => ∃ u : Nat, vt = .int .i64 ((u : Int) - 1) ∧ u ≤ 2304 ∧ Hid (N < 2 ^ u)) (fun vt => (Go.RowKit.intOf vt + 1).toNat)
  case atStart => exact ⟨E, by rw [← hE]; rfl, by omega, HN⟩
  case round =>
    obtain ⟨u, rfl, hu, HU⟩ := hrel
    clear HN
    by_cases hu0 : u = 0
    · subst hu0
      have HZ : Hid (N = 0) := by
        show _ = _
        have := HU.out
        omega
      go_wp2
      go_ret
      exact ⟨by rw [HZ.out]; rfl, 0, rfl⟩
    · obtain ⟨t, rfl⟩ : ∃ t, u = t + 1 := ⟨u - 1, by omega⟩
      rw [show (((t + 1 : Nat) : Int) - 1) = (t : Int) from by omega]
      have htz : decide ((0 : Int) ≤ (t : Int)) = true := decide_eq_true (by omega)
      obtain ⟨x, xs, bt, hxc, hxs, hbt, hbe0, hxl⟩ := HB.out t (by omega)
      have hbe : Hid (bt = N / 2 ^ t % 2) := hbe0
      obtain ⟨j, hj⟩ : ∃ j, t / 32 = j := ⟨_, rfl⟩
      obtain ⟨s, hs⟩ : ∃ s, t % 32 = s := ⟨_, rfl⟩
      rw [hj] at hxc
      rw [hs] at hxs
      have hjz : (t : Int) / 32 = (j : Int) := by omega
      have hsz : (t : Int) % 32 = (s : Int) := by omega
      have hj0 : (0 : Int) ≤ (j : Int) := by omega
      have hj1 : (j : Int) < 72 := by omega
      have hs0 : (0 : Int) ≤ (s : Int) := by omega
      have hbt2 : bt = 0 ∨ bt = 1 := by rw [hbe0]; omega
      clear hbe0
      rcases hbt2 with hb0 | hb0
      · subst hb0
        have HU2 : Hid (N < 2 ^ t) := top_step N t HU.out hbe.out.symm
        clear hbe HU hj hs
        go_wp2
        exact ⟨⟨t, rfl, by omega, HU2⟩, by simp [Go.RowKit.intOf]⟩
      · subst hb0
        obtain ⟨low, hlow⟩ : ∃ low : Nat, max ((t : Int) - 63) 0 = (low : Int) := ⟨(max ((t : Int) - 63) 0).toNat, by omega⟩
        have hll : low ≤ t := by omega
        have HL : Hid (N / 2 ^ low < 18446744073709551616) := by
          show _ < _
          rw [Nat.div_lt_iff_lt_mul (Nat.two_pow_pos _), show (18446744073709551616 : Nat) = 2 ^ 64 from rfl, ← Nat.pow_add]
          exact Nat.lt_of_lt_of_le HU.out (Nat.pow_le_pow_right (by decide) (by omega))
        have HM0 : Hid (N / 2 ^ (t + 1) = 0) := (Nat.div_eq_zero_iff_lt (Nat.two_pow_pos _)).2 HU.out
        clear hj hs
        go_wp2
        go_loop [4, 6] (fun vm vi => ∃ u : Nat, vi = .int .i64 ((u : Int) - 1) ∧ low ≤ u ∧ u ≤ t + 1 ∧ ∃ m : Nat, vm = .int .u64 (m : Int) ∧ Hid (N / 2 ^ u = m)) (fun _ vi => (Go.RowKit.intOf vi + 1).toNat)
        case atStart => exact ⟨t + 1, by congr 1; omega, by omega, by omega, 0, rfl, HM0⟩
        case round =>
          obtain ⟨v, rfl, hv1, hv2, m, rfl, HM⟩ := hrel
          clear HM0 hxc hxs hbt hjz hsz hj0 hj1 hs0 htz hxl
          by_cases hvl : v = low
          · obtain rfl : low = v := hvl.symm
            have hm : m < 18446744073709551616 := by rw [← HM.out]; exact HL.out
            have HR0 : Hid (N % 2 ^ low = 0 → rung m ((low : Int) - 1074) = rung N (-1074)) := fun h => by
              have e : N = m * 2 ^ low := by
                have := Nat.div_add_mod N (2 ^ low)
                rw [h, HM.out, Nat.add_zero, Nat.mul_comm] at this
                exact this.symm
              rw [e, ← rung_scale m low ((low : Int) - 1074)]
              congr 1
              omega
            have HR1 : Hid (N % 2 ^ low ≠ 0 → 9223372036854775808 ≤ m ∧ -1073 ≤ (low : Int) - 1074 ∧ rung (m ||| 1) ((low : Int) - 1074) = rung N (-1074)) := fun h => by
              have h0 : low ≠ 0 := fun e => h (by rw [e, Nat.pow_zero, Nat.mod_one])
              have hNt : 2 ^ t ≤ N := by
                rcases Nat.lt_or_ge N (2 ^ t) with h1 | h1
                · have := hbe.out
                  rw [Nat.div_eq_of_lt h1] at this
                  omega
                · exact h1
              have h63 : 9223372036854775808 ≤ N / 2 ^ low := by
                rw [Nat.le_div_iff_mul_le (Nat.two_pow_pos _), show (9223372036854775808 : Nat) = 2 ^ 63 from rfl, ← Nat.pow_add]
                exact Nat.le_trans (Nat.pow_le_pow_right (by decide) (by omega)) hNt
              have hr := rung_sticky N low (-1074) h63
              unfold stk at hr
              rw [if_neg h, HM.out] at hr
              rw [HM.out] at h63
              exact ⟨h63, by omega, by rw [hr, show (-1074 : Int) + (low : Int) = (low : Int) - 1074 from by omega]⟩
            clear HM HL HU hbe hlow
            go_wp2
            go_loop [7, 8] (fun vs vi => ∃ k : Nat, vi = .int .i64 (k : Int) ∧ k ≤ low ∧ ∃ st : Bool, vs = .bool st ∧ Hid (st = decide (N % 2 ^ k ≠ 0))) (fun _ vi => low - (Go.RowKit.intOf vi).toNat)
            case atStart => exact ⟨0, rfl, by omega, false, rfl, by show _ = _; rw [Nat.pow_zero, Nat.mod_one]; rfl⟩
            case round =>
              obtain ⟨k, rfl, hk, st, rfl, HS⟩ := hrel
              by_cases hkl : k < low
              · have hkz : decide ((k : Int) < (low : Int)) = true := decide_eq_true (by omega)
                obtain ⟨x, xs, bt, hxc, hxs, hbt, hbe0, hxl⟩ := HB.out k (by omega)
                have hbl : bt = 0 ∨ bt = 1 := by rw [hbe0]; omega
                have HM : Hid (N % 2 ^ (k + 1) = N % 2 ^ k + 2 ^ k * bt) := by show _ = _; rw [mod_step, ← hbe0]
                obtain ⟨j, hj⟩ : ∃ j, k / 32 = j := ⟨_, rfl⟩
                obtain ⟨s, hs⟩ : ∃ s, k % 32 = s := ⟨_, rfl⟩
                rw [hj] at hxc
                rw [hs] at hxs
                have hjz : (k : Int) / 32 = (j : Int) := by omega
                have hsz : (k : Int) % 32 = (s : Int) := by omega
                have hj0 : (0 : Int) ≤ (j : Int) := by omega
                have hj1 : (j : Int) < 72 := by omega
                have hs0 : (0 : Int) ≤ (s : Int) := by omega
                have HP : Hid (0 < 2 ^ k) := Nat.two_pow_pos k
                clear hbe0 hj hs
                cases st
                · have HZ : Hid (N % 2 ^ k = 0) := by
                    show N % 2 ^ k = 0
                    have := HS.out
                    exact Decidable.byContradiction (fun hc => by rw [decide_eq_true hc] at this; cases this)
                  rcases hbl with rfl | rfl
                  · have HS2 : Hid (false = decide (N % 2 ^ (k + 1) ≠ 0)) := by
                      show _ = _
                      rw [HM.out, HZ.out, Nat.mul_zero]
                      rfl
                    clear HM HZ HS
                    go_wp2
                    exact ⟨⟨k + 1, by go_num, by omega, false, rfl, HS2⟩, by simp [Go.RowKit.intOf]; omega⟩
                  · have HS2 : Hid (true = decide (N % 2 ^ (k + 1) ≠ 0)) := by
                      show _ = _
                      rw [HM.out, HZ.out, Nat.mul_one, Nat.zero_add, decide_eq_true (Nat.ne_of_gt HP.out)]
                    clear HM HZ HS
                    go_wp2
                    exact ⟨⟨k + 1, by go_num, by omega, true, rfl, HS2⟩, by simp [Go.RowKit.intOf]; omega⟩
                · have HS2 : Hid (true = decide (N % 2 ^ (k + 1) ≠ 0)) := by
                    show _ = _
                    have h1 := of_decide_eq_true HS.out.symm
                    rw [HM.out]
                    exact (decide_eq_true (by omega)).symm
                  clear HM HS
                  go_wp2
                  exact ⟨⟨k + 1, by go_num, by omega, true, rfl, HS2⟩, by simp [Go.RowKit.intOf]; omega⟩
              · obtain rfl : k = low := by omega
                cases st
                · have HZ : Hid (rung m ((k : Int) - 1074) = rung N (-1074)) := HR0.out (by
                    have := HS.out
                    exact Decidable.byContradiction (fun hc => by rw [decide_eq_true hc] at this; cases this))
                  have cR := fun w => qRounded m ((k : Int) - 1074) hm (by omega) (by omega) w
                  rw [HZ.out] at cR
                  clear HR0 HR1 HS HZ
                  go_wp2_with fail
                  refine (cR _).mono ?_
                  rintro e w1 ⟨rfl, q, rfl⟩
                  go_wp2
                  go_ret
                  exact ⟨rfl, q, rfl⟩
                · obtain ⟨hz1, hz2, hz3⟩ := HR1.out (of_decide_eq_true HS.out.symm)
                  have cR := fun w => qRoundedS m ((k : Int) - 1074) hz1 hm hz2 (by omega) w
                  rw [hz3] at cR
                  clear HR0 HR1 HS hz3
                  go_wp2_with fail
                  refine (cR _).mono ?_
                  rintro e w1 ⟨rfl, q, rfl⟩
                  go_wp2
                  go_ret
                  exact ⟨rfl, q, rfl⟩
          · obtain ⟨i, rfl⟩ : ∃ i, v = i + 1 := ⟨v - 1, by omega⟩
            rw [show (((i + 1 : Nat) : Int) - 1) = (i : Int) from by omega]
            have hiz : decide ((low : Int) ≤ (i : Int)) = true := decide_eq_true (by omega)
            obtain ⟨x, xs, bt, hxc, hxs, hbt, hbe0, hxl⟩ := HB.out i (by omega)
            have hbl : bt < 2 := by rw [hbe0]; omega
            have hbe : Hid (bt = N / 2 ^ i % 2) := hbe0
            obtain ⟨j, hj⟩ : ∃ j, i / 32 = j := ⟨_, rfl⟩
            obtain ⟨s, hs⟩ : ∃ s, i % 32 = s := ⟨_, rfl⟩
            rw [hj] at hxc
            rw [hs] at hxs
            have hjz : (i : Int) / 32 = (j : Int) := by omega
            have hsz : (i : Int) % 32 = (s : Int) := by omega
            have hj0 : (0 : Int) ≤ (j : Int) := by omega
            have hj1 : (j : Int) < 72 := by omega
            have hs0 : (0 : Int) ≤ (s : Int) := by omega
            obtain ⟨m', hm'⟩ : ∃ m', 2 * m + bt = m' := ⟨_, rfl⟩
            have HM2 : Hid (N / 2 ^ i = m') := by show _ = _; rw [div_step N i, HM.out, ← hbe.out, hm']
            have hm'l : m' < 18446744073709551616 := by
              rw [← HM2.out]
              refine Nat.lt_of_le_of_lt (Nat.div_le_div_left (Nat.pow_le_pow_right (by decide) (by omega)) (Nat.two_pow_pos _)) HL.out
            have hml : m < 9223372036854775808 := by omega
            have hshl : IntKind.u64.wrap ((m : Int) * 2) = ((2 * m : Nat) : Int) := by rw [wrapU]; omega
            have hor : bits .or .u64 ((2 * m : Nat) : Int) (bt : Int) = (m' : Int) := by
              rw [u64_or_nat (2 * m) bt (by omega) (by omega), ← hm']
              congr 1
              have := or_disj m bt 1 (by simpa using hbl)
              rw [Nat.pow_one, Nat.mul_comm m 2] at this
              exact this
            clear hbe0 hbe hj hs hm' HM
            generalize 2 * m = mm at *
            go_wp2
            exact ⟨⟨i, rfl, by omega, by omega, m', rfl, HM2⟩, by simp [Go.RowKit.intOf]⟩
end Go.Proofs.YtnpdfkcjjedamaaGreatDoor.Sca
