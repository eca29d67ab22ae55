/- The exact sum, rounded. -/
import Derived.Test.YtnpdfkcjjedamaaGreatDoorWb2
namespace Go.Proofs.YtnpdfkcjjedamaaGreatDoor.Sca
open Go.RowKit Go.Lib Go.Shelf

/-- The word at a place. -/
def wd (a : List Nat) (i : Nat) : Nat := a.getD i 0
theorem wd_at {a : List Nat} {i x : Nat} (h : a[i]? = some x) : wd a i = x := by unfold wd; simp [List.getD, h]
theorem zero_any (b n : Nat) (c : Nat) (a : List Nat) (w : World) (hn : n ≤ a.length) (hl : n ≤ 34) (h : ∀ (i : Nat) x, a[i]? = some x → w.cell? ⟨b, i, none⟩ = some (.int .u64 (x : Int))) :
    Calls Tryz.prog 52 #[.slice (some ⟨b, 0, none⟩) n c] w fun e w' => e = .returned (.bool (decide (∀ i, i < n → wd a i = 0))) ∧ w' = w := by
  go_enter Tryz.func52, Tryz.ntmps52
  go_wp2
  go_loop [7] (fun vi => ∃ k : Nat, k ≤ n ∧ vi = .int .i64 (k : Int) ∧ Hid (∀ i, i < k → wd a i = 0)) (fun vi => n - (Go.RowKit.intOf vi).toNat)
  case atStart => exact ⟨0, Nat.zero_le _, rfl, fun i hi => absurd hi (Nat.not_lt_zero _)⟩
  case round =>
    obtain ⟨k, hk, rfl, hz⟩ := hrel
    by_cases hkn : k < n
    · have hkz : decide ((k : Int) < (n : Int)) = true := decide_eq_true (by omega)
      obtain ⟨x, hx⟩ : ∃ x, a[k]? = some x := ⟨a[k]'(by omega), List.getElem?_eq_getElem _⟩
      have hc := h k x hx
      have hg : wd a k = x := wd_at hx
      by_cases hx0 : x = 0
      · subst hx0
        have HN : Hid (∀ i, i < k + 1 → wd a i = 0) := fun i hi => by
          rcases Nat.lt_or_ge i k with h1 | h1
          · exact hz.out i h1
          · rw [show i = k from by omega]; exact hg
        clear hz hg hx
        go_wp2
        exact ⟨⟨k + 1, by omega, by go_num, HN⟩, by simp [Go.RowKit.intOf]; omega⟩
      · have hxz : ((x : Int) != 0) = true := by rw [bne_iff_ne]; omega
        have HD : Hid (decide (∀ i, i < n → wd a i = 0) = false) := decide_eq_false (fun h => hx0 (hg ▸ h k hkn))
        clear hz hg hx hx0
        go_wp2
        go_ret
        exact ⟨by rw [HD.out]; rfl, rfl⟩
    · obtain rfl : k = n := by omega
      have HD : Hid (decide (∀ i, i < k → wd a i = 0) = true) := decide_eq_true hz.out
      clear hz
      go_wp2
      go_ret
      exact ⟨by rw [HD.out]; rfl, rfl⟩
theorem below_drewN {B : Nat} {w w' : World} (h : Below B w w') (q : Nat) : Below B w (w'.drewN q) := ⟨h.os, h.tape, h.output, h.size, h.block⟩
theorem lead64 (x : Nat) (hx : x < 18446744073709551616) (w : World) :
    Calls Tryz.prog 51 #[.int .u64 (x : Int)] w fun e w' => e = .returned (.int .i64 (64 - (bl x : Int))) ∧ w' = w := by
  have h := Any.bits_LeadingZeros64 Tryz.laysLead (x : Int) w (by omega) (by omega)
  rw [Int.toNat_natCast, bitLen_eq x hx] at h
  exact h
/-- The highest word that is not 0. -/
structure Top (a : List Nat) (k : Nat) : Prop where
  lt : k < 34
  up : ∀ j, k < j → j < 34 → wd a j = 0
  nz : k = 0 ∨ wd a k ≠ 0
/-- The first 64 bits; whether something lies behind. -/
def emp (a : List Nat) (k : Nat) : Nat := 64 - bl (wd a k)
def m0 (a : List Nat) (k : Nat) : Nat := wd a k * 2 ^ emp a k + wd a (k - 1) / 2 ^ (64 - emp a k)
def sticky (a : List Nat) (k : Nat) : Bool := decide (wd a (k - 1) * 2 ^ emp a k % 18446744073709551616 ≠ 0) || !decide (∀ i, i < k - 1 → wd a i = 0)
def mS (a : List Nat) (k : Nat) : Nat := if sticky a k then m0 a k ||| 1 else m0 a k
def rndP (a : List Nat) (k : Nat) : Nat := if k = 0 then rung (wd a 0) (-1074) else rung (mS a k) (-1074 + 64 * (k : Int) - (emp a k : Int))
theorem or_disj (x y en : Nat) (hy : y < 2 ^ en) : x * 2 ^ en ||| y = x * 2 ^ en + y := by
  have := Nat.two_pow_add_eq_or_of_lt (i := en) (b := y) hy x
  rw [Nat.mul_comm] at this
  exact this.symm
theorem or_one_ne (m : Nat) : m ||| 1 ≠ 0 := by
  intro h
  have := congrArg (fun z => Nat.testBit z 0) h
  simp at this
set_option maxRecDepth 100000 in
set_option maxHeartbeats 1000000 in
theorem tRound_pos (a : List Nat) (ha : a.length = 34) (hlt : ∀ (i : Nat) x, a[i]? = some x → x < 18446744073709551616) (hp : wd a 33 < 9223372036854775808) (w : World) :
    Calls Tryz.prog 26 #[.agg (aw a)] w fun e w' => ∃ k, Top a k ∧ e = .returned (.float .f64 (rndP a k)) ∧ Below w.heap.size w w' := by
  have mixed := mixed_ok
  have hA : ∀ (i : Nat) x, a[i]? = some x → (aw a)[i]? = some (.int .u64 (x : Int)) := fun i x hx => aw_at hx
  generalize aw a = A at *
  obtain ⟨z, hz⟩ : ∃ z, a[33]? = some z := ⟨a[33]'(by omega), List.getElem?_eq_getElem _⟩
  have hA33 := hA 33 z hz
  have hzg : wd a 33 = z := wd_at hz
  rw [hzg] at hp
  have hsg := and_sign z (by omega)
  rw [show sb z = 0 from by unfold sb; omega] at hsg
  have HA : Hid (∀ (i : Nat) x, a[i]? = some x → A[i]? = some (.int .u64 (x : Int))) := hA
  have HL : Hid (∀ (i : Nat) x, a[i]? = some x → x < 18446744073709551616) := hlt
  clear hA hlt hz hzg
  go_enter Tryz.func26, Tryz.ntmps26
  go_wp2
  obtain ⟨W, hWe⟩ : ∃ W, w.alloc (.cells A 44) = W := ⟨_, rfl⟩
  rw [hWe]
  have HW : Hid (∀ (i : Nat) x, a[i]? = some x → W.cell? ⟨w.heap.size, i, none⟩ = some (.int .u64 (x : Int))) := fun i x hx => by
    have := HA.out i x hx
    rw [← hWe]
    simp [this]
  have hbW : Below w.heap.size w W := hWe ▸ (Below.refl _ _).alloc (Nat.le_refl _) _
  clear HA hWe hA33
  go_loop [4] (fun vt => ∃ k : Nat, k < 34 ∧ vt = .int .i64 (k : Int) ∧ Hid (∀ j, k < j → j < 34 → wd a j = 0)) (fun vt => (Go.RowKit.intOf vt).toNat)
  case atStart => exact ⟨33, by omega, rfl, fun j h1 h2 => by omega⟩
  case round =>
    obtain ⟨k, hk, rfl, hup⟩ := hrel
    obtain ⟨x, hx⟩ : ∃ x, a[k]? = some x := ⟨a[k]'(by omega), List.getElem?_eq_getElem _⟩
    have hxc := HW.out k x hx
    have hxg := wd_at hx
    have hxl := HL.out k x hx
    have hk34 : (k : Int) < 34 := by omega
    by_cases hk0 : k = 0
    · subst hk0
      have HTop : Top a 0 := ⟨by omega, hup.out, .inl rfl⟩
      have hr : rndP a 0 = rung x (-1074) := by unfold rndP; rw [if_pos rfl, hxg]
      by_cases hx0 : x = 0
      · subst hx0
        have cP := fun w => sPack_zero 0 (-1074) w
        have HR : Hid (0 = rndP a 0) := by rw [hr]; rfl
        clear hr hx hxg hup HW
        go_wp2_with fail
        refine (cP _).mono ?_
        rintro e w1 ⟨rfl, q, rfl⟩
        go_wp2
        go_ret
        exact ⟨0, HTop, by rw [← HR.out]; rfl, below_drewN hbW q⟩
      · have cP := fun w => sPack 0 x (-1074) (.inl rfl) hxl hx0 w
        rw [Nat.zero_add, ← hr] at cP
        clear hr hx hxg hup HW hx0
        go_wp2_with fail
        refine (cP _).mono ?_
        rintro e w1 ⟨rfl, q, rfl⟩
        go_wp2
        go_ret
        exact ⟨0, HTop, rfl, below_drewN hbW q⟩
    · have hkp : decide ((0 : Int) < (k : Int)) = true := decide_eq_true (by omega)
      have hkp2 : decide (0 < k) = true := decide_eq_true (by omega)
      have hk1 : (0 : Int) ≤ (k : Int) := by omega
      by_cases hx0 : x = 0
      · subst hx0
        have HN : Hid (∀ j, k - 1 < j → j < 34 → wd a j = 0) := fun j h1 h2 => by
          rcases Nat.lt_or_ge k j with h3 | h3
          · exact hup.out j h3 h2
          · rw [show j = k from by omega]; exact hxg
        clear hup hxg hx HW
        go_wp2
        exact ⟨⟨k - 1, by omega, by first | go_num | (congr 1; omega), HN⟩, by simp [Go.RowKit.intOf]; omega⟩
      · have hxz : ((x : Int) == 0) = false := by rw [beq_eq_false_iff_ne]; omega
        have hkz : ((k : Int) == 0) = false := by rw [beq_eq_false_iff_ne]; omega
        have HTop : Top a k := ⟨hk, hup.out, .inr (by rw [hxg]; exact hx0)⟩
        clear hup
        obtain ⟨y, hy⟩ : ∃ y, a[k - 1]? = some y := ⟨a[k - 1]'(by omega), List.getElem?_eq_getElem _⟩
        obtain ⟨j, hj⟩ : ∃ j, k - 1 = j := ⟨_, rfl⟩
        rw [hj] at hy
        have hyc := HW.out j y hy
        have hyg := wd_at hy
        have hyl := HL.out j y hy
        have cL := fun w => lead64 x hxl w
        have cZ := fun (q : Nat) => zero_any w.heap.size j 34 a (W.drewN q) (by omega) (by omega) (fun i x hx => HW.out i x hx)
        have hbl : bl x ≤ 64 := bl_lt hxl
        have hbl1 : 1 ≤ bl x := by rw [bl_pos hx0]; omega
        have hxb : x < 2 ^ bl x := by rw [bl_pos hx0]; exact Nat.lt_log2_self
        have hxb2 : 2 ^ (bl x - 1) ≤ x := by rw [bl_pos hx0]; exact Nat.log2_self_le hx0
        obtain ⟨en, hen⟩ : ∃ en, 64 - bl x = en := ⟨_, rfl⟩
        have he : emp a k = en := by unfold emp; rw [hxg, hen]
        have hez : (64 : Int) - (bl x : Int) = (en : Int) := by omega
        rw [hez] at cL
        have hp1 : 2 ^ bl x * 2 ^ en = 18446744073709551616 := by rw [← Nat.pow_add, show bl x + en = 64 from by omega]
        have hX : x * 2 ^ en < 18446744073709551616 := by rw [← hp1]; exact Nat.mul_lt_mul_of_pos_right hxb (Nat.two_pow_pos _)
        have hXz : IntKind.u64.wrap ((x : Int) * 2 ^ en) = ((x * 2 ^ en : Nat) : Int) := by
          rw [wrapU, show ((x : Int) * 2 ^ en) = ((x * 2 ^ en : Nat) : Int) from by rw [Int.natCast_mul, Int.natCast_pow]; rfl]
          omega
        have hQz : IntKind.u64.wrap ((y : Int) * 2 ^ en) = ((y * 2 ^ en % 18446744073709551616 : Nat) : Int) := by
          rw [wrapU, show ((y : Int) * 2 ^ en) = ((y * 2 ^ en : Nat) : Int) from by rw [Int.natCast_mul, Int.natCast_pow]; rfl]
          omega
        have hYz : (y : Int) / 2 ^ (64 - en) = ((y / 2 ^ (64 - en) : Nat) : Int) := by rw [Int.natCast_ediv, Int.natCast_pow]; rfl
        have hYl : y / 2 ^ (64 - en) < 2 ^ en := by
          rw [Nat.div_lt_iff_lt_mul (Nat.two_pow_pos _), ← Nat.pow_add, show en + (64 - en) = 64 from by omega]
          exact hyl
        have hO := u64_or_nat (x * 2 ^ en) (y / 2 ^ (64 - en)) hX (Nat.lt_of_lt_of_le hYl (Nat.pow_le_pow_right (by decide) (show en ≤ 64 by omega)))
        rw [or_disj x _ en hYl] at hO
        have hM : m0 a k = x * 2 ^ en + y / 2 ^ (64 - en) := by unfold m0; rw [he, hxg, hj, hyg]
        have hMl : x * 2 ^ en + y / 2 ^ (64 - en) < 18446744073709551616 := by
          have h1 : (x + 1) * 2 ^ en ≤ 2 ^ bl x * 2 ^ en := Nat.mul_le_mul_right _ hxb
          rw [Nat.add_mul, hp1] at h1
          omega
        have hM0 : x * 2 ^ en + y / 2 ^ (64 - en) ≠ 0 := Nat.ne_of_gt (Nat.lt_of_lt_of_le (Nat.mul_pos (Nat.pos_of_ne_zero hx0) (Nat.two_pow_pos en)) (Nat.le_add_right _ _))
        have hst : sticky a k = (decide (y * 2 ^ en % 18446744073709551616 ≠ 0) || !decide (∀ i, i < j → wd a i = 0)) := by unfold sticky; rw [he, hj, hyg]
        have hr : rndP a k = rung (mS a k) (-1074 + 64 * (k : Int) - (en : Int)) := by unfold rndP; rw [if_neg hk0, he]
        have hmS : mS a k = if sticky a k then (x * 2 ^ en + y / 2 ^ (64 - en)) ||| 1 else x * 2 ^ en + y / 2 ^ (64 - en) := by unfold mS; rw [hM]
        generalize y * 2 ^ en % 18446744073709551616 = Q at *
        generalize y / 2 ^ (64 - en) = Y at *
        generalize x * 2 ^ en = X at *
        generalize X + Y = M at *
        have hO1 : bits .or .u64 (M : Int) 1 = ((M ||| 1 : Nat) : Int) := u64_or_nat M 1 hMl (by decide)
        have hM1l : M ||| 1 < 18446744073709551616 := Nat.or_lt_two_pow (n := 64) hMl (by decide)
        have hkk : (k : Int) - 1 = (j : Int) := by omega
        have hj0 : (0 : Int) ≤ (j : Int) := by omega
        have hj34 : (j : Int) < 34 := by omega
        have hj35 : (j : Int) ≤ 34 := by omega
        have hen0 : (0 : Int) ≤ (en : Int) := by omega
        have hen1 : (0 : Int) ≤ 64 - (en : Int) := by omega
        have hen2 : en ≤ 64 := by omega
        generalize hZ : decide (∀ i, i < j → wd a i = 0) = Z at *
        have HR : Hid (rndP a k = rung (if (decide (Q ≠ 0) || !Z) then M ||| 1 else M) (-1074 + 64 * (k : Int) - (en : Int))) := by show _ = _; rw [hr, hmS, hst]
        clear hr hmS hst hM hZ hxb hxb2 hp1 hYl hX hez he hxg hyg hx hy HL hen hbl hbl1
        by_cases hQ : Q = 0
        · have hQn : ((Q : Int) != 0) = false := by rw [hQ]; rfl
          rw [hQ] at HR
          cases Z
          · have cP := fun w => sPack 0 (M ||| 1) (-1074 + 64 * (k : Int) - (en : Int)) (.inl rfl) hM1l (or_one_ne M) w
            have hr : rndP a k = rung (M ||| 1) (-1074 + 64 * (k : Int) - (en : Int)) := HR.out
            rw [Nat.zero_add, ← hr] at cP
            clear hr HR hQ
            generalize M ||| 1 = M1 at *
            go_wp2_with (go_at_call 51; refine (cL _).mono ?_; rintro e w' ⟨rfl, hw⟩; obtain rfl := hw.symm)
            go_big_quiet_o (fail)
            go_wp2_with fail
            refine (cZ _).mono ?_
            rintro e w1 ⟨rfl, hw1⟩
            obtain rfl := hw1.symm
            go_wp2_with fail
            refine (cP _).mono ?_
            rintro e w2 ⟨rfl, q, rfl⟩
            go_wp2
            go_ret
            exact ⟨k, HTop, rfl, below_drewN hbW _⟩
          · have cP := fun w => sPack 0 M (-1074 + 64 * (k : Int) - (en : Int)) (.inl rfl) hMl hM0 w
            have hr : rndP a k = rung M (-1074 + 64 * (k : Int) - (en : Int)) := HR.out
            rw [Nat.zero_add, ← hr] at cP
            clear hr HR hQ
            go_wp2_with (go_at_call 51; refine (cL _).mono ?_; rintro e w' ⟨rfl, hw⟩; obtain rfl := hw.symm)
            go_big_quiet_o (fail)
            go_wp2_with fail
            refine (cZ _).mono ?_
            rintro e w1 ⟨rfl, hw1⟩
            obtain rfl := hw1.symm
            go_wp2_with fail
            refine (cP _).mono ?_
            rintro e w2 ⟨rfl, q, rfl⟩
            go_wp2
            go_ret
            exact ⟨k, HTop, rfl, below_drewN hbW _⟩
        · have hQn : ((Q : Int) != 0) = true := by rw [bne_iff_ne]; omega
          have cP := fun w => sPack 0 (M ||| 1) (-1074 + 64 * (k : Int) - (en : Int)) (.inl rfl) hM1l (or_one_ne M) w
          have hr : rndP a k = rung (M ||| 1) (-1074 + 64 * (k : Int) - (en : Int)) := by
            have := HR.out
            rw [decide_eq_true hQ, Bool.true_or, if_pos rfl] at this
            exact this
          rw [Nat.zero_add, ← hr] at cP
          clear hr HR hQ
          generalize M ||| 1 = M1 at *
          go_wp2_with (go_at_call 51; refine (cL _).mono ?_; rintro e w' ⟨rfl, hw⟩; obtain rfl := hw.symm)
          go_big_quiet_o (fail)
          go_wp2_with fail
          refine (cP _).mono ?_
          rintro e w2 ⟨rfl, q, rfl⟩
          go_wp2
          go_ret
          exact ⟨k, HTop, rfl, below_drewN hbW _⟩
end Go.Proofs.YtnpdfkcjjedamaaGreatDoor.Sca
