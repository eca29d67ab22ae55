/- A sum below 0, rounded. -/
import Derived.Test.YtnpdfkcjjedamaaGreatDoorYc
namespace Go.Proofs.YtnpdfkcjjedamaaGreatDoor.Sca
open Go.RowKit Go.Lib Go.Shelf

set_option maxRecDepth 100000 in
set_option maxHeartbeats 1000000 in
theorem tRound_neg (a0 : List Nat) (ha0 : a0.length = 34) (hlt0 : ∀ (i : Nat) x, a0[i]? = some x → x < 18446744073709551616) (hp : 9223372036854775808 ≤ wd a0 33) (w : World) :
    Calls Tryz.prog 26 #[.agg (aw a0)] w fun e w' => ∃ a k, a.length = 34 ∧ (∀ (i : Nat) x, a[i]? = some x → x < 18446744073709551616) ∧ valN a + valN a0 = 18446744073709551616 ^ 34 ∧ Top a k ∧ e = .returned (.float .f64 (9223372036854775808 + rndP a k)) ∧ Below w.heap.size w w' := by
  have mixed := mixed_ok
  obtain ⟨z, hz⟩ : ∃ z, a0[33]? = some z := ⟨a0[33]'(by omega), List.getElem?_eq_getElem _⟩
  have hA33 := aw_at hz
  have hzg : wd a0 33 = z := wd_at hz
  have hzl := hlt0 33 z hz
  rw [hzg] at hp
  have hsg := and_sign z hzl
  obtain ⟨sg, hsgd⟩ : ∃ sg, sb z = sg := ⟨_, rfl⟩
  rw [hsgd] at hsg
  have HSE : Hid (9223372036854775808 = sg) := by show _ = _; rw [← hsgd]; unfold sb; omega
  have HSG : Hid (sg = 0 ∨ sg = 9223372036854775808) := .inr HSE.out.symm
  have hsn : ((sg : Int) != 0) = true := by rw [bne_iff_ne, ← HSE.out]; decide
  clear hsgd
  have hsz0 : (Tryz.prog.info? 44).map (·.size) = some (aw a0).size := by rw [aw_size, ha0]; kernel_rfl
  have hblk : (w.alloc (.cells (aw a0) 44)).heap[w.heap.size]? = some (.cells (aw a0) 44 (0, 0)) := heap_alloc_new w _
  have hb0 : Below w.heap.size w (w.alloc (.cells (aw a0) 44)) := (Below.refl _ _).alloc (Nat.le_refl _) _
  have hsl : w.heap.size < (w.alloc (.cells (aw a0) 44)).heap.size := by simp
  have cN := tNegated a0 ha0 hlt0 (w.alloc (.cells (aw a0) 44))
  have Hnz : Hid (valN a0 ≠ 0) := fun e => by
    have := (valN_zero a0).1 e 33 (by omega)
    omega
  have Hlt : Hid (valN a0 < 18446744073709551616 ^ 34) := by
    have := valN_lt a0 (fun x hx => by
      obtain ⟨i, hi⟩ := List.getElem?_of_mem hx
      exact hlt0 i x hi)
    rw [ha0] at this
    exact this
  have HsA : Hid ((aw a0).size = 34) := by show _ = _; rw [aw_size]; exact ha0
  generalize hA : aw a0 = A at *
  clear hA hz hzg hp hlt0 hzl
  go_enter Tryz.func26, Tryz.ntmps26
  go_wp2_with (refine wpList_load_row rfl 44 _ rfl w.heap.size rfl 44 A (0, 0) _ hblk Tryz.underlying44 rfl hsz0 ?_)
  refine cN.mono ?_
  rintro e1 w1 ⟨a, c, rfl, ha, hlt, hc, hv, hb1⟩
  have hblk1 : w1.heap[w.heap.size]? = some (.cells A 44 (0, 0)) := (hb1.block _ hsl).trans hblk
  obtain ⟨hvv, hne⟩ := neg_val _ _ _ c hc hv Hnz.out Hlt.out
  have HVV : Hid (valN a + valN a0 = 18446744073709551616 ^ 34) := hvv
  clear hvv
  have hsz : (Tryz.prog.info? 44).map (·.size) = some (aw a).size := by rw [aw_size, ha]; kernel_rfl
  have hold : A.size = (aw a).size := by rw [aw_size, ha]; exact HsA.out
  have hone := aw_one a
  have HW0 : Hid (∀ (i : Nat) x, a[i]? = some x → (w1.setRow w.heap.size (aw a)).cell? ⟨w.heap.size, i, none⟩ = some (.int .u64 (x : Int))) := fun i x hx => by
    rw [cell_setRow_same w1 w.heap.size i A (aw a) _ _ hblk1]
    exact aw_at hx
  have hbW0 : Below w.heap.size w (w1.setRow w.heap.size (aw a)) := below_setRow (hb0.trans (hb1.mono hb0.size)) (Nat.le_refl _) _
  have HL : Hid (∀ (i : Nat) x, a[i]? = some x → x < 18446744073709551616) := hlt
  have HL0 : Hid (∀ (i : Nat) x, a[i]? = some x → x < 18446744073709551616) := hlt
  generalize hAA : aw a = AA at *
  clear cN hv hb1 hc hlt Hnz Hlt hblk hb0 hsl hAA hA33
  go_wp2_with (refine wpList_store_row rfl 44 _ _ rfl w.heap.size AA rfl rfl 44 A hblk1 hsz hold hone ?_)
  obtain ⟨W, hWe⟩ : ∃ W, w1.setRow w.heap.size AA = W := ⟨_, rfl⟩
  rw [hWe]
  rw [hWe] at HW0 hbW0
  have HW : Hid (∀ (i : Nat) x, a[i]? = some x → W.cell? ⟨w.heap.size, i, none⟩ = some (.int .u64 (x : Int))) := HW0
  have hbW : Below w.heap.size w W := hbW0
  clear HW0 hbW0 hWe hsz hsz0 hold hone hblk1 HsA
  go_loop [4] (fun vt => ∃ k : Nat, k < 34 ∧ vt = .int .i64 (k : Int) ∧ Hid (∀ j, k < j → j < 34 → wd a j = 0)) (fun vt => (Go.RowKit.intOf vt).toNat)
  case atStart => exact ⟨33, by omega, rfl, fun j h1 h2 => by omega⟩
  case round =>
    obtain ⟨k, hk, rfl, hup⟩ := hrel
    obtain ⟨x, hx⟩ : ∃ x, a[k]? = some x := ⟨a[k]'(by omega), List.getElem?_eq_getElem _⟩
    have hxc := HW.out k x hx
    have hxg := wd_at hx
    have hxl := HL.out k x hx
    have hk34 : (k : Int) < 34 := by omega
    by_cases hk0 : k = 0
    · subst hk0
      have HTop : Top a 0 := ⟨by omega, hup.out, .inl rfl⟩
      have hr : rndP a 0 = rung x (-1074) := by unfold rndP; rw [if_pos rfl, hxg]
      by_cases hx0 : x = 0
      · exfalso
        have hv := valN_top a 0 ha HTop
        rw [hxg, hx0] at hv
        exact hne (by simpa [valN] using hv)
      · have cP := fun w => sPack sg x (-1074) HSG.out hxl hx0 w
        rw [← hr] at cP
        clear hr hx hxg hup HW hx0
        go_wp2_with fail
        refine (cP _).mono ?_
        rintro e w1 ⟨rfl, q, rfl⟩
        go_wp2
        go_ret
        exact ⟨a, 0, ha, HL0.out, HVV.out, HTop, by rw [HSE.out]; rfl, below_drewN hbW q⟩
    · have hkp : decide ((0 : Int) < (k : Int)) = true := decide_eq_true (by omega)
      have hkp2 : decide (0 < k) = true := decide_eq_true (by omega)
      have hk1 : (0 : Int) ≤ (k : Int) := by omega
      by_cases hx0 : x = 0
      · subst hx0
        have HN : Hid (∀ j, k - 1 < j → j < 34 → wd a j = 0) := fun j h1 h2 => by
          rcases Nat.lt_or_ge k j with h3 | h3
          · exact hup.out j h3 h2
          · rw [show j = k from by omega]; exact hxg
        clear hup hxg hx HW
        go_wp2
        exact ⟨⟨k - 1, by omega, by first | go_num | (congr 1; omega), HN⟩, by simp [Go.RowKit.intOf]; omega⟩
      · have hxz : ((x : Int) == 0) = false := by rw [beq_eq_false_iff_ne]; omega
        have hkz : ((k : Int) == 0) = false := by rw [beq_eq_false_iff_ne]; omega
        have HTop : Top a k := ⟨hk, hup.out, .inr (by rw [hxg]; exact hx0)⟩
        clear hup
        obtain ⟨y, hy⟩ : ∃ y, a[k - 1]? = some y := ⟨a[k - 1]'(by omega), List.getElem?_eq_getElem _⟩
        obtain ⟨j, hj⟩ : ∃ j, k - 1 = j := ⟨_, rfl⟩
        rw [hj] at hy
        have hyc := HW.out j y hy
        have hyg := wd_at hy
        have hyl := HL.out j y hy
        have cL := fun w => lead64 x hxl w
        have cZ := fun (q : Nat) => zero_any w.heap.size j 34 a (W.drewN q) (by omega) (by omega) (fun i x hx => HW.out i x hx)
        have hbl : bl x ≤ 64 := bl_lt hxl
        have hbl1 : 1 ≤ bl x := by rw [bl_pos hx0]; omega
        have hxb : x < 2 ^ bl x := by rw [bl_pos hx0]; exact Nat.lt_log2_self
        have hxb2 : 2 ^ (bl x - 1) ≤ x := by rw [bl_pos hx0]; exact Nat.log2_self_le hx0
        obtain ⟨en, hen⟩ : ∃ en, 64 - bl x = en := ⟨_, rfl⟩
        have he : emp a k = en := by unfold emp; rw [hxg, hen]
        have hez : (64 : Int) - (bl x : Int) = (en : Int) := by omega
        rw [hez] at cL
        have hp1 : 2 ^ bl x * 2 ^ en = 18446744073709551616 := by rw [← Nat.pow_add, show bl x + en = 64 from by omega]
        have hX : x * 2 ^ en < 18446744073709551616 := by rw [← hp1]; exact Nat.mul_lt_mul_of_pos_right hxb (Nat.two_pow_pos _)
        have hXz : IntKind.u64.wrap ((x : Int) * 2 ^ en) = ((x * 2 ^ en : Nat) : Int) := by
          rw [wrapU, show ((x : Int) * 2 ^ en) = ((x * 2 ^ en : Nat) : Int) from by rw [Int.natCast_mul, Int.natCast_pow]; rfl]
          omega
        have hQz : IntKind.u64.wrap ((y : Int) * 2 ^ en) = ((y * 2 ^ en % 18446744073709551616 : Nat) : Int) := by
          rw [wrapU, show ((y : Int) * 2 ^ en) = ((y * 2 ^ en : Nat) : Int) from by rw [Int.natCast_mul, Int.natCast_pow]; rfl]
          omega
        have hYz : (y : Int) / 2 ^ (64 - en) = ((y / 2 ^ (64 - en) : Nat) : Int) := by rw [Int.natCast_ediv, Int.natCast_pow]; rfl
        have hYl : y / 2 ^ (64 - en) < 2 ^ en := by
          rw [Nat.div_lt_iff_lt_mul (Nat.two_pow_pos _), ← Nat.pow_add, show en + (64 - en) = 64 from by omega]
          exact hyl
        have hO := u64_or_nat (x * 2 ^ en) (y / 2 ^ (64 - en)) hX (Nat.lt_of_lt_of_le hYl (Nat.pow_le_pow_right (by decide) (show en ≤ 64 by omega)))
        rw [or_disj x _ en hYl] at hO
        have hM : m0 a k = x * 2 ^ en + y / 2 ^ (64 - en) := by unfold m0; rw [he, hxg, hj, hyg]
        have hMl : x * 2 ^ en + y / 2 ^ (64 - en) < 18446744073709551616 := by
          have h1 : (x + 1) * 2 ^ en ≤ 2 ^ bl x * 2 ^ en := Nat.mul_le_mul_right _ hxb
          rw [Nat.add_mul, hp1] at h1
          omega
        have hM0 : x * 2 ^ en + y / 2 ^ (64 - en) ≠ 0 := Nat.ne_of_gt (Nat.lt_of_lt_of_le (Nat.mul_pos (Nat.pos_of_ne_zero hx0) (Nat.two_pow_pos en)) (Nat.le_add_right _ _))
        have hst : sticky a k = (decide (y * 2 ^ en % 18446744073709551616 ≠ 0) || !decide (∀ i, i < j → wd a i = 0)) := by unfold sticky; rw [he, hj, hyg]
        have hr : rndP a k = rung (mS a k) (-1074 + 64 * (k : Int) - (en : Int)) := by unfold rndP; rw [if_neg hk0, he]
        have hmS : mS a k = if sticky a k then (x * 2 ^ en + y / 2 ^ (64 - en)) ||| 1 else x * 2 ^ en + y / 2 ^ (64 - en) := by unfold mS; rw [hM]
        generalize y * 2 ^ en % 18446744073709551616 = Q at *
        generalize y / 2 ^ (64 - en) = Y at *
        generalize x * 2 ^ en = X at *
        generalize X + Y = M at *
        have hO1 : bits .or .u64 (M : Int) 1 = ((M ||| 1 : Nat) : Int) := u64_or_nat M 1 hMl (by decide)
        have hM1l : M ||| 1 < 18446744073709551616 := Nat.or_lt_two_pow (n := 64) hMl (by decide)
        have hkk : (k : Int) - 1 = (j : Int) := by omega
        have hj0 : (0 : Int) ≤ (j : Int) := by omega
        have hj34 : (j : Int) < 34 := by omega
        have hj35 : (j : Int) ≤ 34 := by omega
        have hen0 : (0 : Int) ≤ (en : Int) := by omega
        have hen1 : (0 : Int) ≤ 64 - (en : Int) := by omega
        have hen2 : en ≤ 64 := by omega
        generalize hZ : decide (∀ i, i < j → wd a i = 0) = Z at *
        have HR : Hid (rndP a k = rung (if (decide (Q ≠ 0) || !Z) then M ||| 1 else M) (-1074 + 64 * (k : Int) - (en : Int))) := by show _ = _; rw [hr, hmS, hst]
        clear hr hmS hst hM hZ hxb hxb2 hp1 hYl hX hez he hxg hyg hx hy HL hen hbl hbl1
        by_cases hQ : Q = 0
        · have hQn : ((Q : Int) != 0) = false := by rw [hQ]; rfl
          rw [hQ] at HR
          cases Z
          · have cP := fun w => sPack sg (M ||| 1) (-1074 + 64 * (k : Int) - (en : Int)) HSG.out hM1l (or_one_ne M) w
            have hr : rndP a k = rung (M ||| 1) (-1074 + 64 * (k : Int) - (en : Int)) := HR.out
            rw [← hr] at cP
            clear hr HR hQ
            generalize M ||| 1 = M1 at *
            go_wp2_with (go_at_call 51; refine (cL _).mono ?_; rintro e w' ⟨rfl, hw⟩; obtain rfl := hw.symm)
            go_big_quiet_o (fail)
            go_wp2_with fail
            refine (cZ _).mono ?_
            rintro e w1 ⟨rfl, hw1⟩
            obtain rfl := hw1.symm
            go_wp2_with fail
            refine (cP _).mono ?_
            rintro e w2 ⟨rfl, q, rfl⟩
            go_wp2
            go_ret
            exact ⟨a, k, ha, HL0.out, HVV.out, HTop, by rw [HSE.out]; rfl, below_drewN hbW _⟩
          · have cP := fun w => sPack sg M (-1074 + 64 * (k : Int) - (en : Int)) HSG.out hMl hM0 w
            have hr : rndP a k = rung M (-1074 + 64 * (k : Int) - (en : Int)) := HR.out
            rw [← hr] at cP
            clear hr HR hQ
            go_wp2_with (go_at_call 51; refine (cL _).mono ?_; rintro e w' ⟨rfl, hw⟩; obtain rfl := hw.symm)
            go_big_quiet_o (fail)
            go_wp2_with fail
            refine (cZ _).mono ?_
            rintro e w1 ⟨rfl, hw1⟩
            obtain rfl := hw1.symm
            go_wp2_with fail
            refine (cP _).mono ?_
            rintro e w2 ⟨rfl, q, rfl⟩
            go_wp2
            go_ret
            exact ⟨a, k, ha, HL0.out, HVV.out, HTop, by rw [HSE.out]; rfl, below_drewN hbW _⟩
        · have hQn : ((Q : Int) != 0) = true := by rw [bne_iff_ne]; omega
          have cP := fun w => sPack sg (M ||| 1) (-1074 + 64 * (k : Int) - (en : Int)) HSG.out hM1l (or_one_ne M) w
          have hr : rndP a k = rung (M ||| 1) (-1074 + 64 * (k : Int) - (en : Int)) := by
            have := HR.out
            rw [decide_eq_true hQ, Bool.true_or, if_pos rfl] at this
            exact this
          rw [← hr] at cP
          clear hr HR hQ
          generalize M ||| 1 = M1 at *
          go_wp2_with (go_at_call 51; refine (cL _).mono ?_; rintro e w' ⟨rfl, hw⟩; obtain rfl := hw.symm)
          go_big_quiet_o (fail)
          go_wp2_with fail
          refine (cP _).mono ?_
          rintro e w2 ⟨rfl, q, rfl⟩
          go_wp2
          go_ret
          exact ⟨a, k, ha, HL0.out, HVV.out, HTop, by rw [HSE.out]; rfl, below_drewN hbW _⟩
end Go.Proofs.YtnpdfkcjjedamaaGreatDoor.Sca
