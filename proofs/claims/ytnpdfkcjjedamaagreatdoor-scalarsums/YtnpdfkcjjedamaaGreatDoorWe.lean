/- Whole of finite floats whose sum is above 0, as it is walked. -/
import Derived.Test.YtnpdfkcjjedamaaGreatDoorWd
namespace Go.Proofs.YtnpdfkcjjedamaaGreatDoor.Sca
open Go.RowKit Go.Lib Go.Shelf

/-- A finite float as so many steps of 2^-1074. -/
def tm (b : Nat) : Int := slM b * 2 ^ (slE b + 1074).toNat
def tsum (l : List Nat) : Int := (l.map tm).foldr (· + ·) 0
theorem tsum_take (l : List Nat) (k x : Nat) (h : l[k]? = some x) : tsum (l.take (k + 1)) = tsum (l.take k) + tm x := by
  unfold tsum
  rw [List.take_add_one, h, List.map_append, List.foldr_append]
  generalize (l.take k).map tm = m
  simp only [Option.toList_some, List.map_cons, List.map_nil, List.foldr_cons, List.foldr_nil, Int.add_zero]
  induction m with
  | nil => simp
  | cons y r ih => simp only [List.foldr_cons]; rw [ih]; omega
theorem slM_bd (b : Nat) : -9007199254740992 < slM b ∧ slM b < 9007199254740992 := by
  have h1 := odd_le (mOf b)
  have h2 := mOf_lt b
  unfold slM spM
  split
  · split
    · omega
    · split <;> omega
  · omega
theorem slE_bd2 (b : Nat) : -1074 ≤ slE b ∧ slE b ≤ 1030 := by
  unfold slE spE
  split
  · split
    · omega
    · rename_i h1 h0
      have hm0 : mOf b ≠ 0 := fun e => h0 ((mOf_zero b).1 e)
      have hp := pOf_ge b
      have h971 : pOf b ≤ 971 := by unfold pOf; omega
      have ht := (tz_spec (mOf b) hm0 (by have := mOf_lt b; omega)).1
      obtain ⟨k, hk⟩ := ht
      have hlt := mOf_lt b
      have : 2 ^ tz (mOf b) ≤ mOf b := by
        have hpos := Nat.two_pow_pos (tz (mOf b))
        generalize 2 ^ tz (mOf b) = P at *
        rw [hk]
        exact Nat.le_mul_of_pos_right _ (by omega)
      have h53 : tz (mOf b) < 53 := by
        rcases Nat.lt_or_ge (tz (mOf b)) 53 with h | h
        · exact h
        · have : 2 ^ 53 ≤ 2 ^ tz (mOf b) := Nat.pow_le_pow_right (by decide) h
          omega
      omega
  · omega
theorem cell_b {w w' : World} {p : Addr} {v : Value} (h : w.cell? p = some v) (hb : Below w.heap.size w w') : w'.cell? p = some v := (hb.cell (World.block_lt_of_cell? w _ h)).trans h
abbrev zero34 : Array Value := #[.int .u64 0, .int .u64 0, .int .u64 0, .int .u64 0, .int .u64 0, .int .u64 0, .int .u64 0, .int .u64 0, .int .u64 0, .int .u64 0, .int .u64 0, .int .u64 0, .int .u64 0, .int .u64 0, .int .u64 0, .int .u64 0, .int .u64 0, .int .u64 0, .int .u64 0, .int .u64 0, .int .u64 0, .int .u64 0, .int .u64 0, .int .u64 0, .int .u64 0, .int .u64 0, .int .u64 0, .int .u64 0, .int .u64 0, .int .u64 0, .int .u64 0, .int .u64 0, .int .u64 0, .int .u64 0]
theorem tot_new (w : World) : Tot (w.alloc (.cells zero34 44)) w.heap.size (List.replicate 34 0) := by
  refine ⟨rfl, fun i x h => ?_, heap_alloc_new w _⟩
  rw [List.getElem?_replicate] at h
  split at h
  · cases h; decide
  · cases h
theorem val_zero : val (List.replicate 34 0) = 0 := by decide +kernel
theorem val_bd : ∀ (a : List Nat), (∀ (i : Nat) x, a[i]? = some x → x < 18446744073709551616) → 0 ≤ val a ∧ val a < 18446744073709551616 ^ a.length
  | [], _ => by simp [val]
  | z :: r, h => by
    have h0 := h 0 z rfl
    have := val_bd r (fun i x hx => h (i + 1) x (by simpa using hx))
    rw [List.length_cons, Int.pow_succ]
    unfold val
    generalize (18446744073709551616 : Int) ^ r.length = P at *
    omega
theorem val_split : ∀ (a : List Nat) (k x : Nat), a[k]? = some x → val a = val (a.take k) + ((x : Int) + 18446744073709551616 * val (a.drop (k + 1))) * 18446744073709551616 ^ k
  | [], k, x, h => by simp at h
  | z :: r, 0, x, h => by
    simp at h
    subst h
    simp [val]
  | z :: r, k + 1, x, h => by
    have := val_split r k x (by simpa using h)
    simp only [List.take_succ_cons, List.drop_succ_cons, val]
    rw [this, Int.pow_succ]
    generalize (18446744073709551616 : Int) ^ k = P
    generalize val (r.drop (k + 1)) = D
    generalize val (r.take k) = T
    rw [Int.mul_add]
    have : (18446744073709551616 : Int) * (((x : Int) + 18446744073709551616 * D) * P) = ((x : Int) + 18446744073709551616 * D) * (P * 18446744073709551616) := by ac_rfl
    rw [this]
    omega
theorem top_small (a : List Nat) (hl : a.length = 34) (hlt : ∀ (i : Nat) x, a[i]? = some x → x < 18446744073709551616) (h : val a < 2 ^ 2175) : wd a 33 < 9223372036854775808 := by
  obtain ⟨x, hx⟩ : ∃ x, a[33]? = some x := ⟨a[33]'(by omega), List.getElem?_eq_getElem _⟩
  rw [wd_at hx]
  have hs := val_split a 33 x hx
  rw [List.drop_eq_nil_of_le (by omega)] at hs
  have hb := (val_bd (a.take 33) (fun i y hy => hlt i y (by rw [List.getElem?_take] at hy; split at hy; exact hy; cases hy))).1
  have hM : (2 : Int) ^ 2175 = 9223372036854775808 * 18446744073709551616 ^ 33 := by decide +kernel
  rw [hM, hs] at h
  simp only [val, Int.mul_zero, Int.add_zero] at h
  have hP : (0 : Int) < 18446744073709551616 ^ 33 := Int.pow_pos (by decide)
  generalize (18446744073709551616 : Int) ^ 33 = P at *
  have h2 : (x : Int) * P < 9223372036854775808 * P := by omega
  have := Int.lt_of_mul_lt_mul_right h2 (by omega)
  omega
set_option maxRecDepth 100000 in
set_option maxHeartbeats 1000000 in
theorem sWhole_pos (g off n c : Nat) (bs : List Nat) (w : World) (hn : bs.length = n) (hn1 : n ≤ 1000000000) (hc : ∀ (i : Nat) x, bs[i]? = some x → w.cell? ⟨g, off + i, none⟩ = some (.float .f64 x)) (hlt : ∀ (i : Nat) x, bs[i]? = some x → x < 18446744073709551616 ∧ mg x < 9218868437227405312) (hT : Tz w) (hp : 0 < tsum bs) (hpm : tsum bs < 2 ^ 2175) :
    Calls Tryz.prog 9 #[.slice (some ⟨g, off, none⟩) n c] w fun e w' => ∃ a k, Tot w' w.heap.size a ∧ val a = tsum bs ∧ Top a k ∧ e = .returned (.float .f64 (rndP a k)) ∧ Below w.heap.size w w' := by
  have mixed := mixed_ok
  have h0 := tot_new w
  have hb0 : Below w.heap.size w (w.alloc (.cells zero34 44)) := (Below.refl _ _).alloc (Nat.le_refl _) _
  have HC : Hid (∀ (i : Nat) x, bs[i]? = some x → w.cell? ⟨g, off + i, none⟩ = some (.float .f64 x)) := hc
  have HL : Hid (∀ (i : Nat) x, bs[i]? = some x → x < 18446744073709551616 ∧ mg x < 9218868437227405312) := hlt
  clear hc hlt
  go_enter Tryz.func9, Tryz.ntmps9
  go_wp2
  generalize w.alloc (.cells zero34 44) = W0 at *
  go_loopw [4, 5, 16] (fun ve vs vi wr => ∃ (k : Nat) (sg : Bool) (ar : List Nat), ve = .float .f64 0 ∧ k ≤ n ∧ vi = .int .i64 (k : Int) ∧ vs = .bool sg ∧ Tot wr w.heap.size ar ∧ Below w.heap.size w wr ∧ Hid (∃ K : Int, val ar = tsum (bs.take k) + K * 18446744073709551616 ^ 34) ∧ Hid (sg = true → tsum (bs.take k) = 0)) (fun _ _ vi _ => n - (Go.RowKit.intOf vi).toNat)
  case atStart => exact ⟨0, _, List.replicate 34 0, rfl, Nat.zero_le _, rfl, rfl, h0, hb0, ⟨0, by rw [val_zero]; rfl⟩, fun _ => rfl⟩
  case round =>
    obtain ⟨k, sg, ar, rfl, hk, rfl, rfl, hTo, hBe, HV, HS⟩ := hrel
    clear h0 hb0
    by_cases hkn : k < n
    · have hkz : decide ((k : Int) < (n : Int)) = true := decide_eq_true (by omega)
      obtain ⟨x, hx⟩ : ∃ x, bs[k]? = some x := ⟨bs[k]'(by omega), List.getElem?_eq_getElem _⟩
      have hxc := cell_b (HC.out k x hx) hBe
      obtain ⟨hxl, hxf⟩ := HL.out k x hx
      have cS := sSplit x hxl wr (hT.below hBe)
      have hF : spF x = 0 := by unfold spF; rw [if_pos hxf]
      rw [hF] at cS
      have cA := sAdd (slM x) (slE x) w.heap.size ar wr (slM_bd x) (slE_bd2 x) hTo
      have cG := fun w => sSigned x hxl w
      have HT1 : Hid (tsum (bs.take (k + 1)) = tsum (bs.take k) + tm x) := tsum_take bs k x hx
      have HT0 : Hid (slM x = 0 → tm x = 0) := fun h => by unfold tm; rw [h, Int.zero_mul]
      have HTM : Hid (tm x = slM x * 2 ^ (slE x + 1074).toNat) := rfl
      generalize decide (sb (can x) ≠ 0) = gs at *
      generalize slM x = m at *
      generalize slE x = e at *
      clear hxf hF hx
      by_cases hm0 : m = 0
      · have hmz : (m == 0) = true := by rw [beq_iff_eq]; exact hm0
        have HT2 : Hid (tm x = 0) := HT0.out hm0
        clear HT0 hm0
        cases sg
        · go_wp2_with (first | (go_at_call 23; refine cS.mono ?_; rintro e' w' ⟨rfl, hw⟩; obtain rfl := hw.symm))
          refine cA.mono ?_
          rintro e' w1 ⟨rfl, a', hT1, hG1, KK⟩
          have hB1 : Below w.heap.size w w1 := hBe.grown hG1 hBe.size (fun q hq => by cases hq; exact Nat.le_refl _)
          have HV1 : Hid (∃ K : Int, val a' = tsum (bs.take (k + 1)) + K * 18446744073709551616 ^ 34) := by
            obtain ⟨K0, h0⟩ := HV.out
            obtain ⟨K1, h1⟩ := KK
            exact ⟨K0 + K1, by rw [h1, h0, HT1.out, HTM.out, Int.add_mul]; omega⟩
          clear KK hG1 cA hTo hBe HV
          go_wp2
          exact ⟨⟨k + 1, false, a', rfl, by omega, by go_num, rfl, hT1, hB1, HV1, fun h => by cases h⟩, by simp [Go.RowKit.intOf]; omega⟩
        · go_wp2_with (first | (go_at_call 23; refine cS.mono ?_; rintro e' w' ⟨rfl, hw⟩; obtain rfl := hw.symm))
          refine cA.mono ?_
          rintro e' w1 ⟨rfl, a', hT1, hG1, KK⟩
          have hB1 : Below w.heap.size w w1 := hBe.grown hG1 hBe.size (fun q hq => by cases hq; exact Nat.le_refl _)
          have HV1 : Hid (∃ K : Int, val a' = tsum (bs.take (k + 1)) + K * 18446744073709551616 ^ 34) := by
            obtain ⟨K0, h0⟩ := HV.out
            obtain ⟨K1, h1⟩ := KK
            exact ⟨K0 + K1, by rw [h1, h0, HT1.out, HTM.out, Int.add_mul]; omega⟩
          clear KK hG1 cA hTo hBe HV
          have HS1 : Hid (gs = true → tsum (bs.take (k + 1)) = 0) := fun _ => by rw [HT1.out, HT2.out, HS.out trivial]; rfl
          go_wp2_with (go_at_call 25; refine (cG _).mono ?_; rintro e' w' ⟨rfl, hw⟩; obtain rfl := hw.symm)
          exact ⟨⟨k + 1, gs, a', rfl, by omega, by go_num, rfl, hT1, hB1, HV1, HS1⟩, by simp [Go.RowKit.intOf]; omega⟩
      · have hmz : (m == 0) = false := by rw [beq_eq_false_iff_ne]; exact hm0
        clear HT0 hm0
        cases sg
        · go_wp2_with (first | (go_at_call 23; refine cS.mono ?_; rintro e' w' ⟨rfl, hw⟩; obtain rfl := hw.symm))
          refine cA.mono ?_
          rintro e' w1 ⟨rfl, a', hT1, hG1, KK⟩
          have hB1 : Below w.heap.size w w1 := hBe.grown hG1 hBe.size (fun q hq => by cases hq; exact Nat.le_refl _)
          have HV1 : Hid (∃ K : Int, val a' = tsum (bs.take (k + 1)) + K * 18446744073709551616 ^ 34) := by
            obtain ⟨K0, h0⟩ := HV.out
            obtain ⟨K1, h1⟩ := KK
            exact ⟨K0 + K1, by rw [h1, h0, HT1.out, HTM.out, Int.add_mul]; omega⟩
          clear KK hG1 cA hTo hBe HV
          go_wp2
          exact ⟨⟨k + 1, false, a', rfl, by omega, by go_num, rfl, hT1, hB1, HV1, fun h => by cases h⟩, by simp [Go.RowKit.intOf]; omega⟩
        · go_wp2_with (first | (go_at_call 23; refine cS.mono ?_; rintro e' w' ⟨rfl, hw⟩; obtain rfl := hw.symm))
          refine cA.mono ?_
          rintro e' w1 ⟨rfl, a', hT1, hG1, KK⟩
          have hB1 : Below w.heap.size w w1 := hBe.grown hG1 hBe.size (fun q hq => by cases hq; exact Nat.le_refl _)
          have HV1 : Hid (∃ K : Int, val a' = tsum (bs.take (k + 1)) + K * 18446744073709551616 ^ 34) := by
            obtain ⟨K0, h0⟩ := HV.out
            obtain ⟨K1, h1⟩ := KK
            exact ⟨K0 + K1, by rw [h1, h0, HT1.out, HTM.out, Int.add_mul]; omega⟩
          clear KK hG1 cA hTo hBe HV
          go_wp2
          exact ⟨⟨k + 1, false, a', rfl, by omega, by go_num, rfl, hT1, hB1, HV1, fun h => by cases h⟩, by simp [Go.RowKit.intOf]; omega⟩
    · obtain rfl : k = n := by omega
      rw [show bs.take k = bs from by rw [← hn, List.take_length]] at HV HS
      have hsf : sg = false := by
        cases sg
        · rfl
        · have := HS.out rfl; omega
      subst hsf
      have hfl : (FloatKind.f64.format.order 0 0 != some .eq) = false := by decide +kernel
      have hvb := val_bd ar hTo.lt
      rw [hTo.len] at hvb
      have hva : val ar = tsum bs := by
        obtain ⟨K, hK⟩ := HV.out
        have hM : (18446744073709551616 : Int) ^ 34 = 2 * 2 ^ 2175 := by decide +kernel
        rw [hM] at hK hvb
        generalize (2 : Int) ^ 2175 = P at *
        have h0 : K = 0 := by
          rcases Int.lt_trichotomy K 0 with h | h | h
          · have : K * (2 * P) ≤ (-1) * (2 * P) := Int.mul_le_mul_of_nonneg_right (by omega) (by omega)
            omega
          · exact h
          · have : 1 * (2 * P) ≤ K * (2 * P) := Int.mul_le_mul_of_nonneg_right (by omega) (by omega)
            omega
        rw [h0] at hK
        omega
      have h33 : wd ar 33 < 9223372036854775808 := top_small ar hTo.len hTo.lt (by rw [hva]; exact hpm)
      have cR := fun w => tRound_pos ar hTo.len hTo.lt h33 w
      have hbk := hTo.blk
      have HVA : Hid (val ar = tsum bs) := hva
      clear HV HS hva h33 hvb hp hpm HC HL hT
      have hsz : (Tryz.prog.info? 44).map (·.size) = some (aw ar).size := by rw [aw_size, hTo.len]; kernel_rfl
      go_wp2_with (refine wpList_load_row rfl 44 _ rfl w.heap.size rfl 44 (aw ar) (0, 0) _ hbk Tryz.underlying44 rfl hsz ?_)
      refine (cR _).mono ?_
      rintro e' w1 ⟨kk, hTp, rfl, hB1⟩
      go_wp2
      go_ret
      exact ⟨ar, kk, hTo.grown ⟨hB1.os, hB1.tape, hB1.output, hB1.size, fun i hi _ => hB1.block i hi⟩ (r := none) (by simp), HVA.out, hTp, rfl, hBe.trans (hB1.mono hBe.size)⟩
end Go.Proofs.YtnpdfkcjjedamaaGreatDoor.Sca
