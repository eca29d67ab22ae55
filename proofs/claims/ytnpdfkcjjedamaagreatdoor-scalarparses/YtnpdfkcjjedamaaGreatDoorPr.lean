/- The document's Print of a number that is not nought, as it is walked. -/
import Derived.Test.YtnpdfkcjjedamaaGreatDoorPq
namespace Go.Proofs.YtnpdfkcjjedamaaGreatDoor.Sca
open Go.RowKit Go.Lib Go.Shelf Go.Proofs.YtnpdfkcjjedamaaGreatDoor.Oct

def lenT : Value → Nat | .string s => s.size | _ => 0
set_option maxRecDepth 100000 in
theorem itoa_neg_fin : ∀ k : Fin 1200, Lib.itoa (-((k.val : Int) + 1)) = 45 :: Lib.itoa ((k.val : Int) + 1) := by decide +kernel
theorem itoa_neg (n : Nat) (h0 : 0 < n) (h : n < 1200) : Lib.itoa (-(n : Int)) = 45 :: Lib.itoa (n : Int) := by
  have := itoa_neg_fin ⟨n - 1, by omega⟩
  rw [show (((n - 1 : Nat) : Int) + 1) = (n : Int) from by omega] at this
  exact this
set_option maxRecDepth 100000 in
set_option maxHeartbeats 1000000 in
theorem pr_00 (b cl m0 K Y F : Nat) (p : Int) (w : World) (hp1 : -1074 ≤ p) (hp2 : p ≤ 971) (hK : K ≤ 53) (hY : m0 * 2 ^ K = Y) (hYF : Y = 4503599627370496 + F) (hFl : F < 4503599627370496) (hF : F ≠ 0)
    (k1 : ((cl : Int) == 1) = false) (k2 : ((cl : Int) == 2) = false) (k3 : ((cl : Int) == 3) = false)
    (cS : ∀ w, Calls Tryz.prog 32 #[.float .f64 b] w fun e w' => e = .returned (.bool false) ∧ w' = w) (cC : ∀ w, Calls Tryz.prog 70 #[.float .f64 b] w fun e w' => e = .returned (.int .i64 (cl : Int)) ∧ w' = w)
    (cP : ∀ w, Calls Tryz.prog 30 #[.float .f64 b] w fun e w' => e = .returned (.tuple #[.int .u64 (m0 : Int), .int .i64 p]) ∧ w' = w) :
    Calls Tryz.prog 46 #[.float .f64 b] w fun e w' => e = .returned (.string ⟨(([] : List UInt8) ++ [48, 120, 49] ++ fracB (F * 4096) ++ [112] ++ Lib.itoa (p - (K : Int) + 52)).toArray⟩) ∧ ∃ q, w' = w.drewN q := by
  have mixed := mixed_ok
  have Hk : Hid (((cl : Int) == 1) = false ∧ ((cl : Int) == 2) = false ∧ ((cl : Int) == 3) = false) := ⟨k1, k2, k3⟩
  have HY : Hid (m0 * 2 ^ K = Y ∧ Y = 4503599627370496 + F) := ⟨hY, hYF⟩
  have Hm : Hid (m0 ≤ Y) := by show m0 ≤ Y; rw [← hY]; exact Nat.le_mul_of_pos_right _ (Nat.two_pow_pos K)
  have hYl : Y < 9007199254740992 := by omega
  have Hle : Hid (4503599627370496 ≤ Y) := by show 4503599627370496 ≤ Y; omega
  clear hY hYF
  obtain ⟨FIN, hFIN⟩ : ∃ FIN, ([] : List UInt8) ++ [48, 120, 49] ++ fracB (F * 4096) ++ [112] ++ Lib.itoa (p - (K : Int) + 52) = FIN := ⟨_, rfl⟩
  rw [hFIN]
  have HFIN : Hid (([] : List UInt8) ++ [48, 120, 49] ++ [46] ++ hexs 16 (F * 4096) ++ [112] ++ Lib.itoa (p - (K : Int) + 52) = FIN) := by
    show _ = _
    rw [← hFIN, show fracB (F * 4096) = 46 :: hexs 16 (F * 4096) from by unfold fracB; rw [if_neg (by omega)]]
    simp
  clear hFIN
  go_enter Tryz.func46, Tryz.ntmps46
  go_wp2_with (first | (go_at_call 32; refine (cS _).mono ?_; rintro e w' ⟨rfl, hw⟩; obtain rfl := hw.symm) | (go_at_call 70; refine (cC _).mono ?_; rintro e w' ⟨rfl, hw⟩; obtain rfl := hw.symm) | (go_at_call 30; refine (cP _).mono ?_; rintro e w' ⟨rfl, hw⟩; obtain rfl := hw.symm))
  go_loop [4, 5] (fun vm ve => ∃ x k : Nat, vm = .int .u64 (x : Int) ∧ ve = .int .i64 (p - (k : Int)) ∧ k ≤ K ∧ x ≤ Y ∧ Hid (x * 2 ^ (K - k) = Y ∧ x ≠ 0)) (fun vm _ => Y - (Go.RowKit.intOf vm).toNat)
  case atStart => exact ⟨m0, 0, rfl, by simp, by omega, Hm.out, by rw [Nat.sub_zero]; exact HY.out.1, fun e => by have h1 := HY.out; have h2 := Hle.out; rw [e, Nat.zero_mul] at h1; omega⟩
  case round =>
    obtain ⟨x, k, rfl, rfl, hk, hx, hxy⟩ := hrel
    by_cases hlt : x < 4503599627370496
    · have hz : decide ((x : Int) < 4503599627370496) = true := decide_eq_true (by omega)
      have hkK : k < K := by
        rcases Nat.lt_or_ge k K with c | c
        · exact c
        · have h1 := hxy.out.1
          have h2 := Hle.out
          rw [show K - k = 0 from by omega, Nat.pow_zero, Nat.mul_one] at h1
          omega
      have hd : (x : Int) * 2 = ((x * 2 : Nat) : Int) := by omega
      have HN : Hid (x * 2 * 2 ^ (K - (k + 1)) = Y ∧ x * 2 ≠ 0 ∧ x * 2 ≤ Y ∧ x < x * 2) := by
        have e := hxy.out.1
        have e0 := hxy.out.2
        have e2 : x * 2 * 2 ^ (K - (k + 1)) = Y := by
          rw [Nat.mul_assoc, ← Nat.pow_succ', show (K - (k + 1)).succ = K - k from by omega]
          exact e
        exact ⟨e2, by omega, by rw [← e2]; exact Nat.le_mul_of_pos_right _ (Nat.two_pow_pos _), by omega⟩
      have hx2 : x * 2 < 9007199254740992 := by omega
      clear hlt hxy hx
      generalize x * 2 = x2 at *
      go_wp2
      exact ⟨⟨x2, k + 1, by first | rfl | go_num, by go_num, by omega, HN.out.2.2.1, HN.out.1, HN.out.2.1⟩, by have h1 := HN.out; simp [Go.RowKit.intOf]; omega⟩
    · have hz : decide ((x : Int) < 4503599627370496) = false := decide_eq_false (by omega)
      have hkK : k = K := by
        rcases Nat.lt_or_ge k K with c | c
        · exfalso
          have h1 := hxy.out.1
          rw [show K - k = (K - k - 1) + 1 from by omega, Nat.pow_succ, Nat.mul_comm (2 ^ (K - k - 1)) 2, ← Nat.mul_assoc] at h1
          have h2 : x * 2 ≤ x * 2 * 2 ^ (K - k - 1) := Nat.le_mul_of_pos_right _ (Nat.two_pow_pos _)
          omega
        · omega
      subst hkK
      have hxY : x = 4503599627370496 + F := by
        have h1 := hxy.out.1
        rw [Nat.sub_self, Nat.pow_zero, Nat.mul_one] at h1
        rw [h1]; exact HY.out.2
      clear hlt hxy hx hk Hm HY Hle hYl
      have hand := and_frac x (by omega)
      rw [show x % 4503599627370496 = F from by omega] at hand
      have hx64 : x < 18446744073709551616 := by omega
      clear hxY
      have a1 := fun w => add_list ([] : List UInt8) [48, 120, 49] (by decide) w
      have a2 := fun w => add_list (([] : List UInt8) ++ [48, 120, 49]) [46] (by decide) w
      have hFz : ((F : Int) != 0) = true := by rw [bne_iff_ne]; omega
      have hFy : ((F : Int) == 0) = false := by rw [beq_eq_false_iff_ne]; omega
      have hS2 : (([] : List UInt8) ++ [48, 120, 49] ++ [46]).length ≤ 10 := by decide
      generalize ([] : List UInt8) ++ [48, 120, 49] ++ [46] = S2 at *
      generalize ([] : List UInt8) ++ [48, 120, 49] = S1 at *
      clear hF
      go_wp2
      clear a1 a2 hFz hFy hz
      have HF : Hid (F * 4096 < 18446744073709551616) := by show F * 4096 < 18446744073709551616; omega
      go_loop [3, 6, 7] (fun vs vf _ => ∃ k' f' : Nat, ∃ ds : List UInt8, vs = .string ⟨(S2 ++ ds).toArray⟩ ∧ vf = .int .u64 (f' : Int) ∧ k' ≤ 16 ∧ ds.length = k' ∧ f' < 4503599627370496 ∧ Hid (f' * 4096 = F * 4096 * 16 ^ k' % 18446744073709551616 ∧ ds ++ hexs (16 - k') (f' * 4096) = hexs 16 (F * 4096))) (fun vs _ _ => 40 - lenT vs)
      case atStart => exact ⟨0, F, [], by first | rfl | (rw [List.append_nil]), rfl, by omega, rfl, by omega, by rw [Nat.pow_zero, Nat.mul_one, Nat.mod_eq_of_lt HF.out], rfl⟩
      case round =>
        rename_i vd
        obtain ⟨k', f', ds, rfl, rfl, hk', hds, hf', hinv⟩ := hrel
        by_cases hf0 : f' = 0
        · subst hf0
          have hdse : ds = hexs 16 (F * 4096) := by
            have := hinv.out.2
            rw [Nat.zero_mul, hexs_zero, List.append_nil] at this
            exact this
          have HE0 : Hid (S2 ++ ds ++ [112] ++ Lib.itoa (p - (k : Int) + 52) = FIN) := by
            show _ = _
            rw [hdse]
            exact HFIN.out
          clear hinv hdse HF HFIN
          have a3 := fun w => add_list (S2 ++ ds) [112] (by rw [List.length_append, List.length_singleton]; omega) w
          by_cases hneg : p - (k : Int) + 52 < 0
          · have hnz : decide (p - (k : Int) + 52 < 0) = true := decide_eq_true hneg
            obtain ⟨n, hn⟩ : ∃ n : Nat, -(p - (k : Int) + 52) = (n : Int) := ⟨(-(p - (k : Int) + 52)).toNat, by omega⟩
            have hn1 : n < 1200 ∧ 0 < n := by omega
            have cD := fun w => qDecimal 3 n (by omega) hn1.1 w
            have hil := Lib.itoa_length_le (n : Int) (by omega) (by omega)
            have a4 := fun w => add_list (S2 ++ ds ++ [112]) [45] (by simp only [List.length_append, List.length_singleton]; omega) w
            have a5 := fun w => add_list (S2 ++ ds ++ [112] ++ [45]) (Lib.itoa (n : Int)) (by simp only [List.length_append, List.length_singleton]; omega) w
            have HE : Hid (S2 ++ ds ++ [112] ++ [45] ++ Lib.itoa (n : Int) = FIN) := by
              show _ = _
              rw [← HE0.out, show p - (k : Int) + 52 = -(n : Int) from by omega, itoa_neg n hn1.2 hn1.1]
              simp
            clear HE0 hil hneg hn1
            generalize S2 ++ ds ++ [112] ++ [45] ++ Lib.itoa (n : Int) = T5 at *
            generalize Lib.itoa (n : Int) = T0 at *
            generalize S2 ++ ds ++ [112] ++ [45] = T4 at *
            generalize S2 ++ ds ++ [112] = T3 at *
            generalize S2 ++ ds = T2 at *
            go_wp2_with fail
            refine (cD _).mono ?_
            rintro e9 w9 ⟨rfl, q9, rfl⟩
            go_wp2
            go_ret
            exact ⟨by rw [HE.out]; rfl, _, rfl⟩
          · have hnz : decide (p - (k : Int) + 52 < 0) = false := decide_eq_false hneg
            obtain ⟨n, hn⟩ : ∃ n : Nat, p - (k : Int) + 52 = (n : Int) := ⟨(p - (k : Int) + 52).toNat, by omega⟩
            have hn1 : n < 1200 := by omega
            have HE : Hid (S2 ++ ds ++ [112] ++ Lib.itoa (n : Int) = FIN) := by
              show _ = _
              rw [← HE0.out, hn]
            have cD := fun w => qDecimal 3 n (by omega) hn1 w
            have hil := Lib.itoa_length_le (n : Int) (by omega) (by omega)
            have a4 := fun w => add_list (S2 ++ ds ++ [112]) (Lib.itoa (n : Int)) (by simp only [List.length_append, List.length_singleton]; omega) w
            clear HE0 hil hneg hn1
            generalize S2 ++ ds ++ [112] ++ Lib.itoa (n : Int) = T5 at *
            generalize Lib.itoa (n : Int) = T0 at *
            generalize S2 ++ ds ++ [112] = T3 at *
            generalize S2 ++ ds = T2 at *
            go_wp2_with fail
            refine (cD _).mono ?_
            rintro e9 w9 ⟨rfl, q9, rfl⟩
            go_wp2
            go_ret
            exact ⟨by rw [HE.out]; rfl, _, rfl⟩
        · have hfz : ((f' : Int) != 0) = true := by rw [bne_iff_ne]; omega
          have hfy : ((f' : Int) == 0) = false := by rw [beq_eq_false_iff_ne]; omega
          have hkl : k' < 16 := by
            rcases Nat.lt_or_ge k' 16 with c | c
            · exact c
            · have h1 := hinv.out.1
              rw [show k' = 16 from by omega, pow16] at h1
              omega
          obtain ⟨d, hd⟩ : ∃ d, f' / 281474976710656 = d := ⟨_, rfl⟩
          have hd16 : d < 16 := by omega
          have hdz : (f' : Int) / 281474976710656 = (d : Int) := by omega
          obtain ⟨y, hy⟩ : ∃ y, f' * 16 % 4503599627370496 = y := ⟨_, rfl⟩
          have hy2 : bits .and .u64 ((f' * 16 : Nat) : Int) 4503599627370495 = (y : Int) := by rw [and_frac (f' * 16) (by omega), hy]
          have hf16 : (f' : Int) * 16 = ((f' * 16 : Nat) : Int) := by omega
          have hf16l : f' * 16 < 18446744073709551616 := by omega
          have hyl : y < 4503599627370496 := by omega
          have hcut := hex_cut1 d hd16
          have hsz : hexText.size = 16 := rfl
          have ha := fun w => add_list (S2 ++ ds) [hxd d] (by rw [List.length_append, List.length_singleton]; omega) w
          have HN : Hid (y * 4096 = F * 4096 * 16 ^ (k' + 1) % 18446744073709551616 ∧ (ds ++ [hxd d]) ++ hexs (16 - (k' + 1)) (y * 4096) = hexs 16 (F * 4096)) := by
            obtain ⟨h1, h2⟩ := hinv.out
            have e1 : f' * 4096 * 16 % 18446744073709551616 = y * 4096 := by omega
            refine ⟨?_, ?_⟩
            · rw [← e1, h1, Nat.mod_mul_mod, Nat.mul_assoc (F * 4096), ← Nat.pow_succ]
            · rw [show 16 - k' = (16 - (k' + 1)) + 1 from by omega] at h2
              unfold hexs at h2
              rw [if_neg (by omega), e1, show f' * 4096 / 1152921504606846976 = d from by omega] at h2
              rw [List.append_assoc]
              exact h2
          have HL : Hid (S2 ++ (ds ++ [hxd d]) = S2 ++ ds ++ [hxd d]) := by show _ = _; rw [List.append_assoc]
          have hlen : (S2 ++ ds).length = S2.length + k' := by rw [List.length_append, hds]
          clear hinv hd hy hf0
          generalize f' * 16 = f16 at *
          obtain ⟨T3, hT3⟩ : ∃ T3, S2 ++ ds ++ [hxd d] = T3 := ⟨_, rfl⟩
          rw [hT3] at ha HL
          have HT3 : Hid (T3.length = S2.length + k' + 1) := by show T3.length = _; rw [← hT3, List.length_append, hlen]; rfl
          clear hT3
          generalize hT2 : S2 ++ ds = T2 at *
          go_wp2
          exact ⟨⟨k' + 1, y, ds ++ [hxd d], by rw [HL.out], by first | rfl | go_num, by omega, by rw [List.length_append, hds]; rfl, hyl, HN.out⟩, by have h3 := HT3.out; simp only [lenT, ByteArray.size, List.size_toArray]; omega⟩
set_option maxRecDepth 100000 in
set_option maxHeartbeats 1000000 in
theorem pr_01 (b cl m0 K Y F : Nat) (p : Int) (w : World) (hp1 : -1074 ≤ p) (hp2 : p ≤ 971) (hK : K ≤ 53) (hY : m0 * 2 ^ K = Y) (hYF : Y = 4503599627370496 + F) (hFl : F < 4503599627370496) (hF : F = 0)
    (k1 : ((cl : Int) == 1) = false) (k2 : ((cl : Int) == 2) = false) (k3 : ((cl : Int) == 3) = false)
    (cS : ∀ w, Calls Tryz.prog 32 #[.float .f64 b] w fun e w' => e = .returned (.bool false) ∧ w' = w) (cC : ∀ w, Calls Tryz.prog 70 #[.float .f64 b] w fun e w' => e = .returned (.int .i64 (cl : Int)) ∧ w' = w)
    (cP : ∀ w, Calls Tryz.prog 30 #[.float .f64 b] w fun e w' => e = .returned (.tuple #[.int .u64 (m0 : Int), .int .i64 p]) ∧ w' = w) :
    Calls Tryz.prog 46 #[.float .f64 b] w fun e w' => e = .returned (.string ⟨(([] : List UInt8) ++ [48, 120, 49] ++ fracB (F * 4096) ++ [112] ++ Lib.itoa (p - (K : Int) + 52)).toArray⟩) ∧ ∃ q, w' = w.drewN q := by
  have mixed := mixed_ok
  have Hk : Hid (((cl : Int) == 1) = false ∧ ((cl : Int) == 2) = false ∧ ((cl : Int) == 3) = false) := ⟨k1, k2, k3⟩
  have HY : Hid (m0 * 2 ^ K = Y ∧ Y = 4503599627370496 + F) := ⟨hY, hYF⟩
  have Hm : Hid (m0 ≤ Y) := by show m0 ≤ Y; rw [← hY]; exact Nat.le_mul_of_pos_right _ (Nat.two_pow_pos K)
  have hYl : Y < 9007199254740992 := by omega
  have Hle : Hid (4503599627370496 ≤ Y) := by show 4503599627370496 ≤ Y; omega
  clear hY hYF
  subst hF
  obtain ⟨FIN, hFIN⟩ : ∃ FIN, ([] : List UInt8) ++ [48, 120, 49] ++ fracB (0 * 4096) ++ [112] ++ Lib.itoa (p - (K : Int) + 52) = FIN := ⟨_, rfl⟩
  rw [hFIN]
  have HFIN : Hid (([] : List UInt8) ++ [48, 120, 49] ++ hexs 16 (0 * 4096) ++ [112] ++ Lib.itoa (p - (K : Int) + 52) = FIN) := by
    show _ = _
    rw [← hFIN]
    rfl
  clear hFIN
  go_enter Tryz.func46, Tryz.ntmps46
  go_wp2_with (first | (go_at_call 32; refine (cS _).mono ?_; rintro e w' ⟨rfl, hw⟩; obtain rfl := hw.symm) | (go_at_call 70; refine (cC _).mono ?_; rintro e w' ⟨rfl, hw⟩; obtain rfl := hw.symm) | (go_at_call 30; refine (cP _).mono ?_; rintro e w' ⟨rfl, hw⟩; obtain rfl := hw.symm))
  go_loop [4, 5] (fun vm ve => ∃ x k : Nat, vm = .int .u64 (x : Int) ∧ ve = .int .i64 (p - (k : Int)) ∧ k ≤ K ∧ x ≤ Y ∧ Hid (x * 2 ^ (K - k) = Y ∧ x ≠ 0)) (fun vm _ => Y - (Go.RowKit.intOf vm).toNat)
  case atStart => exact ⟨m0, 0, rfl, by simp, by omega, Hm.out, by rw [Nat.sub_zero]; exact HY.out.1, fun e => by have h1 := HY.out; have h2 := Hle.out; rw [e, Nat.zero_mul] at h1; omega⟩
  case round =>
    obtain ⟨x, k, rfl, rfl, hk, hx, hxy⟩ := hrel
    by_cases hlt : x < 4503599627370496
    · have hz : decide ((x : Int) < 4503599627370496) = true := decide_eq_true (by omega)
      have hkK : k < K := by
        rcases Nat.lt_or_ge k K with c | c
        · exact c
        · have h1 := hxy.out.1
          have h2 := Hle.out
          rw [show K - k = 0 from by omega, Nat.pow_zero, Nat.mul_one] at h1
          omega
      have hd : (x : Int) * 2 = ((x * 2 : Nat) : Int) := by omega
      have HN : Hid (x * 2 * 2 ^ (K - (k + 1)) = Y ∧ x * 2 ≠ 0 ∧ x * 2 ≤ Y ∧ x < x * 2) := by
        have e := hxy.out.1
        have e0 := hxy.out.2
        have e2 : x * 2 * 2 ^ (K - (k + 1)) = Y := by
          rw [Nat.mul_assoc, ← Nat.pow_succ', show (K - (k + 1)).succ = K - k from by omega]
          exact e
        exact ⟨e2, by omega, by rw [← e2]; exact Nat.le_mul_of_pos_right _ (Nat.two_pow_pos _), by omega⟩
      have hx2 : x * 2 < 9007199254740992 := by omega
      clear hlt hxy hx
      generalize x * 2 = x2 at *
      go_wp2
      exact ⟨⟨x2, k + 1, by first | rfl | go_num, by go_num, by omega, HN.out.2.2.1, HN.out.1, HN.out.2.1⟩, by have h1 := HN.out; simp [Go.RowKit.intOf]; omega⟩
    · have hz : decide ((x : Int) < 4503599627370496) = false := decide_eq_false (by omega)
      have hkK : k = K := by
        rcases Nat.lt_or_ge k K with c | c
        · exfalso
          have h1 := hxy.out.1
          rw [show K - k = (K - k - 1) + 1 from by omega, Nat.pow_succ, Nat.mul_comm (2 ^ (K - k - 1)) 2, ← Nat.mul_assoc] at h1
          have h2 : x * 2 ≤ x * 2 * 2 ^ (K - k - 1) := Nat.le_mul_of_pos_right _ (Nat.two_pow_pos _)
          omega
        · omega
      subst hkK
      have hxY : x = 4503599627370496 + 0 := by
        have h1 := hxy.out.1
        rw [Nat.sub_self, Nat.pow_zero, Nat.mul_one] at h1
        rw [h1]; exact HY.out.2
      clear hlt hxy hx hk Hm HY Hle hYl
      have hand := and_frac x (by omega)
      rw [show x % 4503599627370496 = 0 from by omega] at hand
      have hx64 : x < 18446744073709551616 := by omega
      clear hxY
      have a1 := fun w => add_list ([] : List UInt8) [48, 120, 49] (by decide) w
      have hfr : fracB (0 * 4096) = [] := rfl
      have hS2 : (([] : List UInt8) ++ [48, 120, 49]).length ≤ 10 := by decide
      generalize ([] : List UInt8) ++ [48, 120, 49] = S2 at *
      clear hfr
      go_wp2
      clear a1 hz hand hx64 hFl k1 k2 k3 Hk
      have HF : Hid (0 * 4096 < 18446744073709551616) := by show 0 * 4096 < 18446744073709551616; omega
      go_loop [3, 6, 7] (fun vs vf _ => ∃ k' f' : Nat, ∃ ds : List UInt8, vs = .string ⟨(S2 ++ ds).toArray⟩ ∧ vf = .int .u64 (f' : Int) ∧ k' ≤ 16 ∧ ds.length = k' ∧ f' < 4503599627370496 ∧ Hid (f' * 4096 = 0 * 4096 * 16 ^ k' % 18446744073709551616 ∧ ds ++ hexs (16 - k') (f' * 4096) = hexs 16 (0 * 4096))) (fun vs _ _ => 40 - lenT vs)
      case atStart => exact ⟨0, 0, [], by first | rfl | (rw [List.append_nil]), rfl, by omega, rfl, by omega, by rw [Nat.pow_zero, Nat.mul_one, Nat.mod_eq_of_lt HF.out], rfl⟩
      case round =>
        rename_i vd
        obtain ⟨k', f', ds, rfl, rfl, hk', hds, hf', hinv⟩ := hrel
        by_cases hf0 : f' = 0
        · subst hf0
          have hdse : ds = hexs 16 (0 * 4096) := by
            have := hinv.out.2
            rw [Nat.zero_mul, hexs_zero, List.append_nil] at this
            exact this
          have HE0 : Hid (S2 ++ ds ++ [112] ++ Lib.itoa (p - (k : Int) + 52) = FIN) := by
            show _ = _
            rw [hdse]
            exact HFIN.out
          clear hinv hdse HF HFIN
          have a3 := fun w => add_list (S2 ++ ds) [112] (by rw [List.length_append, List.length_singleton]; omega) w
          by_cases hneg : p - (k : Int) + 52 < 0
          · have hnz : decide (p - (k : Int) + 52 < 0) = true := decide_eq_true hneg
            obtain ⟨n, hn⟩ : ∃ n : Nat, -(p - (k : Int) + 52) = (n : Int) := ⟨(-(p - (k : Int) + 52)).toNat, by omega⟩
            have hn1 : n < 1200 ∧ 0 < n := by omega
            have cD := fun w => qDecimal 3 n (by omega) hn1.1 w
            have hil := Lib.itoa_length_le (n : Int) (by omega) (by omega)
            have a4 := fun w => add_list (S2 ++ ds ++ [112]) [45] (by simp only [List.length_append, List.length_singleton]; omega) w
            have a5 := fun w => add_list (S2 ++ ds ++ [112] ++ [45]) (Lib.itoa (n : Int)) (by simp only [List.length_append, List.length_singleton]; omega) w
            have HE : Hid (S2 ++ ds ++ [112] ++ [45] ++ Lib.itoa (n : Int) = FIN) := by
              show _ = _
              rw [← HE0.out, show p - (k : Int) + 52 = -(n : Int) from by omega, itoa_neg n hn1.2 hn1.1]
              simp
            clear HE0 hil hneg hn1
            generalize S2 ++ ds ++ [112] ++ [45] ++ Lib.itoa (n : Int) = T5 at *
            generalize Lib.itoa (n : Int) = T0 at *
            generalize S2 ++ ds ++ [112] ++ [45] = T4 at *
            generalize S2 ++ ds ++ [112] = T3 at *
            generalize S2 ++ ds = T2 at *
            go_wp2_with fail
            refine (cD _).mono ?_
            rintro e9 w9 ⟨rfl, q9, rfl⟩
            go_wp2
            go_ret
            exact ⟨by rw [HE.out]; rfl, _, rfl⟩
          · have hnz : decide (p - (k : Int) + 52 < 0) = false := decide_eq_false hneg
            obtain ⟨n, hn⟩ : ∃ n : Nat, p - (k : Int) + 52 = (n : Int) := ⟨(p - (k : Int) + 52).toNat, by omega⟩
            have hn1 : n < 1200 := by omega
            have HE : Hid (S2 ++ ds ++ [112] ++ Lib.itoa (n : Int) = FIN) := by
              show _ = _
              rw [← HE0.out, hn]
            have cD := fun w => qDecimal 3 n (by omega) hn1 w
            have hil := Lib.itoa_length_le (n : Int) (by omega) (by omega)
            have a4 := fun w => add_list (S2 ++ ds ++ [112]) (Lib.itoa (n : Int)) (by simp only [List.length_append, List.length_singleton]; omega) w
            clear HE0 hil hneg hn1
            generalize S2 ++ ds ++ [112] ++ Lib.itoa (n : Int) = T5 at *
            generalize Lib.itoa (n : Int) = T0 at *
            generalize S2 ++ ds ++ [112] = T3 at *
            generalize S2 ++ ds = T2 at *
            go_wp2_with fail
            refine (cD _).mono ?_
            rintro e9 w9 ⟨rfl, q9, rfl⟩
            go_wp2
            go_ret
            exact ⟨by rw [HE.out]; rfl, _, rfl⟩
        · have hfz : ((f' : Int) != 0) = true := by rw [bne_iff_ne]; omega
          have hfy : ((f' : Int) == 0) = false := by rw [beq_eq_false_iff_ne]; omega
          have hkl : k' < 16 := by
            rcases Nat.lt_or_ge k' 16 with c | c
            · exact c
            · have h1 := hinv.out.1
              rw [show k' = 16 from by omega, pow16] at h1
              omega
          obtain ⟨d, hd⟩ : ∃ d, f' / 281474976710656 = d := ⟨_, rfl⟩
          have hd16 : d < 16 := by omega
          have hdz : (f' : Int) / 281474976710656 = (d : Int) := by omega
          obtain ⟨y, hy⟩ : ∃ y, f' * 16 % 4503599627370496 = y := ⟨_, rfl⟩
          have hy2 : bits .and .u64 ((f' * 16 : Nat) : Int) 4503599627370495 = (y : Int) := by rw [and_frac (f' * 16) (by omega), hy]
          have hf16 : (f' : Int) * 16 = ((f' * 16 : Nat) : Int) := by omega
          have hf16l : f' * 16 < 18446744073709551616 := by omega
          have hyl : y < 4503599627370496 := by omega
          have hcut := hex_cut1 d hd16
          have hsz : hexText.size = 16 := rfl
          have ha := fun w => add_list (S2 ++ ds) [hxd d] (by rw [List.length_append, List.length_singleton]; omega) w
          have HN : Hid (y * 4096 = 0 * 4096 * 16 ^ (k' + 1) % 18446744073709551616 ∧ (ds ++ [hxd d]) ++ hexs (16 - (k' + 1)) (y * 4096) = hexs 16 (0 * 4096)) := by
            obtain ⟨h1, h2⟩ := hinv.out
            have e1 : f' * 4096 * 16 % 18446744073709551616 = y * 4096 := by omega
            refine ⟨?_, ?_⟩
            · rw [← e1, h1, Nat.mod_mul_mod, Nat.mul_assoc (0 * 4096), ← Nat.pow_succ]
            · rw [show 16 - k' = (16 - (k' + 1)) + 1 from by omega] at h2
              unfold hexs at h2
              rw [if_neg (by omega), e1, show f' * 4096 / 1152921504606846976 = d from by omega] at h2
              rw [List.append_assoc]
              exact h2
          have HL : Hid (S2 ++ (ds ++ [hxd d]) = S2 ++ ds ++ [hxd d]) := by show _ = _; rw [List.append_assoc]
          have hlen : (S2 ++ ds).length = S2.length + k' := by rw [List.length_append, hds]
          clear hinv hd hy hf0
          generalize f' * 16 = f16 at *
          obtain ⟨T3, hT3⟩ : ∃ T3, S2 ++ ds ++ [hxd d] = T3 := ⟨_, rfl⟩
          rw [hT3] at ha HL
          have HT3 : Hid (T3.length = S2.length + k' + 1) := by show T3.length = _; rw [← hT3, List.length_append, hlen]; rfl
          clear hT3
          generalize hT2 : S2 ++ ds = T2 at *
          go_wp2
          exact ⟨⟨k' + 1, y, ds ++ [hxd d], by rw [HL.out], by first | rfl | go_num, by omega, by rw [List.length_append, hds]; rfl, hyl, HN.out⟩, by have h3 := HT3.out; simp only [lenT, ByteArray.size, List.size_toArray]; omega⟩
set_option maxRecDepth 100000 in
set_option maxHeartbeats 1000000 in
theorem pr_10 (b cl m0 K Y F : Nat) (p : Int) (w : World) (hp1 : -1074 ≤ p) (hp2 : p ≤ 971) (hK : K ≤ 53) (hY : m0 * 2 ^ K = Y) (hYF : Y = 4503599627370496 + F) (hFl : F < 4503599627370496) (hF : F ≠ 0)
    (k1 : ((cl : Int) == 1) = false) (k2 : ((cl : Int) == 2) = false) (k3 : ((cl : Int) == 3) = false)
    (cS : ∀ w, Calls Tryz.prog 32 #[.float .f64 b] w fun e w' => e = .returned (.bool true) ∧ w' = w) (cC : ∀ w, Calls Tryz.prog 70 #[.float .f64 b] w fun e w' => e = .returned (.int .i64 (cl : Int)) ∧ w' = w)
    (cP : ∀ w, Calls Tryz.prog 30 #[.float .f64 b] w fun e w' => e = .returned (.tuple #[.int .u64 (m0 : Int), .int .i64 p]) ∧ w' = w) :
    Calls Tryz.prog 46 #[.float .f64 b] w fun e w' => e = .returned (.string ⟨(([45] : List UInt8) ++ [48, 120, 49] ++ fracB (F * 4096) ++ [112] ++ Lib.itoa (p - (K : Int) + 52)).toArray⟩) ∧ ∃ q, w' = w.drewN q := by
  have mixed := mixed_ok
  have Hk : Hid (((cl : Int) == 1) = false ∧ ((cl : Int) == 2) = false ∧ ((cl : Int) == 3) = false) := ⟨k1, k2, k3⟩
  have HY : Hid (m0 * 2 ^ K = Y ∧ Y = 4503599627370496 + F) := ⟨hY, hYF⟩
  have Hm : Hid (m0 ≤ Y) := by show m0 ≤ Y; rw [← hY]; exact Nat.le_mul_of_pos_right _ (Nat.two_pow_pos K)
  have hYl : Y < 9007199254740992 := by omega
  have Hle : Hid (4503599627370496 ≤ Y) := by show 4503599627370496 ≤ Y; omega
  clear hY hYF
  obtain ⟨FIN, hFIN⟩ : ∃ FIN, ([45] : List UInt8) ++ [48, 120, 49] ++ fracB (F * 4096) ++ [112] ++ Lib.itoa (p - (K : Int) + 52) = FIN := ⟨_, rfl⟩
  rw [hFIN]
  have HFIN : Hid (([45] : List UInt8) ++ [48, 120, 49] ++ [46] ++ hexs 16 (F * 4096) ++ [112] ++ Lib.itoa (p - (K : Int) + 52) = FIN) := by
    show _ = _
    rw [← hFIN, show fracB (F * 4096) = 46 :: hexs 16 (F * 4096) from by unfold fracB; rw [if_neg (by omega)]]
    simp
  clear hFIN
  go_enter Tryz.func46, Tryz.ntmps46
  go_wp2_with (first | (go_at_call 32; refine (cS _).mono ?_; rintro e w' ⟨rfl, hw⟩; obtain rfl := hw.symm) | (go_at_call 70; refine (cC _).mono ?_; rintro e w' ⟨rfl, hw⟩; obtain rfl := hw.symm) | (go_at_call 30; refine (cP _).mono ?_; rintro e w' ⟨rfl, hw⟩; obtain rfl := hw.symm))
  go_loop [4, 5] (fun vm ve => ∃ x k : Nat, vm = .int .u64 (x : Int) ∧ ve = .int .i64 (p - (k : Int)) ∧ k ≤ K ∧ x ≤ Y ∧ Hid (x * 2 ^ (K - k) = Y ∧ x ≠ 0)) (fun vm _ => Y - (Go.RowKit.intOf vm).toNat)
  case atStart => exact ⟨m0, 0, rfl, by simp, by omega, Hm.out, by rw [Nat.sub_zero]; exact HY.out.1, fun e => by have h1 := HY.out; have h2 := Hle.out; rw [e, Nat.zero_mul] at h1; omega⟩
  case round =>
    obtain ⟨x, k, rfl, rfl, hk, hx, hxy⟩ := hrel
    by_cases hlt : x < 4503599627370496
    · have hz : decide ((x : Int) < 4503599627370496) = true := decide_eq_true (by omega)
      have hkK : k < K := by
        rcases Nat.lt_or_ge k K with c | c
        · exact c
        · have h1 := hxy.out.1
          have h2 := Hle.out
          rw [show K - k = 0 from by omega, Nat.pow_zero, Nat.mul_one] at h1
          omega
      have hd : (x : Int) * 2 = ((x * 2 : Nat) : Int) := by omega
      have HN : Hid (x * 2 * 2 ^ (K - (k + 1)) = Y ∧ x * 2 ≠ 0 ∧ x * 2 ≤ Y ∧ x < x * 2) := by
        have e := hxy.out.1
        have e0 := hxy.out.2
        have e2 : x * 2 * 2 ^ (K - (k + 1)) = Y := by
          rw [Nat.mul_assoc, ← Nat.pow_succ', show (K - (k + 1)).succ = K - k from by omega]
          exact e
        exact ⟨e2, by omega, by rw [← e2]; exact Nat.le_mul_of_pos_right _ (Nat.two_pow_pos _), by omega⟩
      have hx2 : x * 2 < 9007199254740992 := by omega
      clear hlt hxy hx
      generalize x * 2 = x2 at *
      go_wp2
      exact ⟨⟨x2, k + 1, by first | rfl | go_num, by go_num, by omega, HN.out.2.2.1, HN.out.1, HN.out.2.1⟩, by have h1 := HN.out; simp [Go.RowKit.intOf]; omega⟩
    · have hz : decide ((x : Int) < 4503599627370496) = false := decide_eq_false (by omega)
      have hkK : k = K := by
        rcases Nat.lt_or_ge k K with c | c
        · exfalso
          have h1 := hxy.out.1
          rw [show K - k = (K - k - 1) + 1 from by omega, Nat.pow_succ, Nat.mul_comm (2 ^ (K - k - 1)) 2, ← Nat.mul_assoc] at h1
          have h2 : x * 2 ≤ x * 2 * 2 ^ (K - k - 1) := Nat.le_mul_of_pos_right _ (Nat.two_pow_pos _)
          omega
        · omega
      subst hkK
      have hxY : x = 4503599627370496 + F := by
        have h1 := hxy.out.1
        rw [Nat.sub_self, Nat.pow_zero, Nat.mul_one] at h1
        rw [h1]; exact HY.out.2
      clear hlt hxy hx hk Hm HY Hle hYl
      have hand := and_frac x (by omega)
      rw [show x % 4503599627370496 = F from by omega] at hand
      have hx64 : x < 18446744073709551616 := by omega
      clear hxY
      have a1 := fun w => add_list ([45] : List UInt8) [48, 120, 49] (by decide) w
      have a2 := fun w => add_list (([45] : List UInt8) ++ [48, 120, 49]) [46] (by decide) w
      have hFz : ((F : Int) != 0) = true := by rw [bne_iff_ne]; omega
      have hFy : ((F : Int) == 0) = false := by rw [beq_eq_false_iff_ne]; omega
      have hS2 : (([45] : List UInt8) ++ [48, 120, 49] ++ [46]).length ≤ 10 := by decide
      generalize ([45] : List UInt8) ++ [48, 120, 49] ++ [46] = S2 at *
      generalize ([45] : List UInt8) ++ [48, 120, 49] = S1 at *
      clear hF
      go_wp2
      clear a1 a2 hFz hFy hz
      have HF : Hid (F * 4096 < 18446744073709551616) := by show F * 4096 < 18446744073709551616; omega
      go_loop [3, 6, 7] (fun vs vf _ => ∃ k' f' : Nat, ∃ ds : List UInt8, vs = .string ⟨(S2 ++ ds).toArray⟩ ∧ vf = .int .u64 (f' : Int) ∧ k' ≤ 16 ∧ ds.length = k' ∧ f' < 4503599627370496 ∧ Hid (f' * 4096 = F * 4096 * 16 ^ k' % 18446744073709551616 ∧ ds ++ hexs (16 - k') (f' * 4096) = hexs 16 (F * 4096))) (fun vs _ _ => 40 - lenT vs)
      case atStart => exact ⟨0, F, [], by first | rfl | (rw [List.append_nil]), rfl, by omega, rfl, by omega, by rw [Nat.pow_zero, Nat.mul_one, Nat.mod_eq_of_lt HF.out], rfl⟩
      case round =>
        rename_i vd
        obtain ⟨k', f', ds, rfl, rfl, hk', hds, hf', hinv⟩ := hrel
        by_cases hf0 : f' = 0
        · subst hf0
          have hdse : ds = hexs 16 (F * 4096) := by
            have := hinv.out.2
            rw [Nat.zero_mul, hexs_zero, List.append_nil] at this
            exact this
          have HE0 : Hid (S2 ++ ds ++ [112] ++ Lib.itoa (p - (k : Int) + 52) = FIN) := by
            show _ = _
            rw [hdse]
            exact HFIN.out
          clear hinv hdse HF HFIN
          have a3 := fun w => add_list (S2 ++ ds) [112] (by rw [List.length_append, List.length_singleton]; omega) w
          by_cases hneg : p - (k : Int) + 52 < 0
          · have hnz : decide (p - (k : Int) + 52 < 0) = true := decide_eq_true hneg
            obtain ⟨n, hn⟩ : ∃ n : Nat, -(p - (k : Int) + 52) = (n : Int) := ⟨(-(p - (k : Int) + 52)).toNat, by omega⟩
            have hn1 : n < 1200 ∧ 0 < n := by omega
            have cD := fun w => qDecimal 3 n (by omega) hn1.1 w
            have hil := Lib.itoa_length_le (n : Int) (by omega) (by omega)
            have a4 := fun w => add_list (S2 ++ ds ++ [112]) [45] (by simp only [List.length_append, List.length_singleton]; omega) w
            have a5 := fun w => add_list (S2 ++ ds ++ [112] ++ [45]) (Lib.itoa (n : Int)) (by simp only [List.length_append, List.length_singleton]; omega) w
            have HE : Hid (S2 ++ ds ++ [112] ++ [45] ++ Lib.itoa (n : Int) = FIN) := by
              show _ = _
              rw [← HE0.out, show p - (k : Int) + 52 = -(n : Int) from by omega, itoa_neg n hn1.2 hn1.1]
              simp
            clear HE0 hil hneg hn1
            generalize S2 ++ ds ++ [112] ++ [45] ++ Lib.itoa (n : Int) = T5 at *
            generalize Lib.itoa (n : Int) = T0 at *
            generalize S2 ++ ds ++ [112] ++ [45] = T4 at *
            generalize S2 ++ ds ++ [112] = T3 at *
            generalize S2 ++ ds = T2 at *
            go_wp2_with fail
            refine (cD _).mono ?_
            rintro e9 w9 ⟨rfl, q9, rfl⟩
            go_wp2
            go_ret
            exact ⟨by rw [HE.out]; rfl, _, rfl⟩
          · have hnz : decide (p - (k : Int) + 52 < 0) = false := decide_eq_false hneg
            obtain ⟨n, hn⟩ : ∃ n : Nat, p - (k : Int) + 52 = (n : Int) := ⟨(p - (k : Int) + 52).toNat, by omega⟩
            have hn1 : n < 1200 := by omega
            have HE : Hid (S2 ++ ds ++ [112] ++ Lib.itoa (n : Int) = FIN) := by
              show _ = _
              rw [← HE0.out, hn]
            have cD := fun w => qDecimal 3 n (by omega) hn1 w
            have hil := Lib.itoa_length_le (n : Int) (by omega) (by omega)
            have a4 := fun w => add_list (S2 ++ ds ++ [112]) (Lib.itoa (n : Int)) (by simp only [List.length_append, List.length_singleton]; omega) w
            clear HE0 hil hneg hn1
            generalize S2 ++ ds ++ [112] ++ Lib.itoa (n : Int) = T5 at *
            generalize Lib.itoa (n : Int) = T0 at *
            generalize S2 ++ ds ++ [112] = T3 at *
            generalize S2 ++ ds = T2 at *
            go_wp2_with fail
            refine (cD _).mono ?_
            rintro e9 w9 ⟨rfl, q9, rfl⟩
            go_wp2
            go_ret
            exact ⟨by rw [HE.out]; rfl, _, rfl⟩
        · have hfz : ((f' : Int) != 0) = true := by rw [bne_iff_ne]; omega
          have hfy : ((f' : Int) == 0) = false := by rw [beq_eq_false_iff_ne]; omega
          have hkl : k' < 16 := by
            rcases Nat.lt_or_ge k' 16 with c | c
            · exact c
            · have h1 := hinv.out.1
              rw [show k' = 16 from by omega, pow16] at h1
              omega
          obtain ⟨d, hd⟩ : ∃ d, f' / 281474976710656 = d := ⟨_, rfl⟩
          have hd16 : d < 16 := by omega
          have hdz : (f' : Int) / 281474976710656 = (d : Int) := by omega
          obtain ⟨y, hy⟩ : ∃ y, f' * 16 % 4503599627370496 = y := ⟨_, rfl⟩
          have hy2 : bits .and .u64 ((f' * 16 : Nat) : Int) 4503599627370495 = (y : Int) := by rw [and_frac (f' * 16) (by omega), hy]
          have hf16 : (f' : Int) * 16 = ((f' * 16 : Nat) : Int) := by omega
          have hf16l : f' * 16 < 18446744073709551616 := by omega
          have hyl : y < 4503599627370496 := by omega
          have hcut := hex_cut1 d hd16
          have hsz : hexText.size = 16 := rfl
          have ha := fun w => add_list (S2 ++ ds) [hxd d] (by rw [List.length_append, List.length_singleton]; omega) w
          have HN : Hid (y * 4096 = F * 4096 * 16 ^ (k' + 1) % 18446744073709551616 ∧ (ds ++ [hxd d]) ++ hexs (16 - (k' + 1)) (y * 4096) = hexs 16 (F * 4096)) := by
            obtain ⟨h1, h2⟩ := hinv.out
            have e1 : f' * 4096 * 16 % 18446744073709551616 = y * 4096 := by omega
            refine ⟨?_, ?_⟩
            · rw [← e1, h1, Nat.mod_mul_mod, Nat.mul_assoc (F * 4096), ← Nat.pow_succ]
            · rw [show 16 - k' = (16 - (k' + 1)) + 1 from by omega] at h2
              unfold hexs at h2
              rw [if_neg (by omega), e1, show f' * 4096 / 1152921504606846976 = d from by omega] at h2
              rw [List.append_assoc]
              exact h2
          have HL : Hid (S2 ++ (ds ++ [hxd d]) = S2 ++ ds ++ [hxd d]) := by show _ = _; rw [List.append_assoc]
          have hlen : (S2 ++ ds).length = S2.length + k' := by rw [List.length_append, hds]
          clear hinv hd hy hf0
          generalize f' * 16 = f16 at *
          obtain ⟨T3, hT3⟩ : ∃ T3, S2 ++ ds ++ [hxd d] = T3 := ⟨_, rfl⟩
          rw [hT3] at ha HL
          have HT3 : Hid (T3.length = S2.length + k' + 1) := by show T3.length = _; rw [← hT3, List.length_append, hlen]; rfl
          clear hT3
          generalize hT2 : S2 ++ ds = T2 at *
          go_wp2
          exact ⟨⟨k' + 1, y, ds ++ [hxd d], by rw [HL.out], by first | rfl | go_num, by omega, by rw [List.length_append, hds]; rfl, hyl, HN.out⟩, by have h3 := HT3.out; simp only [lenT, ByteArray.size, List.size_toArray]; omega⟩
set_option maxRecDepth 100000 in
set_option maxHeartbeats 1000000 in
theorem pr_11 (b cl m0 K Y F : Nat) (p : Int) (w : World) (hp1 : -1074 ≤ p) (hp2 : p ≤ 971) (hK : K ≤ 53) (hY : m0 * 2 ^ K = Y) (hYF : Y = 4503599627370496 + F) (hFl : F < 4503599627370496) (hF : F = 0)
    (k1 : ((cl : Int) == 1) = false) (k2 : ((cl : Int) == 2) = false) (k3 : ((cl : Int) == 3) = false)
    (cS : ∀ w, Calls Tryz.prog 32 #[.float .f64 b] w fun e w' => e = .returned (.bool true) ∧ w' = w) (cC : ∀ w, Calls Tryz.prog 70 #[.float .f64 b] w fun e w' => e = .returned (.int .i64 (cl : Int)) ∧ w' = w)
    (cP : ∀ w, Calls Tryz.prog 30 #[.float .f64 b] w fun e w' => e = .returned (.tuple #[.int .u64 (m0 : Int), .int .i64 p]) ∧ w' = w) :
    Calls Tryz.prog 46 #[.float .f64 b] w fun e w' => e = .returned (.string ⟨(([45] : List UInt8) ++ [48, 120, 49] ++ fracB (F * 4096) ++ [112] ++ Lib.itoa (p - (K : Int) + 52)).toArray⟩) ∧ ∃ q, w' = w.drewN q := by
  have mixed := mixed_ok
  have Hk : Hid (((cl : Int) == 1) = false ∧ ((cl : Int) == 2) = false ∧ ((cl : Int) == 3) = false) := ⟨k1, k2, k3⟩
  have HY : Hid (m0 * 2 ^ K = Y ∧ Y = 4503599627370496 + F) := ⟨hY, hYF⟩
  have Hm : Hid (m0 ≤ Y) := by show m0 ≤ Y; rw [← hY]; exact Nat.le_mul_of_pos_right _ (Nat.two_pow_pos K)
  have hYl : Y < 9007199254740992 := by omega
  have Hle : Hid (4503599627370496 ≤ Y) := by show 4503599627370496 ≤ Y; omega
  clear hY hYF
  subst hF
  obtain ⟨FIN, hFIN⟩ : ∃ FIN, ([45] : List UInt8) ++ [48, 120, 49] ++ fracB (0 * 4096) ++ [112] ++ Lib.itoa (p - (K : Int) + 52) = FIN := ⟨_, rfl⟩
  rw [hFIN]
  have HFIN : Hid (([45] : List UInt8) ++ [48, 120, 49] ++ hexs 16 (0 * 4096) ++ [112] ++ Lib.itoa (p - (K : Int) + 52) = FIN) := by
    show _ = _
    rw [← hFIN]
    rfl
  clear hFIN
  go_enter Tryz.func46, Tryz.ntmps46
  go_wp2_with (first | (go_at_call 32; refine (cS _).mono ?_; rintro e w' ⟨rfl, hw⟩; obtain rfl := hw.symm) | (go_at_call 70; refine (cC _).mono ?_; rintro e w' ⟨rfl, hw⟩; obtain rfl := hw.symm) | (go_at_call 30; refine (cP _).mono ?_; rintro e w' ⟨rfl, hw⟩; obtain rfl := hw.symm))
  go_loop [4, 5] (fun vm ve => ∃ x k : Nat, vm = .int .u64 (x : Int) ∧ ve = .int .i64 (p - (k : Int)) ∧ k ≤ K ∧ x ≤ Y ∧ Hid (x * 2 ^ (K - k) = Y ∧ x ≠ 0)) (fun vm _ => Y - (Go.RowKit.intOf vm).toNat)
  case atStart => exact ⟨m0, 0, rfl, by simp, by omega, Hm.out, by rw [Nat.sub_zero]; exact HY.out.1, fun e => by have h1 := HY.out; have h2 := Hle.out; rw [e, Nat.zero_mul] at h1; omega⟩
  case round =>
    obtain ⟨x, k, rfl, rfl, hk, hx, hxy⟩ := hrel
    by_cases hlt : x < 4503599627370496
    · have hz : decide ((x : Int) < 4503599627370496) = true := decide_eq_true (by omega)
      have hkK : k < K := by
        rcases Nat.lt_or_ge k K with c | c
        · exact c
        · have h1 := hxy.out.1
          have h2 := Hle.out
          rw [show K - k = 0 from by omega, Nat.pow_zero, Nat.mul_one] at h1
          omega
      have hd : (x : Int) * 2 = ((x * 2 : Nat) : Int) := by omega
      have HN : Hid (x * 2 * 2 ^ (K - (k + 1)) = Y ∧ x * 2 ≠ 0 ∧ x * 2 ≤ Y ∧ x < x * 2) := by
        have e := hxy.out.1
        have e0 := hxy.out.2
        have e2 : x * 2 * 2 ^ (K - (k + 1)) = Y := by
          rw [Nat.mul_assoc, ← Nat.pow_succ', show (K - (k + 1)).succ = K - k from by omega]
          exact e
        exact ⟨e2, by omega, by rw [← e2]; exact Nat.le_mul_of_pos_right _ (Nat.two_pow_pos _), by omega⟩
      have hx2 : x * 2 < 9007199254740992 := by omega
      clear hlt hxy hx
      generalize x * 2 = x2 at *
      go_wp2
      exact ⟨⟨x2, k + 1, by first | rfl | go_num, by go_num, by omega, HN.out.2.2.1, HN.out.1, HN.out.2.1⟩, by have h1 := HN.out; simp [Go.RowKit.intOf]; omega⟩
    · have hz : decide ((x : Int) < 4503599627370496) = false := decide_eq_false (by omega)
      have hkK : k = K := by
        rcases Nat.lt_or_ge k K with c | c
        · exfalso
          have h1 := hxy.out.1
          rw [show K - k = (K - k - 1) + 1 from by omega, Nat.pow_succ, Nat.mul_comm (2 ^ (K - k - 1)) 2, ← Nat.mul_assoc] at h1
          have h2 : x * 2 ≤ x * 2 * 2 ^ (K - k - 1) := Nat.le_mul_of_pos_right _ (Nat.two_pow_pos _)
          omega
        · omega
      subst hkK
      have hxY : x = 4503599627370496 + 0 := by
        have h1 := hxy.out.1
        rw [Nat.sub_self, Nat.pow_zero, Nat.mul_one] at h1
        rw [h1]; exact HY.out.2
      clear hlt hxy hx hk Hm HY Hle hYl
      have hand := and_frac x (by omega)
      rw [show x % 4503599627370496 = 0 from by omega] at hand
      have hx64 : x < 18446744073709551616 := by omega
      clear hxY
      have a1 := fun w => add_list ([45] : List UInt8) [48, 120, 49] (by decide) w
      have hfr : fracB (0 * 4096) = [] := rfl
      have hS2 : (([45] : List UInt8) ++ [48, 120, 49]).length ≤ 10 := by decide
      generalize ([45] : List UInt8) ++ [48, 120, 49] = S2 at *
      clear hfr
      go_wp2
      clear a1 hz hand hx64 hFl k1 k2 k3 Hk
      have HF : Hid (0 * 4096 < 18446744073709551616) := by show 0 * 4096 < 18446744073709551616; omega
      go_loop [3, 6, 7] (fun vs vf _ => ∃ k' f' : Nat, ∃ ds : List UInt8, vs = .string ⟨(S2 ++ ds).toArray⟩ ∧ vf = .int .u64 (f' : Int) ∧ k' ≤ 16 ∧ ds.length = k' ∧ f' < 4503599627370496 ∧ Hid (f' * 4096 = 0 * 4096 * 16 ^ k' % 18446744073709551616 ∧ ds ++ hexs (16 - k') (f' * 4096) = hexs 16 (0 * 4096))) (fun vs _ _ => 40 - lenT vs)
      case atStart => exact ⟨0, 0, [], by first | rfl | (rw [List.append_nil]), rfl, by omega, rfl, by omega, by rw [Nat.pow_zero, Nat.mul_one, Nat.mod_eq_of_lt HF.out], rfl⟩
      case round =>
        rename_i vd
        obtain ⟨k', f', ds, rfl, rfl, hk', hds, hf', hinv⟩ := hrel
        by_cases hf0 : f' = 0
        · subst hf0
          have hdse : ds = hexs 16 (0 * 4096) := by
            have := hinv.out.2
            rw [Nat.zero_mul, hexs_zero, List.append_nil] at this
            exact this
          have HE0 : Hid (S2 ++ ds ++ [112] ++ Lib.itoa (p - (k : Int) + 52) = FIN) := by
            show _ = _
            rw [hdse]
            exact HFIN.out
          clear hinv hdse HF HFIN
          have a3 := fun w => add_list (S2 ++ ds) [112] (by rw [List.length_append, List.length_singleton]; omega) w
          by_cases hneg : p - (k : Int) + 52 < 0
          · have hnz : decide (p - (k : Int) + 52 < 0) = true := decide_eq_true hneg
            obtain ⟨n, hn⟩ : ∃ n : Nat, -(p - (k : Int) + 52) = (n : Int) := ⟨(-(p - (k : Int) + 52)).toNat, by omega⟩
            have hn1 : n < 1200 ∧ 0 < n := by omega
            have cD := fun w => qDecimal 3 n (by omega) hn1.1 w
            have hil := Lib.itoa_length_le (n : Int) (by omega) (by omega)
            have a4 := fun w => add_list (S2 ++ ds ++ [112]) [45] (by simp only [List.length_append, List.length_singleton]; omega) w
            have a5 := fun w => add_list (S2 ++ ds ++ [112] ++ [45]) (Lib.itoa (n : Int)) (by simp only [List.length_append, List.length_singleton]; omega) w
            have HE : Hid (S2 ++ ds ++ [112] ++ [45] ++ Lib.itoa (n : Int) = FIN) := by
              show _ = _
              rw [← HE0.out, show p - (k : Int) + 52 = -(n : Int) from by omega, itoa_neg n hn1.2 hn1.1]
              simp
            clear HE0 hil hneg hn1
            generalize S2 ++ ds ++ [112] ++ [45] ++ Lib.itoa (n : Int) = T5 at *
            generalize Lib.itoa (n : Int) = T0 at *
            generalize S2 ++ ds ++ [112] ++ [45] = T4 at *
            generalize S2 ++ ds ++ [112] = T3 at *
            generalize S2 ++ ds = T2 at *
            go_wp2_with fail
            refine (cD _).mono ?_
            rintro e9 w9 ⟨rfl, q9, rfl⟩
            go_wp2
            go_ret
            exact ⟨by rw [HE.out]; rfl, _, rfl⟩
          · have hnz : decide (p - (k : Int) + 52 < 0) = false := decide_eq_false hneg
            obtain ⟨n, hn⟩ : ∃ n : Nat, p - (k : Int) + 52 = (n : Int) := ⟨(p - (k : Int) + 52).toNat, by omega⟩
            have hn1 : n < 1200 := by omega
            have HE : Hid (S2 ++ ds ++ [112] ++ Lib.itoa (n : Int) = FIN) := by
              show _ = _
              rw [← HE0.out, hn]
            have cD := fun w => qDecimal 3 n (by omega) hn1 w
            have hil := Lib.itoa_length_le (n : Int) (by omega) (by omega)
            have a4 := fun w => add_list (S2 ++ ds ++ [112]) (Lib.itoa (n : Int)) (by simp only [List.length_append, List.length_singleton]; omega) w
            clear HE0 hil hneg hn1
            generalize S2 ++ ds ++ [112] ++ Lib.itoa (n : Int) = T5 at *
            generalize Lib.itoa (n : Int) = T0 at *
            generalize S2 ++ ds ++ [112] = T3 at *
            generalize S2 ++ ds = T2 at *
            go_wp2_with fail
            refine (cD _).mono ?_
            rintro e9 w9 ⟨rfl, q9, rfl⟩
            go_wp2
            go_ret
            exact ⟨by rw [HE.out]; rfl, _, rfl⟩
        · have hfz : ((f' : Int) != 0) = true := by rw [bne_iff_ne]; omega
          have hfy : ((f' : Int) == 0) = false := by rw [beq_eq_false_iff_ne]; omega
          have hkl : k' < 16 := by
            rcases Nat.lt_or_ge k' 16 with c | c
            · exact c
            · have h1 := hinv.out.1
              rw [show k' = 16 from by omega, pow16] at h1
              omega
          obtain ⟨d, hd⟩ : ∃ d, f' / 281474976710656 = d := ⟨_, rfl⟩
          have hd16 : d < 16 := by omega
          have hdz : (f' : Int) / 281474976710656 = (d : Int) := by omega
          obtain ⟨y, hy⟩ : ∃ y, f' * 16 % 4503599627370496 = y := ⟨_, rfl⟩
          have hy2 : bits .and .u64 ((f' * 16 : Nat) : Int) 4503599627370495 = (y : Int) := by rw [and_frac (f' * 16) (by omega), hy]
          have hf16 : (f' : Int) * 16 = ((f' * 16 : Nat) : Int) := by omega
          have hf16l : f' * 16 < 18446744073709551616 := by omega
          have hyl : y < 4503599627370496 := by omega
          have hcut := hex_cut1 d hd16
          have hsz : hexText.size = 16 := rfl
          have ha := fun w => add_list (S2 ++ ds) [hxd d] (by rw [List.length_append, List.length_singleton]; omega) w
          have HN : Hid (y * 4096 = 0 * 4096 * 16 ^ (k' + 1) % 18446744073709551616 ∧ (ds ++ [hxd d]) ++ hexs (16 - (k' + 1)) (y * 4096) = hexs 16 (0 * 4096)) := by
            obtain ⟨h1, h2⟩ := hinv.out
            have e1 : f' * 4096 * 16 % 18446744073709551616 = y * 4096 := by omega
            refine ⟨?_, ?_⟩
            · rw [← e1, h1, Nat.mod_mul_mod, Nat.mul_assoc (0 * 4096), ← Nat.pow_succ]
            · rw [show 16 - k' = (16 - (k' + 1)) + 1 from by omega] at h2
              unfold hexs at h2
              rw [if_neg (by omega), e1, show f' * 4096 / 1152921504606846976 = d from by omega] at h2
              rw [List.append_assoc]
              exact h2
          have HL : Hid (S2 ++ (ds ++ [hxd d]) = S2 ++ ds ++ [hxd d]) := by show _ = _; rw [List.append_assoc]
          have hlen : (S2 ++ ds).length = S2.length + k' := by rw [List.length_append, hds]
          clear hinv hd hy hf0
          generalize f' * 16 = f16 at *
          obtain ⟨T3, hT3⟩ : ∃ T3, S2 ++ ds ++ [hxd d] = T3 := ⟨_, rfl⟩
          rw [hT3] at ha HL
          have HT3 : Hid (T3.length = S2.length + k' + 1) := by show T3.length = _; rw [← hT3, List.length_append, hlen]; rfl
          clear hT3
          generalize hT2 : S2 ++ ds = T2 at *
          go_wp2
          exact ⟨⟨k' + 1, y, ds ++ [hxd d], by rw [HL.out], by first | rfl | go_num, by omega, by rw [List.length_append, hds]; rfl, hyl, HN.out⟩, by have h3 := HT3.out; simp only [lenT, ByteArray.size, List.size_toArray]; omega⟩
end Go.Proofs.YtnpdfkcjjedamaaGreatDoor.Sca
