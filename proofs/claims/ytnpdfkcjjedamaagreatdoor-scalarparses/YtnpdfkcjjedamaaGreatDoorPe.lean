/- What the document's read answers: plain facts. -/
import Derived.Test.YtnpdfkcjjedamaaGreatDoorPe0
import Derived.Test.YtnpdfkcjjedamaaGreatDoorBb
namespace Go.Proofs.YtnpdfkcjjedamaaGreatDoor.Sca
open Go.RowKit Go.Lib Go.Shelf Go.Proofs.YtnpdfkcjjedamaaGreatDoor.Oct

theorem g1_p (r : List UInt8) (n m k : Nat) : g1 (112 :: r) n m k = (112 :: r, m, k) := by
  cases n with
  | zero => rfl
  | succ n => unfold g1; rw [if_pos rfl]
theorem g1_hexs : ∀ (f b n a k : Nat) (r : List UInt8), b < 18446744073709551616 → b * 16 ^ f % 18446744073709551616 = 0 → (hexs f b).length ≤ n → (a + 1) * 16 ^ (hexs f b).length ≤ 18446744073709551616 →
    ∃ v, g1 (hexs f b ++ 112 :: r) n a k = (112 :: r, a * 16 ^ (hexs f b).length + v, k + (hexs f b).length) ∧ v * 18446744073709551616 = b * 16 ^ (hexs f b).length
  | 0, b, n, a, k, r, hb, h0, _, _ => by
    rw [Nat.pow_zero, Nat.mul_one, Nat.mod_eq_of_lt hb] at h0
    subst h0
    refine ⟨0, ?_, by omega⟩
    show g1 (112 :: r) n a k = (112 :: r, a * 16 ^ 0 + 0, k + 0)
    rw [g1_p, Nat.pow_zero, Nat.mul_one]; rfl
  | f + 1, b, n, a, k, r, hb, h0, hn, hl => by
    unfold hexs at hl hn ⊢
    by_cases c : b = 0
    · rw [if_pos c]
      refine ⟨0, ?_, by rw [c, Nat.zero_mul, Nat.zero_mul]⟩
      show g1 (112 :: r) n a k = (112 :: r, a * 16 ^ 0 + 0, k + 0)
      rw [g1_p, Nat.pow_zero, Nat.mul_one]; rfl
    · rw [if_neg c] at hl hn ⊢
      have hd : b / 1152921504606846976 < 16 := by omega
      obtain ⟨e1, e2, e3⟩ := dz_fin ⟨_, hd⟩
      have e1' : dz (hxd (b / 1152921504606846976)).toNat = b / 1152921504606846976 := e1
      rw [List.length_cons] at hn
      rw [List.length_cons, Nat.pow_succ] at hl ⊢
      have h0' : b * 16 % 18446744073709551616 * 16 ^ f % 18446744073709551616 = 0 := by
        rw [Nat.mod_mul_mod, Nat.mul_assoc, ← Nat.pow_succ']
        exact h0
      have hk : 0 < 16 ^ (hexs f (b * 16 % 18446744073709551616)).length := Nat.pow_pos (by decide)
      have hsplit : b * 16 = b / 1152921504606846976 * 18446744073709551616 + b * 16 % 18446744073709551616 := by omega
      have IH := g1_hexs f (b * 16 % 18446744073709551616) (n - 1) (a * 16 + b / 1152921504606846976) (k + 1) r (Nat.mod_lt _ (by decide)) h0' (by omega)
      obtain ⟨n', rfl⟩ : ∃ n', n = n' + 1 := ⟨n - 1, by omega⟩
      rw [Nat.add_sub_cancel] at IH
      generalize (hexs f (b * 16 % 18446744073709551616)).length = j at *
      generalize hexs f (b * 16 % 18446744073709551616) = rr at *
      generalize b * 16 % 18446744073709551616 = b' at *
      generalize b / 1152921504606846976 = d at *
      generalize 16 ^ j = P at *
      have hl2 : (a + 1) * 16 * P ≤ 18446744073709551616 := by rw [Nat.mul_assoc, Nat.mul_comm 16 P]; exact hl
      have hl3 : (a * 16 + d + 1) * P ≤ 18446744073709551616 := Nat.le_trans (Nat.mul_le_mul_right _ (by omega)) hl2
      have ha : (a + 1) * 16 ≤ 18446744073709551616 := Nat.le_trans (Nat.le_mul_of_pos_right _ hk) hl2
      obtain ⟨v, hv1, hv2⟩ := IH hl3
      refine ⟨d * P + v, ?_, ?_⟩
      · show g1 (hxd d :: (rr ++ 112 :: r)) (n' + 1) a k = _
        unfold g1
        rw [if_neg e2, if_neg e3, e1', Nat.mod_eq_of_lt (by omega), hv1]
        rw [Nat.add_mul, Nat.add_assoc, Nat.mul_assoc a 16 P, Nat.mul_comm 16 P, Nat.add_assoc k 1 j, Nat.add_comm 1 j]
      · rw [Nat.mul_comm P 16, ← Nat.mul_assoc, hsplit, Nat.add_mul, Nat.add_mul, hv2, Nat.mul_right_comm d P]
theorem g1_frac (fr : Nat) (r : List UInt8) (hf : fr < 18446744073709551616) (h13 : fr * 16 ^ 13 % 18446744073709551616 = 0) :
    ∃ k v : Nat, k ≤ 13 ∧ v * 18446744073709551616 = fr * 16 ^ k ∧ g1 (fracB fr ++ 112 :: r) 15 1 0 = (112 :: r, 16 ^ k + v, k) := by
  have hk := hexs_short 16 fr 13 hf h13
  have hle : 16 ^ (hexs 16 fr).length ≤ 16 ^ 13 := Nat.pow_le_pow_right (by decide) hk
  unfold fracB
  by_cases c : fr = 0
  · rw [if_pos c]
    exact ⟨0, 0, by omega, by rw [c], g1_p _ _ _ _⟩
  · rw [if_neg c]
    obtain ⟨v, hv1, hv2⟩ := g1_hexs 16 fr 14 1 0 r hf (pow16 fr) (by omega) (by omega)
    refine ⟨(hexs 16 fr).length, v, hk, hv2, ?_⟩
    show g1 (46 :: (hexs 16 fr ++ 112 :: r)) 15 1 0 = _
    unfold g1
    rw [if_neg (by decide), if_pos rfl, hv1, Nat.one_mul, Nat.zero_add]
set_option maxRecDepth 100000 in
theorem expo_fin : ∀ k : Fin 2300, expo (Lib.itoa ((k.val : Int) - 1150)) = (k.val : Int) - 1150 := by decide +kernel
theorem expo_itoa (e : Int) (h1 : -1150 ≤ e) (h2 : e < 1150) : expo (Lib.itoa e) = e := by
  have := expo_fin ⟨(e + 1150).toNat, by omega⟩
  rw [show (((e + 1150).toNat : Nat) : Int) - 1150 = e from by omega] at this
  exact this
set_option maxRecDepth 100000 in
theorem itoa_fin : ∀ k : Fin 2300, 1 ≤ (Lib.itoa ((k.val : Int) - 1150)).length := by decide +kernel
theorem itoa_pos (e : Int) (h1 : -1150 ≤ e) (h2 : e < 1150) : 1 ≤ (Lib.itoa e).length := by
  have := itoa_fin ⟨(e + 1150).toNat, by omega⟩
  rw [show (((e + 1150).toNat : Nat) : Int) - 1150 = e from by omega] at this
  exact this
/-- A number's text, read by the document. -/
theorem rdX_txt (fr : Nat) (hf : fr < 18446744073709551616) (h13 : fr * 16 ^ 13 % 18446744073709551616 = 0) (pw : Int) (h1 : -1150 ≤ pw) (h2 : pw < 1150) :
    ∃ k v : Nat, k ≤ 13 ∧ v * 18446744073709551616 = fr * 16 ^ k ∧ rdX ([48, 120, 49] ++ fracB fr ++ [112] ++ Lib.itoa pw) = rung (16 ^ k + v) (pw - 4 * (k : Int)) := by
  obtain ⟨k, v, hk, hv, hg⟩ := g1_frac fr (Lib.itoa pw) hf h13
  have hi := itoa_pos pw h1 h2
  refine ⟨k, v, hk, hv, ?_⟩
  have e1 : [48, 120, 49] ++ fracB fr ++ [112] ++ Lib.itoa pw = 48 :: 120 :: 49 :: (fracB fr ++ 112 :: Lib.itoa pw) := by simp
  rw [e1]
  unfold rdX
  rw [if_neg (by simp), if_pos ⟨by simp only [List.length_cons, List.length_append]; omega, rfl⟩]
  unfold rdT
  rw [show (48 :: 120 :: 49 :: (fracB fr ++ 112 :: Lib.itoa pw)).drop 3 = fracB fr ++ 112 :: Lib.itoa pw from rfl, hg]
  show rung (16 ^ k + v) (-(4 * (k : Int)) + expo (Lib.itoa pw)) = _
  rw [expo_itoa pw h1 h2, show -(4 * (k : Int)) + pw = pw - 4 * (k : Int) by omega]
theorem rdQ_num (b : Nat) (hb : b < 18446744073709551616) (h : mg b < 9218868437227405312) (h0 : mg b ≠ 0) : rdQ (numB b) = b := by
  have hm0 : mOf b ≠ 0 := fun e => h0 ((mOf_zero b).1 e)
  have hm := mOf_lt b
  obtain ⟨ho1, ho2⟩ := odd_mul (mOf b) hm0 (by omega)
  have hol := odd_le (mOf b)
  have hM0 : odd (mOf b) ≠ 0 := by omega
  obtain ⟨fr, hfr, hf1, hf2, hf3⟩ := fr_spec (odd (mOf b)) hM0 (by omega)
  have hbl : bl (odd (mOf b)) ≤ 53 := bl_lt (show odd (mOf b) < 2 ^ 53 by omega)
  obtain ⟨_, _, hbl1⟩ := bl_bounds (odd (mOf b)) hM0
  have hE : slE b = spE b := by unfold slE; rw [if_pos h]
  have hbd := slE_bd b
  rw [hE] at hbd
  have hsE : spE b = pOf b + (tz (mOf b) : Int) := by unfold spE; rw [if_neg h0]
  have hz := (tz_spec (mOf b) hm0 (by omega)).2
  have hpo : pOf b ≤ 971 := by unfold pOf; omega
  have hpw : pwB b = spE b + (bl (odd (mOf b)) : Int) - 1 := rfl
  obtain ⟨k, v, hk, hv, hr⟩ := rdX_txt fr hf1 hf3 (pwB b) (by omega) (by omega)
  have hdig := digits_eq (odd (mOf b)) fr k v hM0 (by omega) hf2 hv
  have hru : rung (16 ^ k + v) (pwB b - 4 * (k : Int)) = mg b := by
    rw [← rung_scale (16 ^ k + v) (bl (odd (mOf b)) - 1), hdig, show pwB b - 4 * (k : Int) - ((bl (odd (mOf b)) - 1 : Nat) : Int) = spE b - ((4 * k : Nat) : Int) from by omega, rung_scale, ← rung_scale (odd (mOf b)) (tz (mOf b)), ho1, hsE, show pOf b + (tz (mOf b) : Int) - (tz (mOf b) : Int) = pOf b from by omega]
    exact rung_read b h
  have hsum := mg_sb b
  unfold numB mnsB
  rw [show frB b = fr from hfr, can_fin b h]
  rcases sb_eq b hb with hs | hs
  · rw [hs, if_neg (fun e => e rfl)]
    unfold rdQ rdS
    rw [List.nil_append, if_neg (by simp), if_neg (by simp), hr, hru]
    show mg b + 0 = b
    omega
  · rw [hs, if_pos (by decide)]
    unfold rdQ rdS
    rw [if_pos (by simp), show (([45] ++ [48, 120, 49] ++ fracB fr ++ [112] ++ Lib.itoa (pwB b) : List UInt8)).drop 1 = [48, 120, 49] ++ fracB fr ++ [112] ++ Lib.itoa (pwB b) from by simp, if_neg (by simp), hr, hru]
    show mg b + 9223372036854775808 = b
    omega
theorem rdQ_back (b : Nat) (hb : b < 18446744073709551616) : rdQ (prB b) = can b := by
  have hsum := mg_sb b
  have hse := sb_eq b hb
  unfold prB
  by_cases h1 : 9218868437227405312 < mg b
  · rw [if_pos h1, can_nan b h1]; rfl
  · rw [if_neg h1, can_num b h1]
    by_cases h2 : mg b = 9218868437227405312
    · rw [if_pos h2]
      unfold mnsB
      rw [can_num b h1]
      rcases hse with hs | hs
      · rw [hs, if_neg (fun e => e rfl), show b = 9218868437227405312 from by omega]; rfl
      · rw [hs, if_pos (by decide), show b = 18442240474082181120 from by omega]; rfl
    · rw [if_neg h2]
      by_cases h3 : mg b = 0
      · rw [if_pos h3]
        unfold mnsB
        rw [can_num b h1]
        rcases hse with hs | hs
        · rw [hs, if_neg (fun e => e rfl), show b = 0 from by omega]; rfl
        · rw [hs, if_pos (by decide), show b = 9223372036854775808 from by omega]; rfl
      · rw [if_neg h3]
        exact rdQ_num b hb (by omega) h3
end Go.Proofs.YtnpdfkcjjedamaaGreatDoor.Sca
