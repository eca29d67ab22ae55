/- What Print writes, the document's Parse reads. -/
import Derived.Test.YthpkmbgollollaaDoorIh
namespace Go.Proofs.YthpkmbgollollaaDoor.Dy
open Go.RowKit Go.Lib Go.Shelf Go.Proofs.YthpkmbgollollaaDoor.Sca

theorem nDig_le {u : Nat} (h : u < 9223372036854775808) : Lib.nDigits u ≤ 19 := by
  by_cases h1 : 1 ≤ u
  · have := Lib.numDigits_eq u h1 (by omega)
    have hp := Lib.lt_pow_nDigits u
    rcases Nat.lt_or_ge (Lib.nDigits u) 20 with c | c
    · omega
    · have h10 : 10 ^ (Lib.nDigits u - 1) ≤ u := by
        have h3 : ∀ n : Nat, 1 ≤ n → 10 ^ (Lib.nDigits n - 1) ≤ n := by
          intro n
          induction n using Nat.strongRecOn with
          | _ n ih =>
            intro hn
            unfold Lib.nDigits
            split
            · simpa using hn
            · rename_i hge
              have := ih (n / 10) (by omega) (by omega)
              have hnd : 1 ≤ Lib.nDigits (n / 10) := by unfold Lib.nDigits; split <;> omega
              rw [Nat.add_sub_cancel]
              have e : 10 ^ Lib.nDigits (n / 10) = 10 ^ (Lib.nDigits (n / 10) - 1) * 10 := by rw [← Nat.pow_succ]; congr 1; omega
              rw [e]
              omega
        exact h3 u h1
      have : 10 ^ 19 ≤ 10 ^ (Lib.nDigits u - 1) := Nat.pow_le_pow_right (by decide) (by omega)
      omega
  · rw [show u = 0 by omega]; decide +kernel
theorem nz_dec : ∀ (u : Nat), u < 9223372036854775808 → ∀ r : List UInt8, nz (Lib.decDigits u ++ r) 0 0 = nz r (Lib.nDigits u) (u : Int) := by
  intro u
  induction u using Nat.strongRecOn with
  | _ u ih =>
    intro hu r
    have step : ∀ (a v j : Nat), v < 10 → j ≤ 18 → a * 10 + v < 9223372036854775808 → nz (UInt8.ofNat (48 + v) :: r) j (a : Int) = nz r (j + 1) ((a * 10 + v : Nat) : Int) := by
      intro a v j hv hj hm
      have hc : (UInt8.ofNat (48 + v)).toNat = 48 + v := UInt8.toNat_ofNat_of_lt' (by show 48 + v < 256; omega)
      rw [nz, hc, if_pos (by omega), if_neg (by omega)]
      congr 1
      rw [wrapI]
      omega
    by_cases h : u < 10
    · have hn : Lib.nDigits u = 1 := by unfold Lib.nDigits; rw [dif_pos h]
      rw [Lib.decDigits_one h, List.singleton_append, hn]
      have := step 0 u 0 h (by omega) (by omega)
      rw [show 0 * 10 + u = u by omega] at this
      exact this
    · have hn : Lib.nDigits u = Lib.nDigits (u / 10) + 1 := by rw [Lib.nDigits, dif_neg h]
      have h19 := nDig_le hu
      rw [Lib.decDigits, dif_neg h, List.append_assoc, ih (u / 10) (by omega) (by omega), List.singleton_append, step (u / 10) (u % 10) _ (by omega) (by omega) (by omega), hn]
      congr 2
      omega
theorem numZ_at (a r : List UInt8) (u : Nat) (hu : u < 9223372036854775808) (hr : ∀ c r', r = c :: r' → ¬ (48 ≤ c.toNat ∧ c.toNat ≤ 57)) : numZ (a ++ (Lib.decDigits u ++ r)) a.length = some ((u : Int), a.length + (Lib.decDigits u).length) := by
  unfold numZ
  rw [List.drop_left, nz_dec u hu r]
  have hs : nz r (Lib.nDigits u) (u : Int) = some ((u : Int), Lib.nDigits u) := by
    cases r with
    | nil => rfl
    | cons c r' => rw [nz, if_neg (hr c r' rfl)]
  rw [hs]
  dsimp only
  have hn : 1 ≤ Lib.nDigits u := by unfold Lib.nDigits; split <;> omega
  rw [if_neg (by omega), Lib.decDigits_length]
theorem sgn_not (x : Int) : ¬ (48 ≤ (sgn x).toNat ∧ (sgn x).toNat ≤ 57) := by
  rcases (sgn_S x).2.1 with h | h <;> rw [h] <;> decide
theorem neg_print (d : DD) : negZ (prD d) = decide (d.re < 0) := by
  unfold negZ prD Lib.itoa
  by_cases h : d.re < 0
  · rw [if_pos h, decide_eq_true h]
    rfl
  · rw [if_neg h, decide_eq_false h]
    obtain ⟨c, r, hc, h1, h2⟩ := head_digit d.re.toNat
    rw [hc]
    apply decide_eq_false
    rw [List.cons_append, List.head?_cons]
    intro e
    injection e with e
    rw [e] at h1
    exact absurd h1 (by decide)
/-- The text, as the document's Parse goes through it. -/
theorem parsZ_print (d : DD) (h : Rt d) : parsZ (prD d) = (d, 0) := by
  have hb := h.1
  obtain ⟨S0, hS0⟩ : ∃ S0 : List UInt8, S0 = if d.re < 0 then [45] else [] := ⟨_, rfl⟩
  have hI : Lib.itoa d.re = S0 ++ Lib.decDigits d.re.natAbs := by
    rw [hS0]
    unfold Lib.itoa
    split
    · rfl
    · rename_i hn
      rw [show d.re.toNat = d.re.natAbs by omega]
      rfl
  have hlen0 : S0.length = if negZ (prD d) then 1 else 0 := by
    rw [neg_print, hS0]
    by_cases hn : d.re < 0
    · rw [if_pos hn, decide_eq_true hn]; rfl
    · rw [if_neg hn, decide_eq_false hn]; rfl
  have hl1 : prD d = S0 ++ (Lib.decDigits d.re.natAbs ++ (sgn d.im :: (Lib.decDigits d.im.natAbs ++ (105 :: low d.ex)))) := by
    unfold prD
    rw [hI, List.append_assoc]
  have hl2 : prD d = (Lib.itoa d.re ++ [sgn d.im]) ++ (Lib.decDigits d.im.natAbs ++ (105 :: low d.ex)) := by
    unfold prD
    simp
  have n1 := numZ_at S0 (sgn d.im :: (Lib.decDigits d.im.natAbs ++ (105 :: low d.ex))) d.re.natAbs (by omega) (fun c r' e => by injection e with e _; rw [← e]; exact sgn_not _)
  rw [← hl1] at n1
  have n2 := numZ_at (Lib.itoa d.re ++ [sgn d.im]) (105 :: low d.ex) d.im.natAbs (by omega) (fun c r' e => by injection e with e _; rw [← e]; decide)
  rw [← hl2] at n2
  have hk : S0.length + (Lib.decDigits d.re.natAbs).length = (Lib.itoa d.re).length := by rw [hI, List.length_append]
  rw [hk] at n1
  have hk1 : (Lib.itoa d.re ++ [sgn d.im]).length = (Lib.itoa d.re).length + 1 := by rw [List.length_append, List.length_singleton]
  rw [hk1] at n2
  have hlen : (prD d).length = (Lib.itoa d.re).length + 1 + (Lib.decDigits d.im.natAbs).length + 1 + (low d.ex).length := by
    rw [hl2]
    simp only [List.length_append, List.length_cons, List.length_nil]
    omega
  have hgd : (prD d).getD (Lib.itoa d.re).length 0 = sgn d.im := by
    unfold prD
    simp
  have hex : (exZ (prD d) ((Lib.itoa d.re).length + 1 + (Lib.decDigits d.im.natAbs).length) : Int) = d.ex := by
    unfold exZ
    by_cases he : 0 < d.ex
    · have hlow : low d.ex = 47 :: Lib.decDigits (2 ^ d.ex.toNat) := by unfold low; rw [if_pos he]
      have hlt : 2 ^ d.ex.toNat < 9223372036854775808 := Nat.lt_of_le_of_lt (Nat.pow_le_pow_right (by decide) (show d.ex.toNat ≤ 60 by omega)) (by decide)
      have hl3 : prD d = (Lib.itoa d.re ++ [sgn d.im] ++ Lib.decDigits d.im.natAbs ++ [105, 47]) ++ (Lib.decDigits (2 ^ d.ex.toNat) ++ []) := by
        rw [hl2, hlow]
        simp
      have n3 := numZ_at (Lib.itoa d.re ++ [sgn d.im] ++ Lib.decDigits d.im.natAbs ++ [105, 47]) [] (2 ^ d.ex.toNat) hlt (fun c r' e => by cases e)
      rw [← hl3] at n3
      have hl4 : (Lib.itoa d.re ++ [sgn d.im] ++ Lib.decDigits d.im.natAbs ++ [105, 47]).length = (Lib.itoa d.re).length + 1 + (Lib.decDigits d.im.natAbs).length + 2 := by
        simp only [List.length_append, List.length_cons, List.length_nil]
      rw [hl4] at n3
      rw [if_pos (by rw [hlen, hlow, List.length_cons]; omega)]
      unfold pw
      rw [n3]
      dsimp only
      rw [Int.toNat_natCast, v2_pow]
      omega
    · have hlow : low d.ex = [] := by unfold low; rw [if_neg he]
      rw [if_neg (by rw [hlen, hlow, List.length_nil]; omega)]
      omega
  unfold parsZ
  rw [← hlen0, n1]
  dsimp only
  rw [if_neg (by rw [hlen]; omega), n2]
  dsimp only
  have hd : zD (prD d) (d.re.natAbs : Int) (d.im.natAbs : Int) (Lib.itoa d.re).length ((Lib.itoa d.re).length + 1 + (Lib.decDigits d.im.natAbs).length) = d := by
    unfold zD
    rw [hex, hgd, neg_print]
    have e1 : (if decide (d.re < 0) = true then -(d.re.natAbs : Int) else (d.re.natAbs : Int)) = d.re := by
      by_cases hn : d.re < 0
      · rw [decide_eq_true hn, if_pos rfl]; omega
      · rw [decide_eq_false hn, if_neg (by decide)]; omega
    have e2 : (if sgn d.im = 45 then -(d.im.natAbs : Int) else (d.im.natAbs : Int)) = d.im := by
      unfold sgn
      by_cases hn : d.im < 0
      · rw [if_pos hn, if_pos rfl]; omega
      · rw [if_neg hn, if_neg (by decide)]; omega
    rw [e1, e2]
  rw [hd]
  unfold okD
  rw [if_pos ⟨h, rfl⟩]
theorem okD_no {d : DD} {l : List UInt8} (h : ∀ x, Rt x → prD x ≠ l) : okD d l = (o0, 50) := by
  unfold okD
  rw [if_neg (fun hh => h d hh.1 hh.2)]
theorem parsZ_no {l : List UInt8} (h : ∀ x, Rt x → prD x ≠ l) : parsZ l = (o0, 50) := by
  unfold parsZ
  split
  · rfl
  · split
    · rfl
    · split
      · rfl
      · exact okD_no h
theorem parsR_no {x y l : List UInt8} (h : ∀ d, Rt d → prD d ≠ l) : parsR x y l = (o0, 50) := by
  unfold parsR
  rw [if_neg (fun hh => h _ hh.1 hh.2)]
end Go.Proofs.YthpkmbgollollaaDoor.Dy
