/- What Print writes, Parse reads. -/
import Derived.Test.YthpkmbgollollabDoorIe
namespace Go.Proofs.YthpkmbgollollabDoor.Dy
open Go.RowKit Go.Lib Go.Shelf Go.Proofs.YthpkmbgollollabDoor.Sca

theorem dec_digit : ∀ (u : Nat) (c : UInt8), c ∈ Lib.decDigits u → 48 ≤ c.toNat ∧ c.toNat ≤ 57 := by
  intro u
  induction u using Nat.strongRecOn with
  | _ u ih =>
    intro c hc
    by_cases h : u < 10
    · rw [Lib.decDigits_one h, List.mem_singleton] at hc
      subst hc
      rw [UInt8.toNat_ofNat_of_lt' (by show 48 + u < 256; omega)]
      omega
    · rw [Lib.decDigits, dif_neg h, List.mem_append, List.mem_singleton] at hc
      rcases hc with hc | hc
      · exact ih (u / 10) (by omega) c hc
      · subst hc
        rw [UInt8.toNat_ofNat_of_lt' (by show 48 + u % 10 < 256; omega)]
        omega
theorem dec_ne (u : Nat) : Lib.decDigits u ≠ [] := by
  intro h
  have := Lib.decDigits_length u
  rw [h] at this
  unfold Lib.nDigits at this
  split at this <;> simp at this
theorem parse_dec : ∀ (u : Nat), u ≤ 18446744073709551615 → ∀ r : List UInt8, Lib.parseUintM 18446744073709551615 0 (Lib.decDigits u ++ r) = Lib.parseUintM 18446744073709551615 u r := by
  intro u
  induction u using Nat.strongRecOn with
  | _ u ih =>
    intro hu r
    have step : ∀ (a v : Nat), v < 10 → a < 1844674407370955162 → a * 10 + v ≤ 18446744073709551615 → Lib.parseUintM 18446744073709551615 a (UInt8.ofNat (48 + v) :: r) = Lib.parseUintM 18446744073709551615 (a * 10 + v) r := by
      intro a v hv ha hm
      have hc : (UInt8.ofNat (48 + v)).toNat = 48 + v := UInt8.toNat_ofNat_of_lt' (by show 48 + v < 256; omega)
      rw [Lib.parseUintM, hc, if_pos (by omega), if_neg (by omega), if_neg (by omega)]
      congr 1
      omega
    by_cases h : u < 10
    · rw [Lib.decDigits_one h, List.singleton_append, step 0 u h (by omega) (by omega)]
      congr 1
      omega
    · rw [Lib.decDigits, dif_neg h, List.append_assoc, ih (u / 10) (by omega) (by omega), List.singleton_append, step (u / 10) (u % 10) (by omega) (by omega) (by omega)]
      congr 1
      omega
theorem parseU_dec (u : Nat) (h : u ≤ 18446744073709551615) : Lib.parseUintB 64 (Lib.decDigits u) = .ok u := by
  unfold Lib.parseUintB
  rw [if_neg (dec_ne u)]
  have := parse_dec u h []
  rw [List.append_nil] at this
  exact this
theorem head_digit (u : Nat) : ∃ c r, Lib.decDigits u = c :: r ∧ 48 ≤ c.toNat ∧ c.toNat ≤ 57 := by
  cases h : Lib.decDigits u with
  | nil => exact absurd h (dec_ne u)
  | cons c r => exact ⟨c, r, rfl, dec_digit u c (by rw [h]; simp)⟩
theorem numP_dec (u : Nat) (h : u < 9223372036854775808) : numP (Lib.decDigits u) = (u : Int) := by
  obtain ⟨c, r, hc, h1, h2⟩ := head_digit u
  have hp := parseU_dec u (by omega)
  unfold numP Lib.parseIntB
  rw [hc] at hp ⊢
  dsimp only
  rw [if_neg (by omega), hp]
  dsimp only
  have e : (2 : Nat) ^ (64 - 1) = 9223372036854775808 := rfl
  rw [e, if_neg (by omega), if_neg (by omega), if_neg (by omega)]
theorem numP_sign (c : UInt8) (u : Nat) (hc : c = 43 ∨ c = 45) (h : u < 9223372036854775808) : numP (c :: Lib.decDigits u) = if c = 45 then -(u : Int) else (u : Int) := by
  have hp := parseU_dec u (by omega)
  unfold numP Lib.parseIntB
  dsimp only
  have e : (2 : Nat) ^ (64 - 1) = 9223372036854775808 := rfl
  rcases hc with rfl | rfl
  · rw [if_pos (by decide), hp]
    dsimp only
    rw [e, if_neg (by rintro ⟨_, q⟩; omega), if_neg (by rintro ⟨q, _⟩; exact absurd q (by decide)), if_neg (by decide), if_neg (by decide)]
  · rw [if_pos (by decide), hp]
    dsimp only
    rw [e, if_neg (by rintro ⟨q, _⟩; exact q (by decide)), if_neg (by rintro ⟨_, q⟩; omega), if_pos (by decide), if_pos rfl]
theorem numP_itoa (x : Int) (h : -9223372036854775808 < x) (h2 : x ≤ 9223372036854775807) : numP (Lib.itoa x) = x := by
  unfold Lib.itoa
  split
  · rename_i hn
    rw [numP_sign 45 _ (.inr rfl) (by omega), if_pos rfl]
    omega
  · rw [numP_dec _ (by omega)]
    omega
theorem index_at : ∀ (a b : List UInt8), (∀ c ∈ a, c ≠ 105) → Lib.indexByte (a ++ 105 :: b) 105 = (a.length : Int)
  | [], b, _ => by simp [Lib.indexByte]
  | c :: a, b, h => by
    have ih := index_at a b (fun x hx => h x (by simp [hx]))
    have hc : c ≠ 105 := h c (by simp)
    rw [List.cons_append]
    unfold Lib.indexByte
    rw [ih]
    have hz : ((a.length : Int) == -1) = false := by rw [beq_eq_false_iff_ne]; omega
    simp [hc, hz]
theorem cut_at (a b : List UInt8) (h : ∀ c ∈ a, c ≠ 105) : cutA (a ++ 105 :: b) = a ∧ cutB (a ++ 105 :: b) = b := by
  have hi := index_at a b h
  unfold cutA cutB
  rw [hi, if_neg (by omega), if_neg (by omega), Int.toNat_natCast]
  constructor
  · simp
  · rw [← List.drop_drop, List.drop_left]
    rfl
theorem lastA_at (I : List UInt8) (c : UInt8) (D : List UInt8) (hc : isS c = true) (hD : ∀ x ∈ D, isS x = false) : ∀ k, k ≤ D.length → lastA (I.length + 1 + k) (I ++ c :: D) = (I.length : Int)
  | 0, _ => by
    rw [Nat.add_zero, lastA]
    have : (I ++ c :: D).getD I.length 0 = c := by simp
    rw [this, if_pos hc]
  | k + 1, hk => by
    rw [← Nat.add_assoc, lastA]
    have hx : (I ++ c :: D).getD (I.length + 1 + k) 0 = D[k]'(by omega) := by
      rw [List.getD_eq_getElem?_getD, List.getElem?_append_right (by omega), show I.length + 1 + k - I.length = k + 1 by omega, List.getElem?_cons_succ, List.getElem?_eq_getElem (by omega)]
      rfl
    rw [hx, if_neg (by rw [hD _ (List.getElem_mem _)]; decide)]
    exact lastA_at I c D hc hD k (by omega)
theorem sgn_S (x : Int) : isS (sgn x) = true ∧ (sgn x = 43 ∨ sgn x = 45) ∧ (sgn x).toNat < 128 := by
  unfold sgn
  split
  · exact ⟨rfl, .inr rfl, by decide⟩
  · exact ⟨rfl, .inl rfl, by decide⟩
theorem itoa_char (x : Int) : ∀ c ∈ Lib.itoa x, c.toNat = 45 ∨ (48 ≤ c.toNat ∧ c.toNat ≤ 57) := by
  intro c hc
  unfold Lib.itoa at hc
  split at hc
  · rw [List.mem_cons] at hc
    rcases hc with rfl | hc
    · exact .inl rfl
    · exact .inr (dec_digit _ c hc)
  · exact .inr (dec_digit _ c hc)
theorem dig_not (u : Nat) : ∀ x ∈ Lib.decDigits u, isS x = false := by
  intro x hx
  have := dec_digit u x hx
  unfold isS
  have h1 : ¬ x = 43 := fun e => by rw [e] at this; exact absurd this (by decide)
  have h2 : ¬ x = 45 := fun e => by rw [e] at this; exact absurd this (by decide)
  simp [h1, h2]
/-- The part ahead of the i. -/
def ahead (d : DD) : List UInt8 := Lib.itoa d.re ++ sgn d.im :: Lib.decDigits d.im.natAbs
theorem prD_ahead (d : DD) : prD d = ahead d ++ 105 :: low d.ex := by unfold prD ahead; simp
theorem ahead_char (d : DD) : ∀ c ∈ ahead d, c.toNat = 43 ∨ c.toNat = 45 ∨ (48 ≤ c.toNat ∧ c.toNat ≤ 57) := by
  intro c hc
  unfold ahead at hc
  rw [List.mem_append, List.mem_cons] at hc
  rcases hc with hc | hc | hc
  · rcases itoa_char _ c hc with h | h
    · exact .inr (.inl h)
    · exact .inr (.inr h)
  · rcases (sgn_S d.im).2.1 with h | h
    · rw [hc, h]; exact .inl rfl
    · rw [hc, h]; exact .inr (.inl rfl)
  · exact .inr (.inr (dec_digit _ c hc))
theorem cut_print (d : DD) : cutA (prD d) = ahead d ∧ cutB (prD d) = low d.ex := by
  rw [prD_ahead]
  apply cut_at
  intro c hc e
  have := ahead_char d c hc
  rw [e] at this
  exact absurd this (by decide)
theorem bl_pow (n : Nat) : bl (2 ^ n) = n + 1 := by
  unfold bl
  rw [if_neg (Nat.ne_of_gt (Nat.pow_pos (by decide))), Nat.log2_two_pow]
theorem ex_print (d : DD) (h0 : 0 ≤ d.ex) (h1 : d.ex ≤ 60) : exP (prD d) = d.ex := by
  unfold exP
  rw [(cut_print d).2]
  unfold low
  by_cases h : 0 < d.ex
  · have hlt : 2 ^ d.ex.toNat < 9223372036854775808 := Nat.lt_of_le_of_lt (Nat.pow_le_pow_right (by decide) (show d.ex.toNat ≤ 60 by omega)) (by decide)
    rw [if_pos h]
    have hp : Lib.hasPrefix (47 :: Lib.decDigits (2 ^ d.ex.toNat)) [47] = true := by simp [Lib.hasPrefix]
    have ht : Lib.trimPrefix (47 :: Lib.decDigits (2 ^ d.ex.toNat)) [47] = Lib.decDigits (2 ^ d.ex.toNat) := by
      unfold Lib.trimPrefix
      simp [Lib.hasPrefix]
    rw [hp, if_pos rfl, ht, numP_dec _ hlt]
    have hu : un ((2 ^ d.ex.toNat : Nat) : Int) = 2 ^ d.ex.toNat := by
      generalize 2 ^ d.ex.toNat = z at *
      unfold un
      omega
    rw [hu, bl_pow]
    omega
  · rw [if_neg h]
    have hp : Lib.hasPrefix [] [47] = false := rfl
    rw [hp, if_neg (by decide)]
    omega
theorem last_print (d : DD) : lastA (ahead d).length (ahead d) = ((Lib.itoa d.re).length : Int) := by
  have := lastA_at (Lib.itoa d.re) (sgn d.im) (Lib.decDigits d.im.natAbs) (sgn_S _).1 (dig_not _) _ (Nat.le_refl _)
  unfold ahead
  rw [List.length_append, List.length_cons, show (Lib.itoa d.re).length + ((Lib.decDigits d.im.natAbs).length + 1) = (Lib.itoa d.re).length + 1 + (Lib.decDigits d.im.natAbs).length by omega]
  exact this
theorem parse_print (d : DD) (h : Rt d) : parsR (Lib.itoa d.re) (sgn d.im :: Lib.decDigits d.im.natAbs) (prD d) = (d, 0) := by
  have hb := h.1
  have hd : parseD (Lib.itoa d.re) (sgn d.im :: Lib.decDigits d.im.natAbs) (prD d) = d := by
    unfold parseD
    rw [numP_itoa d.re (by omega) (by omega), numP_sign _ _ (sgn_S _).2.1 (by omega), ex_print d hb.2.2.1 hb.2.2.2]
    have hi : (if sgn d.im = 45 then -(d.im.natAbs : Int) else (d.im.natAbs : Int)) = d.im := by
      unfold sgn
      by_cases hn : d.im < 0
      · rw [if_pos hn, if_pos rfl]; omega
      · rw [if_neg hn, if_neg (by decide)]; omega
    rw [hi]
  unfold parsR
  rw [hd, if_pos ⟨h, rfl⟩]
theorem ahead_len (d : DD) (h : Rt d) : 3 ≤ (ahead d).length ∧ (ahead d).length ≤ 60 := by
  have hb := h.1
  have l1 := itoa_len d.re h.d64.1
  have l2 := dig_len d.im.natAbs (by omega)
  have n1 : 1 ≤ (Lib.itoa d.re).length := by
    unfold Lib.itoa
    split
    · simp
    · have := dec_ne d.re.toNat
      cases hh : Lib.decDigits d.re.toNat with
      | nil => exact absurd hh this
      | cons _ _ => simp
  have n2 : 1 ≤ (Lib.decDigits d.im.natAbs).length := by
    cases hh : Lib.decDigits d.im.natAbs with
    | nil => exact absurd hh (dec_ne _)
    | cons _ _ => simp
  unfold ahead
  rw [List.length_append, List.length_cons]
  omega
theorem prD_len (d : DD) (h : Rt d) : (prD d).length ≤ 100 := by
  have hb := h.1
  have l1 := (ahead_len d h).2
  have l3 : (low d.ex).length ≤ 21 := by
    unfold low
    split
    · rw [List.length_cons]
      have := dig_len (2 ^ d.ex.toNat) (Nat.lt_of_le_of_lt (Nat.pow_le_pow_right (by decide) (show d.ex.toNat ≤ 60 by omega)) (by decide))
      omega
    · simp
  rw [prD_ahead, List.length_append, List.length_cons]
  omega
theorem yLast_print (d : DD) (h : Rt d) (w : World) : Calls Tryd.prog 47 #[.string ⟨(ahead d).toArray⟩, .string ⟨#[43, 45]⟩] w fun e w' => e = .returned (.int .i64 ((Lib.itoa d.re).length : Int)) ∧ Below w.heap.size w w' := by
  have hl := ahead_len d h
  rw [← last_print d]
  by_cases h8 : (ahead d).length ≤ 8
  · refine yLast_short (ahead d) (by omega) h8 ?_ w
    intro i hi
    have hm : (ahead d).getD i 0 ∈ ahead d := by
      rw [List.getD_eq_getElem?_getD, List.getElem?_eq_getElem hi]
      exact List.getElem_mem _
    have := ahead_char d _ hm
    omega
  · exact yLast_long (ahead d) (by omega) (by omega) w
theorem yParse_print (d : DD) (h : Rt d) (w : World) (hT : Tp w) : Calls Tryd.prog 24 #[.string ⟨(prD d).toArray⟩] w fun e w' => e = .returned (aV (d, 0)) ∧ Below w.heap.size w w' := by
  have hl := ahead_len d h
  have hp := prD_len d h
  have hpa := congrArg List.length (prD_ahead d)
  rw [List.length_append, List.length_cons] at hpa
  have hla : (ahead d).length = (Lib.itoa d.re).length + ((Lib.decDigits d.im.natAbs).length + 1) := by unfold ahead; rw [List.length_append, List.length_cons]
  have := yParse_gen (prD d) (Lib.itoa d.re) (sgn d.im :: Lib.decDigits d.im.natAbs) (by omega) (by omega) (by rw [List.length_cons]; omega) w hT (fun W _ => by
    rw [(cut_print d).1]
    have hc := yCutParts (ahead d) ((Lib.itoa d.re).length : Int) (by omega) (by omega) W (yLast_print d h W)
    rw [Int.toNat_natCast] at hc
    have e1 : (ahead d).take (Lib.itoa d.re).length = Lib.itoa d.re := by unfold ahead; simp
    have e2 : (ahead d).drop (Lib.itoa d.re).length = sgn d.im :: Lib.decDigits d.im.natAbs := by unfold ahead; simp
    rw [e1, e2] at hc
    exact hc)
  rw [parse_print d h] at this
  exact this
end Go.Proofs.YthpkmbgollollabDoor.Dy
