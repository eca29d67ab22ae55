/- What is printed is read back. -/
import Derived.Test.YtnpdfkcjjedamaaGreatDoorRx
namespace Go.Proofs.YtnpdfkcjjedamaaGreatDoor.Sca
open Go.RowKit Go.Lib Go.Shelf Go.Proofs.YtnpdfkcjjedamaaGreatDoor.Oct

set_option maxRecDepth 100000 in
theorem atoi_itoa_fin : ∀ k : Fin 2300, atoiOk (Lib.itoa ((k.val : Int) - 1150)) = some ((k.val : Int) - 1150) := by decide +kernel
theorem atoi_itoa (e : Int) (h1 : -1150 ≤ e) (h2 : e < 1150) : atoiOk (Lib.itoa e) = some e := by
  have := atoi_itoa_fin ⟨(e + 1150).toNat, by omega⟩
  rw [show (((e + 1150).toNat : Nat) : Int) - 1150 = e from by omega] at this
  exact this
theorem hxd_fin : ∀ d : Fin 16, dv (hxd d.val).toNat = d.val ∧ hxd d.val ≠ 112 := by decide +kernel
theorem pu_hexs : ∀ (f b a : Nat), b < 18446744073709551616 → b * 16 ^ f % 18446744073709551616 = 0 → (a + 1) * 16 ^ (hexs f b).length ≤ 18446744073709551616 →
    ∃ v, pu a (hexs f b) = .ok (a * 16 ^ (hexs f b).length + v) ∧ v * 18446744073709551616 = b * 16 ^ (hexs f b).length
  | 0, b, a, hb, h0, _ => by
    rw [Nat.pow_zero, Nat.mul_one, Nat.mod_eq_of_lt hb] at h0
    subst h0
    exact ⟨0, by show pu a [] = .ok (a * 16 ^ 0 + 0); rw [Nat.pow_zero, Nat.mul_one]; rfl, by omega⟩
  | f + 1, b, a, hb, h0, hl => by
    unfold hexs at hl ⊢
    by_cases c : b = 0
    · rw [if_pos c]
      exact ⟨0, by show pu a [] = .ok (a * 16 ^ 0 + 0); rw [Nat.pow_zero, Nat.mul_one]; rfl, by rw [c, Nat.zero_mul, Nat.zero_mul]⟩
    · rw [if_neg c] at hl ⊢
      have hd : b / 1152921504606846976 < 16 := by omega
      obtain ⟨e1, _⟩ := hxd_fin ⟨_, hd⟩
      have e1' : dv (hxd (b / 1152921504606846976)).toNat = b / 1152921504606846976 := e1
      rw [List.length_cons, Nat.pow_succ] at hl ⊢
      have h0' : b * 16 % 18446744073709551616 * 16 ^ f % 18446744073709551616 = 0 := by
        rw [Nat.mod_mul_mod, Nat.mul_assoc, ← Nat.pow_succ']
        exact h0
      have hp := Nat.two_pow_pos 1
      have hk : 0 < 16 ^ (hexs f (b * 16 % 18446744073709551616)).length := Nat.pow_pos (by decide)
      have hsplit : b * 16 = b / 1152921504606846976 * 18446744073709551616 + b * 16 % 18446744073709551616 := by omega
      have IH := pu_hexs f (b * 16 % 18446744073709551616) (a * 16 + b / 1152921504606846976) (Nat.mod_lt _ (by decide)) h0'
      generalize (hexs f (b * 16 % 18446744073709551616)).length = k at *
      generalize hexs f (b * 16 % 18446744073709551616) = r at *
      generalize b * 16 % 18446744073709551616 = b' at *
      generalize b / 1152921504606846976 = d at *
      generalize 16 ^ k = P at *
      have hl2 : (a + 1) * 16 * P ≤ 18446744073709551616 := by rw [Nat.mul_assoc, Nat.mul_comm 16 P]; exact hl
      have hl3 : (a * 16 + d + 1) * P ≤ 18446744073709551616 := Nat.le_trans (Nat.mul_le_mul_right _ (by omega)) hl2
      have ha : (a + 1) * 16 ≤ 18446744073709551616 := Nat.le_trans (Nat.le_mul_of_pos_right _ hk) hl2
      obtain ⟨v, hv1, hv2⟩ := IH hl3
      rw [pu_cons, e1', if_pos hd, if_neg (by omega), hv1]
      refine ⟨d * P + v, ?_, ?_⟩
      · congr 1
        rw [Nat.add_mul, Nat.add_assoc, Nat.mul_assoc, Nat.mul_comm 16 P]
      · rw [Nat.mul_comm P 16, ← Nat.mul_assoc, hsplit, Nat.add_mul, Nat.add_mul, hv2, Nat.mul_right_comm d P]
theorem hexs_short : ∀ (f b j : Nat), b < 18446744073709551616 → b * 16 ^ j % 18446744073709551616 = 0 → (hexs f b).length ≤ j
  | 0, _, _, _, _ => Nat.zero_le _
  | f + 1, b, 0, hb, h => by
    rw [Nat.pow_zero, Nat.mul_one, Nat.mod_eq_of_lt hb] at h
    subst h
    rw [hexs_zero]
    exact Nat.le_refl _
  | f + 1, b, j + 1, hb, h => by
    unfold hexs
    split
    · exact Nat.zero_le _
    · rw [List.length_cons]
      refine Nat.succ_le_succ (hexs_short f _ j (Nat.mod_lt _ (by decide)) ?_)
      rw [Nat.mod_mul_mod, Nat.mul_assoc, ← Nat.pow_succ']
      exact h
theorem hexs_free : ∀ (f b : Nat), b < 18446744073709551616 → ∀ c ∈ hexs f b, c ≠ 112
  | 0, _, _, c, h => by cases h
  | f + 1, b, hb, c, h => by
    unfold hexs at h
    split at h
    · cases h
    · rcases List.mem_cons.1 h with e | h'
      · rw [e]; exact (hxd_fin ⟨_, by omega⟩).2
      · exact hexs_free f _ (Nat.mod_lt _ (by decide)) c h'
theorem frac_free (b : Nat) (hb : b < 18446744073709551616) : ∀ c ∈ fracB b, c ≠ 112 := by
  unfold fracB
  split
  · intro c h; cases h
  · intro c h
    rcases List.mem_cons.1 h with e | h'
    · rw [e]; decide
    · exact hexs_free _ _ hb c h'
theorem index_at (a r : List UInt8) (h : ∀ c ∈ a, c ≠ 112) : Lib.indexByte (a ++ 112 :: r) 112 = (a.length : Int) := by
  induction a with
  | nil => rfl
  | cons c l ih =>
    have ih' := ih (fun x hx => h x (List.mem_cons_of_mem _ hx))
    have hc : (c == 112) = false := beq_eq_false_iff_ne.2 (h c (List.mem_cons_self))
    show (if c == 112 then (0 : Int) else if Lib.indexByte (l ++ 112 :: r) 112 == -1 then -1 else Lib.indexByte (l ++ 112 :: r) 112 + 1) = _
    rw [hc, ih', if_neg (by decide), if_neg (by rw [beq_iff_eq]; omega), List.length_cons]
    omega
theorem cutA_at (a r : List UInt8) (h : ∀ c ∈ a, c ≠ 112) : cutA (a ++ 112 :: r) = a := by
  unfold cutA
  rw [index_at a r h, if_neg (by omega), Int.toNat_natCast, List.take_left' rfl]
theorem cutB_at (a r : List UInt8) (h : ∀ c ∈ a, c ≠ 112) : cutB (a ++ 112 :: r) = r := by
  unfold cutB
  rw [index_at a r h, if_neg (by omega), Int.toNat_natCast, ← List.drop_drop, List.drop_left' rfl]
  rfl
theorem trim_frac (b : Nat) : Lib.trimPrefix (fracB b) [46] = hexs 16 b := by
  unfold fracB
  by_cases c : b = 0
  · rw [if_pos c, c]; rfl
  · rw [if_neg c]; rfl
/-- The text of a number, in its pieces. -/
def txt (sg : Bool) (fr : Nat) (pw : Int) : List UInt8 := (if sg then [45] else []) ++ [48, 120, 49] ++ fracB fr ++ [112] ++ Lib.itoa pw
theorem mid_txt (sg : Bool) (fr : Nat) (pw : Int) : mid (txt sg fr pw) = fracB fr ++ 112 :: Lib.itoa pw := by
  unfold mid txt
  cases sg
  · simp [Lib.trimPrefix, Lib.hasPrefix, List.isPrefixOf]
  · simp [Lib.trimPrefix, Lib.hasPrefix, List.isPrefixOf]
theorem neg_txt (sg : Bool) (fr : Nat) (pw : Int) : Lib.hasPrefix (txt sg fr pw) [45] = sg := by
  unfold txt
  cases sg
  · simp [Lib.hasPrefix, List.isPrefixOf]
  · simp [Lib.hasPrefix, List.isPrefixOf]
theorem behind_txt (sg : Bool) (fr : Nat) (hf : fr < 18446744073709551616) (pw : Int) : behind (txt sg fr pw) = hexs 16 fr := by
  unfold behind
  rw [mid_txt, cutA_at _ _ (frac_free fr hf), trim_frac]
theorem power_txt (sg : Bool) (fr : Nat) (hf : fr < 18446744073709551616) (pw : Int) : power (txt sg fr pw) = Lib.itoa pw := by
  unfold power
  rw [mid_txt, cutB_at _ _ (frac_free fr hf)]
theorem readB_txt (sg : Bool) (fr : Nat) (pw : Int) : readB (txt sg fr pw) = readN (txt sg fr pw) := by
  have h : txt sg fr pw ≠ [110, 97, 110] ∧ txt sg fr pw ≠ [105, 110, 102] ∧ txt sg fr pw ≠ [45, 105, 110, 102] ∧ txt sg fr pw ≠ [48] ∧ txt sg fr pw ≠ [45, 48] := by
    unfold txt
    cases sg <;> simp
  unfold readB
  rw [if_neg h.1, if_neg h.2.1, if_neg h.2.2.1, if_neg h.2.2.2.1, if_neg h.2.2.2.2]
/-- A number's text, read: the digits' number, and its exponent. -/
theorem readN_txt (sg : Bool) (fr : Nat) (hf : fr < 18446744073709551616) (h13 : fr * 16 ^ 13 % 18446744073709551616 = 0) (pw : Int) (h1 : -1150 ≤ pw) (h2 : pw < 1150) :
    ∃ k v : Nat, k ≤ 13 ∧ v * 18446744073709551616 = fr * 16 ^ k ∧ readN (txt sg fr pw) = some (joinB (if sg then -((16 ^ k + v : Nat) : Int) else ((16 ^ k + v : Nat) : Int)) (pw - 4 * (k : Int))) := by
  have hk := hexs_short 16 fr 13 hf h13
  have hle : 16 ^ (hexs 16 fr).length ≤ 16 ^ 13 := Nat.pow_le_pow_right (by decide) hk
  obtain ⟨v, hv1, hv2⟩ := pu_hexs 16 fr 1 hf (pow16 fr) (by omega)
  refine ⟨(hexs 16 fr).length, v, hk, hv2, ?_⟩
  have hvl : v < 16 ^ (hexs 16 fr).length := by
    have : v * 18446744073709551616 < 16 ^ (hexs 16 fr).length * 18446744073709551616 := by
      rw [hv2, Nat.mul_comm]
      exact Nat.mul_lt_mul_of_pos_left hf (Nat.pow_pos (by decide))
    exact Nat.lt_of_mul_lt_mul_right this
  have hpi : pi (49 :: hexs 16 fr) = .ok (16 ^ (hexs 16 fr).length + v) := by
    unfold pi
    rw [pu_cons, show dv (49 : UInt8).toNat = 1 from by decide, if_pos (by decide), if_neg (by decide), show 0 * 16 + 1 = 1 from rfl, hv1, Nat.one_mul]
    show (if 9223372036854775808 ≤ 16 ^ (hexs 16 fr).length + v then Rd.far else Rd.ok _) = _
    rw [if_neg (by omega)]
  unfold readN
  rw [behind_txt sg fr hf, power_txt sg fr hf, hpi, neg_txt]
  show (match atoiOk (Lib.itoa pw) with | some e => some _ | none => none) = _
  rw [atoi_itoa pw h1 h2]
  show some (joinB _ (Go.RowKit.wrap64 (pw - 4 * ((hexs 16 fr).length : Int)))) = _
  rw [show Go.RowKit.wrap64 (pw - 4 * ((hexs 16 fr).length : Int)) = pw - 4 * ((hexs 16 fr).length : Int) from by unfold Go.RowKit.wrap64; omega]
end Go.Proofs.YtnpdfkcjjedamaaGreatDoor.Sca
