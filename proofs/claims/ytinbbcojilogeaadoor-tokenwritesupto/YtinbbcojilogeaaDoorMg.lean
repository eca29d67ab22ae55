/- The document's number: the ways picked. -/
import Derived.Test.YtinbbcojilogeaaDoorMfa
import Derived.Test.YtinbbcojilogeaaDoorMfo
import Derived.Test.YtinbbcojilogeaaDoorMfz
import Derived.Test.YtinbbcojilogeaaDoorKo
namespace Go.Proofs.YtinbbcojilogeaaDoor.Tok
open Go.RowKit Go.Shelf Go.Proofs.YtinbbcojilogeaaDoor.Oct

/-- What one answers. -/
def oneV : Cut → Nat → Int → Value
  | .tok k t v n, i, _ => .tuple #[tokV k t v 0 0 0, .int .i64 ((i + n : Nat) : Int), .int .i64 0]
  | .bad e, _, x => .tuple #[tokV 0 [] 0 0 0 0, .int .i64 x, .int .i64 (e : Int)]
theorem by_str (l : List UInt8) (j : Nat) (c : UInt8) (h : l[j]? = some c) : By ⟨l.toArray⟩ j c := fun hh => at_str l j c h hh
theorem digs_of (l : List UInt8) (a n : Nat) (hn : n ≤ sp isD (l.drop a)) : Digs ⟨l.toArray⟩ a (a + n) := by
  intro j h1 h2
  have hlen := sp_le isD (l.drop a)
  rw [List.length_drop] at hlen
  have hj : j < l.length := by omega
  refine ⟨l[j], by_str l j _ (List.getElem?_eq_getElem hj), ?_⟩
  have h := sp_getD isD (l.drop a) (j - a) (by omega)
  rw [List.getD_eq_getElem?_getD, List.getElem?_drop, show a + (j - a) = j by omega, List.getElem?_eq_getElem hj] at h
  exact h
theorem stop_of (p : UInt8 → Bool) (l : List UInt8) (a n : Nat) (ha : a ≤ l.length) (hn : sp p (l.drop a) = n) : Stop ⟨l.toArray⟩ l.length (a + n) p := by
  have hlen := sp_le p (l.drop a)
  rw [List.length_drop, hn] at hlen
  by_cases h : a + n = l.length
  · exact .inl h
  · have hlt : a + n < l.length := by omega
    refine .inr ⟨hlt, l[a + n], by_str l _ _ (List.getElem?_eq_getElem hlt), sp_stop p (l.drop a) _ (l.drop (a + n + 1)) ?_⟩
    rw [hn, List.drop_drop, List.drop_eq_getElem_cons hlt]
theorem let_of (l : List UInt8) (k : Nat) (hk : k ≤ l.length) : Let ⟨l.toArray⟩ l.length k (decide (0 < sp isL (l.drop k))) := by
  rcases Nat.lt_or_ge k l.length with h | h
  · refine .inr ⟨h, l[k], by_str l _ _ (List.getElem?_eq_getElem h), ?_⟩
    rw [List.drop_eq_getElem_cons h]
    cases hL : isL l[k] with
    | true => rw [sp_cons_true _ hL]; simp
    | false => rw [sp_cons_false _ hL]; simp
  · refine .inl ⟨by omega, ?_⟩
    rw [List.drop_of_length_le h]
    rfl
theorem num_N (r : List UInt8) (n i : Nat) (x : Int) (hn : sp isD r = n) (hf : frac (r.drop n) = 0) (hz : ¬ (1 < n ∧ r.head? = some 48)) : oneV (cNum r) i x = numV (decide (1000000000 < dv 0 (r.take n)) || decide (0 < sp isL (r.drop n))) (tokV 2 [] (dv 0 (r.take n)) 0 0 0) (i + n) x := by
  unfold cNum
  rw [hn, hf, Nat.add_zero]
  generalize dv 0 (r.take n) = D
  generalize sp isL (r.drop n) = M
  by_cases h1 : 0 < M
  · rw [if_pos (.inr h1), decide_eq_true h1, Bool.or_true]
    rfl
  · rw [if_neg (by rintro (h | h); exact hz h; exact h1 h), if_neg (by omega), decide_eq_false h1, Bool.or_false]
    by_cases h2 : 1000000000 < D
    · rw [if_pos h2, decide_eq_true h2]
      rfl
    · rw [if_neg h2, decide_eq_false h2]
      rfl
theorem num_Z (r : List UInt8) (n i k : Nat) (x : Int) (tv : Value) (hn : sp isD r = n) (hz : 1 < n ∧ r.head? = some 48) : oneV (cNum r) i x = numV true tv k x := by
  unfold cNum
  rw [hn, if_pos (.inl hz)]
  rfl
theorem num_Y (r : List UInt8) (n m i : Nat) (x : Int) (hn : sp isD r = n) (hf : frac (r.drop n) = m) (hm : 0 < m) (hz : ¬ (1 < n ∧ r.head? = some 48)) : oneV (cNum r) i x = numV (decide (0 < sp isL (r.drop (n + m)))) (tokV 3 (r.take (n + m)) 0 0 0 0) (i + (n + m)) x := by
  unfold cNum
  rw [hn, hf]
  generalize r.take (n + m) = tx
  generalize sp isL (r.drop (n + m)) = M
  by_cases h1 : 0 < M
  · rw [if_pos (.inr h1), decide_eq_true h1]
    rfl
  · rw [if_neg (by rintro (h | h); exact hz h; exact h1 h), if_pos hm, decide_eq_false h1]
    rfl
theorem dNumber (l : List UInt8) (i : Nat) (b : UInt8) (hb : l[i]? = some b) (hd : isD b = true) (hl : l.length ≤ 140737488355328) (w : World) :
    Calls Tryd.prog 46 #[str l, .int .i64 (i : Int)] w fun e w' => (∃ x, e = .returned (oneV (cNum (l.drop i)) i x)) ∧ Below w.heap.size w w' := by
  have hi : i < l.length := (List.getElem?_eq_some_iff.1 hb).1
  have hdr : l.drop i = b :: l.drop (i + 1) := by
    rw [List.drop_eq_getElem_cons hi]
    rw [List.getElem?_eq_getElem hi] at hb
    rw [Option.some.inj hb]
  have hhd : (l.drop i).head? = some b := by rw [hdr]; rfl
  obtain ⟨n, hn⟩ : ∃ n, sp isD (l.drop i) = n := ⟨_, rfl⟩
  have hn1 : 1 ≤ n := by rw [← hn, hdr, sp_cons_true _ hd]; omega
  have hnl : i + n ≤ l.length := by
    have := sp_le isD (l.drop i)
    rw [List.length_drop, hn] at this
    omega
  have HD1 := hide (digs_of l i n (by omega))
  have HS1 := hide (stop_of isD l i n (by omega) hn)
  have hx : (⟨l.toArray⟩ : ByteArray).extract i (i + n) = ⟨((l.drop i).take n).toArray⟩ := by rw [ext_list, List.drop_take, Nat.add_sub_cancel_left]
  have hwl : ((l.drop i).take n).length ≤ 140737488355328 := by rw [List.length_take]; omega
  have Hsw : Hid (∀ j c, ((l.drop i).take n)[j]? = some c → By ⟨((l.drop i).take n).toArray⟩ j c) := hide (fun j c h => by_str _ j c h)
  have Hwd : Hid (∀ c ∈ (l.drop i).take n, isD c = true) := hide (by rw [← hn]; exact sp_all isD _)
  have HL1 := hide (let_of l (i + n) hnl)
  have hdd : (l.drop i).drop n = l.drop (i + n) := List.drop_drop ..
  have Hbd : Hid ((1000000000 < dv 0 ((l.drop i).take n) → (decide (1000000000 < dv 0 ((l.drop i).take n)) || decide (0 < sp isL (l.drop (i + n)))) = true) ∧ (¬ 1000000000 < dv 0 ((l.drop i).take n) → (decide (1000000000 < dv 0 ((l.drop i).take n)) || decide (0 < sp isL (l.drop (i + n)))) = decide (0 < sp isL (l.drop (i + n))))) :=
    hide ⟨fun h => by rw [decide_eq_true h, Bool.true_or], fun h => by rw [decide_eq_false h, Bool.false_or]⟩
  unfold str
  by_cases hK1 : i + n + 1 < l.length
  · obtain ⟨cK, hcK⟩ : ∃ c, l[i + n]? = some c := ⟨_, List.getElem?_eq_getElem (by omega)⟩
    obtain ⟨c1, hc1⟩ : ∃ c, l[i + n + 1]? = some c := ⟨_, List.getElem?_eq_getElem hK1⟩
    have hq : l.drop (i + n) = cK :: l.drop (i + n + 1) := by
      rw [List.drop_eq_getElem_cons (by omega)]
      rw [List.getElem?_eq_getElem (by omega)] at hcK
      rw [Option.some.inj hcK]
    have hq1 : l.drop (i + n + 1) = c1 :: l.drop (i + n + 1 + 1) := by
      rw [List.drop_eq_getElem_cons hK1]
      rw [List.getElem?_eq_getElem hK1] at hc1
      rw [Option.some.inj hc1]
    cases h46 : ((cK.toNat : Int) == 46) with
    | false =>
      have hf : frac (l.drop (i + n)) = 0 := by
        rw [hq, frac, if_neg (fun e => by rw [e] at h46; exact absurd h46 (by decide))]
      cases h48 : ((b.toNat : Int) == 48) with
      | false =>
        have hz : ¬ (1 < n ∧ (l.drop i).head? = some 48) := fun h => by rw [hhd] at h; have h2 := Option.some.inj h.2; rw [h2] at h48; exact absurd h48 (by decide)
        refine (num_A_N2 _ _ ((l.drop i).take n) _ i (i + n) b _ w hl (size_str l) (by omega) hnl (by_str l i b hb) HD1 HS1 hx (size_str _) hwl Hsw Hwd h48 hK1 cK (by_str l _ cK hcK) h46 HL1 _ (hide rfl) _ Hbd).mono ?_
        rintro e w' ⟨⟨x, rfl⟩, hbl⟩
        exact ⟨⟨x, by rw [num_N _ n i x hn (by rw [hdd]; exact hf) hz, hdd]⟩, hbl⟩
      | true =>
        have hb48 : b = 48 := UInt8.toNat_inj.1 (by have := eq_of_beq h48; show b.toNat = 48; omega)
        by_cases hgt : i + 1 < i + n
        · have hz : 1 < n ∧ (l.drop i).head? = some 48 := ⟨by omega, by rw [hhd, hb48]⟩
          refine (num_Z_N2 _ _ ((l.drop i).take n) _ i (i + n) b w hl (size_str l) (by omega) hnl (by_str l i b hb) HD1 HS1 hx (size_str _) hwl Hsw Hwd h48 hgt hK1 cK (by_str l _ cK hcK) h46 _ (hide rfl)).mono ?_
          rintro e w' ⟨⟨x, rfl⟩, hbl⟩
          exact ⟨⟨x, by rw [num_Z _ n i _ x _ hn hz]⟩, hbl⟩
        · have hz : ¬ (1 < n ∧ (l.drop i).head? = some 48) := fun h => by omega
          refine (num_O_N2 _ _ ((l.drop i).take n) _ i (i + n) b _ w hl (size_str l) (by omega) hnl (by_str l i b hb) HD1 HS1 hx (size_str _) hwl Hsw Hwd h48 hgt hK1 cK (by_str l _ cK hcK) h46 HL1 _ (hide rfl) _ Hbd).mono ?_
          rintro e w' ⟨⟨x, rfl⟩, hbl⟩
          exact ⟨⟨x, by rw [num_N _ n i x hn (by rw [hdd]; exact hf) hz, hdd]⟩, hbl⟩
    | true =>
      have hc46 : cK = 46 := UInt8.toNat_inj.1 (by have := eq_of_beq h46; show cK.toNat = 46; omega)
      cases hd1 : isD c1 with
      | false =>
        have hf : frac (l.drop (i + n)) = 0 := by
          rw [hq, frac, if_pos hc46, hq1, sp_cons_false _ hd1]
          rfl
        cases h48 : ((b.toNat : Int) == 48) with
        | false =>
          have hz : ¬ (1 < n ∧ (l.drop i).head? = some 48) := fun h => by rw [hhd] at h; have h2 := Option.some.inj h.2; rw [h2] at h48; exact absurd h48 (by decide)
          refine (num_A_N3 _ _ ((l.drop i).take n) _ i (i + n) b _ w hl (size_str l) (by omega) hnl (by_str l i b hb) HD1 HS1 hx (size_str _) hwl Hsw Hwd h48 hK1 cK (by_str l _ cK hcK) h46 c1 (by_str l _ c1 hc1) hd1 HL1 _ (hide rfl) _ Hbd).mono ?_
          rintro e w' ⟨⟨x, rfl⟩, hbl⟩
          exact ⟨⟨x, by rw [num_N _ n i x hn (by rw [hdd]; exact hf) hz, hdd]⟩, hbl⟩
        | true =>
          have hb48 : b = 48 := UInt8.toNat_inj.1 (by have := eq_of_beq h48; show b.toNat = 48; omega)
          by_cases hgt : i + 1 < i + n
          · have hz : 1 < n ∧ (l.drop i).head? = some 48 := ⟨by omega, by rw [hhd, hb48]⟩
            refine (num_Z_N3 _ _ ((l.drop i).take n) _ i (i + n) b w hl (size_str l) (by omega) hnl (by_str l i b hb) HD1 HS1 hx (size_str _) hwl Hsw Hwd h48 hgt hK1 cK (by_str l _ cK hcK) h46 c1 (by_str l _ c1 hc1) hd1 _ (hide rfl)).mono ?_
            rintro e w' ⟨⟨x, rfl⟩, hbl⟩
            exact ⟨⟨x, by rw [num_Z _ n i _ x _ hn hz]⟩, hbl⟩
          · have hz : ¬ (1 < n ∧ (l.drop i).head? = some 48) := fun h => by omega
            refine (num_O_N3 _ _ ((l.drop i).take n) _ i (i + n) b _ w hl (size_str l) (by omega) hnl (by_str l i b hb) HD1 HS1 hx (size_str _) hwl Hsw Hwd h48 hgt hK1 cK (by_str l _ cK hcK) h46 c1 (by_str l _ c1 hc1) hd1 HL1 _ (hide rfl) _ Hbd).mono ?_
            rintro e w' ⟨⟨x, rfl⟩, hbl⟩
            exact ⟨⟨x, by rw [num_N _ n i x hn (by rw [hdd]; exact hf) hz, hdd]⟩, hbl⟩
      | true =>
        obtain ⟨d, hdE⟩ : ∃ d, sp isD (l.drop (i + n + 1)) = d := ⟨_, rfl⟩
        have hd0 : 1 ≤ d := by rw [← hdE, hq1, sp_cons_true _ hd1]; omega
        obtain ⟨m, hmE⟩ : ∃ m, 1 + d = m := ⟨_, rfl⟩
        have hf : frac (l.drop (i + n)) = m := by
          rw [hq, frac, if_pos hc46, hdE, if_neg (by omega), hmE]
        have hm : 0 < m := by omega
        have hmL : i + (n + m) ≤ l.length := by
          have := sp_le isD (l.drop (i + n + 1))
          rw [List.length_drop, hdE] at this
          omega
        have e1 : i + n + 1 + d = i + (n + m) := by omega
        have HD2 : Hid (Digs ⟨l.toArray⟩ (i + n + 1) (i + (n + m))) := hide (by rw [← e1]; exact digs_of l (i + n + 1) d (by omega))
        have HS2 : Hid (Stop ⟨l.toArray⟩ l.length (i + (n + m)) isD) := hide (by rw [← e1]; exact stop_of isD l (i + n + 1) d (by omega) hdE)
        have hx2 : (⟨l.toArray⟩ : ByteArray).extract i (i + (n + m)) = ⟨((l.drop i).take (n + m)).toArray⟩ := by rw [ext_list, List.drop_take, Nat.add_sub_cancel_left]
        have HL2 := hide (let_of l (i + (n + m)) hmL)
        have hdd2 : (l.drop i).drop (n + m) = l.drop (i + (n + m)) := List.drop_drop ..
        cases h48 : ((b.toNat : Int) == 48) with
        | false =>
          have hz : ¬ (1 < n ∧ (l.drop i).head? = some 48) := fun h => by rw [hhd] at h; have h2 := Option.some.inj h.2; rw [h2] at h48; exact absurd h48 (by decide)
          refine (num_A_Y _ _ _ _ i (i + n) (i + (n + m)) b _ w hl (size_str l) (by omega) hnl (by_str l i b hb) HD1 HS1 hx h48 hK1 cK (by_str l _ cK hcK) h46 c1 (by_str l _ c1 hc1) hd1 (by omega) hmL HD2 HS2 hx2 HL2 _ rfl).mono ?_
          rintro e w' ⟨⟨x, rfl⟩, hbl⟩
          exact ⟨⟨x, by rw [num_Y _ n m i x hn (by rw [hdd]; exact hf) hm hz, hdd2]⟩, hbl⟩
        | true =>
          have hb48 : b = 48 := UInt8.toNat_inj.1 (by have := eq_of_beq h48; show b.toNat = 48; omega)
          by_cases hgt : i + 1 < i + n
          · have hz : 1 < n ∧ (l.drop i).head? = some 48 := ⟨by omega, by rw [hhd, hb48]⟩
            refine (num_Z_Y _ _ _ _ i (i + n) (i + (n + m)) b w hl (size_str l) (by omega) hnl (by_str l i b hb) HD1 HS1 hx h48 hgt hK1 cK (by_str l _ cK hcK) h46 c1 (by_str l _ c1 hc1) hd1 (by omega) hmL HD2 HS2 hx2 _ rfl).mono ?_
            rintro e w' ⟨⟨x, rfl⟩, hbl⟩
            exact ⟨⟨x, by rw [num_Z _ n i _ x _ hn hz]⟩, hbl⟩
          · have hz : ¬ (1 < n ∧ (l.drop i).head? = some 48) := fun h => by omega
            refine (num_O_Y _ _ _ _ i (i + n) (i + (n + m)) b _ w hl (size_str l) (by omega) hnl (by_str l i b hb) HD1 HS1 hx h48 hgt hK1 cK (by_str l _ cK hcK) h46 c1 (by_str l _ c1 hc1) hd1 (by omega) hmL HD2 HS2 hx2 HL2 _ rfl).mono ?_
            rintro e w' ⟨⟨x, rfl⟩, hbl⟩
            exact ⟨⟨x, by rw [num_Y _ n m i x hn (by rw [hdd]; exact hf) hm hz, hdd2]⟩, hbl⟩
  · have hf : frac (l.drop (i + n)) = 0 := by
      have hle : (l.drop (i + n)).length ≤ 1 := by rw [List.length_drop]; omega
      match l.drop (i + n), hle with
      | [], _ => rfl
      | [a], _ =>
        rw [frac]
        split <;> rfl
    cases h48 : ((b.toNat : Int) == 48) with
    | false =>
      have hz : ¬ (1 < n ∧ (l.drop i).head? = some 48) := fun h => by rw [hhd] at h; have h2 := Option.some.inj h.2; rw [h2] at h48; exact absurd h48 (by decide)
      refine (num_A_N1 _ _ ((l.drop i).take n) _ i (i + n) b _ w hl (size_str l) (by omega) hnl (by_str l i b hb) HD1 HS1 hx (size_str _) hwl Hsw Hwd h48 hK1 HL1 _ (hide rfl) _ Hbd).mono ?_
      rintro e w' ⟨⟨x, rfl⟩, hbl⟩
      exact ⟨⟨x, by rw [num_N _ n i x hn (by rw [hdd]; exact hf) hz, hdd]⟩, hbl⟩
    | true =>
      have hb48 : b = 48 := UInt8.toNat_inj.1 (by have := eq_of_beq h48; show b.toNat = 48; omega)
      by_cases hgt : i + 1 < i + n
      · have hz : 1 < n ∧ (l.drop i).head? = some 48 := ⟨by omega, by rw [hhd, hb48]⟩
        refine (num_Z_N1 _ _ ((l.drop i).take n) _ i (i + n) b w hl (size_str l) (by omega) hnl (by_str l i b hb) HD1 HS1 hx (size_str _) hwl Hsw Hwd h48 hgt hK1 _ (hide rfl)).mono ?_
        rintro e w' ⟨⟨x, rfl⟩, hbl⟩
        exact ⟨⟨x, by rw [num_Z _ n i _ x _ hn hz]⟩, hbl⟩
      · have hz : ¬ (1 < n ∧ (l.drop i).head? = some 48) := fun h => by omega
        refine (num_O_N1 _ _ ((l.drop i).take n) _ i (i + n) b _ w hl (size_str l) (by omega) hnl (by_str l i b hb) HD1 HS1 hx (size_str _) hwl Hsw Hwd h48 hgt hK1 HL1 _ (hide rfl) _ Hbd).mono ?_
        rintro e w' ⟨⟨x, rfl⟩, hbl⟩
        exact ⟨⟨x, by rw [num_N _ n i x hn (by rw [hdd]; exact hf) hz, hdd]⟩, hbl⟩
end Go.Proofs.YtinbbcojilogeaaDoor.Tok
