/- The document's read, as it is walked. -/
import Derived.Test.YtnpdfkcjjedamaaGreatDoorPe0
import Derived.Deep.DeepCutAuto
import Derived.Deep.CutRange
namespace Go.Proofs.YtnpdfkcjjedamaaGreatDoor.Sca
open Go.RowKit Go.Lib Go.Shelf Go.Proofs.YtnpdfkcjjedamaaGreatDoor.Oct

/-- A text that is cut behind its first sign. -/
theorem extract_one (l : List UInt8) : (⟨l.toArray⟩ : ByteArray).extract 1 l.length = ⟨(l.drop 1).toArray⟩ := by
  apply ByteArray.ext
  rw [ByteArray.data_extract]
  apply Array.ext'
  simp only [List.extract_toArray, List.extract_eq_take_drop]
  rw [List.take_of_length_le (by simp)]
theorem extract_three (l : List UInt8) : (⟨l.toArray⟩ : ByteArray).extract 0 3 = ⟨(l.take 3).toArray⟩ := by
  apply ByteArray.ext
  rw [ByteArray.data_extract]
  apply Array.ext'
  simp
theorem size_list (l : List UInt8) : (⟨l.toArray⟩ : ByteArray).size = l.length := by show l.toArray.size = _; simp
theorem get_list (l : List UInt8) (i : Nat) (h : i < (⟨l.toArray⟩ : ByteArray).size) (h2 : i < l.length) : (⟨l.toArray⟩ : ByteArray)[i]'h = l[i]'h2 := rfl
theorem toList_list (l : List UInt8) : (⟨l.toArray⟩ : ByteArray).toList = l := by rw [ByteArray.toList_eq]
theorem list_eq' (l m : List UInt8) : ((⟨l.toArray⟩ : ByteArray).toList == m) = decide (l = m) := by
  rw [toList_list]
  by_cases h : l = m
  · rw [decide_eq_true h, beq_iff_eq]; exact h
  · rw [decide_eq_false h, beq_eq_false_iff_ne]; exact h
theorem or_hex (m d : Nat) (hd : d < 16) : bits .or .u64 (IntKind.u64.wrap ((m : Int) * 16)) (d : Int) = ((m * 16 % 18446744073709551616 + d : Nat) : Int) := by
  have h1 : IntKind.u64.wrap ((m : Int) * 16) = ((m * 16 % 18446744073709551616 : Nat) : Int) := by rw [wrapU]; omega
  rw [h1, u64_or_nat _ _ (by omega) (by omega)]
  congr 1
  have h2 : m * 16 % 18446744073709551616 = 2 ^ 4 * (m % 1152921504606846976) := by omega
  rw [h2]
  exact (Nat.two_pow_add_eq_or_of_lt (by omega) _).symm
theorem g2_stop (t : List UInt8) (j n : Nat) (h : ¬ (j < t.length ∧ n < 10000)) : g2 (t.drop j) n = n := by
  by_cases h1 : j < t.length
  · rw [List.drop_eq_getElem_cons h1]
    unfold g2
    rw [if_neg (fun e => h ⟨h1, e⟩)]
  · rw [List.drop_of_length_le (by omega)]
    rfl
theorem g1_stop (t : List UInt8) (i m k : Nat) (h : ¬ (i < t.length ∧ t[i]? ≠ some 112 ∧ i < 18)) : g1 (t.drop i) (18 - i) m k = (t.drop i, m, k) := by
  by_cases h1 : i < t.length
  · rw [List.drop_eq_getElem_cons h1]
    rw [List.getElem?_eq_getElem h1] at h
    generalize t[i]'h1 = c at *
    by_cases h2 : i < 18
    · have hc : c = 112 := Decidable.byContradiction fun e => h ⟨h1, fun x => e (Option.some.inj x), h2⟩
      rw [show 18 - i = (17 - i) + 1 by omega]
      unfold g1
      rw [if_pos hc]
    · rw [show 18 - i = 0 by omega]
      unfold g1
      rfl
  · rw [List.drop_of_length_le (by omega)]
    unfold g1
    rfl
set_option maxRecDepth 100000 in
set_option maxHeartbeats 1000000 in
theorem qRead_any (l : List UInt8) (hl : l.length ≤ 140737488351232) (w : World) :
    Calls Tryz.prog 45 #[.string ⟨l.toArray⟩] w fun e w' => e = .returned (.float .f64 (rdQ l)) ∧ ∃ q, w' = w.drewN q := by
  have mixed := mixed_ok
  obtain ⟨mi, hmi⟩ : ∃ mi : Bool, decide (l.head? = some 45) = mi := ⟨_, rfl⟩
  obtain ⟨t, ht⟩ : ∃ t, (if mi = true then l.drop 1 else l) = t := ⟨_, rfl⟩
  have htl : t.length ≤ 140737488351232 := by
    rw [← ht]
    split
    · rw [List.length_drop]; omega
    · exact hl
  have HQ : rdQ l = rdS mi t := by
    unfold rdQ
    rw [← ht]
    cases mi
    · rw [if_neg (of_decide_eq_false hmi)]; rfl
    · rw [if_pos (of_decide_eq_true hmi)]; rfl
  rw [HQ]
  clear HQ
  obtain ⟨FIN, HF⟩ : ∃ F, Hid (rdS mi t = F) := ⟨_, hide rfl⟩
  rw [HF.out]
  have hsz := size_list l
  have hat := get_list l
  have hx1 : ∃ T : ByteArray, (⟨l.toArray⟩ : ByteArray).extract 1 l.length = T ∧ T = ⟨(l.drop 1).toArray⟩ := ⟨_, rfl, extract_one l⟩
  obtain ⟨T1, hT1, HT1⟩ := hx1
  generalize hs : (⟨l.toArray⟩ : ByteArray) = s at *
  have HS : Hid (s = ⟨l.toArray⟩) := hide hs.symm
  clear hs
  go_enter Tryz.func45, Tryz.ntmps45
  go_upto_region 1 with fail
  go_cut [3] (fun vm wx => vm = .bool mi ∧ wx = w)
  case first =>
    clear HF htl ht hT1 HT1
    by_cases hn : l.length = 0
    · have hp : decide ((0 : Int) < (s.size : Int)) = false := decide_eq_false (by omega)
      obtain rfl : false = mi := by rw [← hmi, List.length_eq_zero_iff.1 hn]; rfl
      clear hat
      go_wp2_with fail
      go_meet
      exact ⟨rfl, rfl⟩
    · have hp : decide ((0 : Int) < (s.size : Int)) = true := decide_eq_true (by omega)
      have hg := hat 0 (by omega) (by omega)
      have hmi2 : ((l[0]'(by omega)).toNat == 45) = mi := by
        rw [← hmi, List.head?_eq_getElem?, List.getElem?_eq_getElem (by omega)]
        generalize l[0]'(by omega) = c
        by_cases hc : c = 45
        · subst hc; rfl
        · rw [decide_eq_false (by simp; exact hc), beq_eq_false_iff_ne]
          intro e
          exact hc (UInt8.toNat_inj.1 (by show c.toNat = 45; omega))
      have h0l : 0 < l.length := by omega
      generalize l[0]'h0l = c at *
      clear hat hmi
      go_wp2_with fail
      go_meet
      refine ⟨?_, rfl⟩
      rw [← hmi2]
      congr 1
      by_cases hc : c.toNat = 45
      · rw [hc]; rfl
      · rw [beq_eq_false_iff_ne.2 hc, beq_eq_false_iff_ne]; omega
  case rest =>
  obtain ⟨rfl, hw⟩ := hcut
  obtain rfl := hw.symm
  have hml : mi = true → 1 ≤ l.length := fun e => by
    rw [e] at hmi
    have := of_decide_eq_true hmi
    cases l with
    | nil => simp at this
    | cons c r => simp
  clear hat hmi
  go_upto_if 20 with fail
  go_cut [4] (fun vt wx => vt = .string ⟨t.toArray⟩ ∧ wx = w)
  case first =>
    clear HF htl
    cases mi
    · go_wp2_with fail
      go_meet
      exact ⟨by rw [HS.out, ← ht]; rfl, rfl⟩
    · have h1z : (1 : Int) ≤ (l.length : Int) := by have := hml rfl; omega
      clear hml
      go_wp2_with fail
      go_meet
      exact ⟨by rw [← ht]; simp, rfl⟩
  case rest =>
  obtain ⟨rfl, hw⟩ := hcut
  obtain rfl := hw.symm
  clear HS ht hsz hT1 HT1 hl hml
  have htz := size_list t
  have hat := get_list t
  have hx3 := extract_three t
  have htn : ((⟨t.toArray⟩ : ByteArray).toList == [110, 97, 110]) = decide (t = [110, 97, 110]) := list_eq' t _
  have hti : ((⟨t.toArray⟩ : ByteArray).toList == [105, 110, 102]) = decide (t = [105, 110, 102]) := list_eq' t _
  generalize (⟨t.toArray⟩ : ByteArray) = T at *
  have cN := fun w => qOf 9221120237041090561 w
  have cI := fun w => qOf 9218868437227405312 w
  have cBt := fun b hb w => qBits b hb w
  have cO := fun b w => qOf b w
  by_cases h1 : t = [110, 97, 110]
  · rw [decide_eq_true h1] at htn
    have hr : rdS mi t = 9221120237041090561 := by unfold rdS; rw [if_pos h1]
    have HR : Hid (FIN = 9221120237041090561) := hide (by rw [← HF.out, hr])
    clear hr h1 hti hx3 hat HF
    go_wp2_with fail
    refine (cN _).mono ?_
    rintro e w' ⟨rfl, hw⟩
    obtain rfl := hw.symm
    go_wp2_with fail
    go_ret
    exact ⟨by rw [HR.out]; rfl, 0, rfl⟩
  rw [decide_eq_false h1] at htn
  have hr : rdS mi t = rdX t + if mi = true then 9223372036854775808 else 0 := by unfold rdS; rw [if_neg h1]
  rw [HF.out] at hr
  clear HF
  have hxl := rdX_le t
  by_cases h2 : t = [105, 110, 102]
  · rw [decide_eq_true h2] at hti
    have hx : rdX t = 9218868437227405312 := by unfold rdX; rw [if_pos h2]
    rw [hx] at hr
    have HR := hide hr
    clear hr h1 h2 hx3 hat hx hxl
    go_wp2_with fail
    refine (cI _).mono ?_
    rintro e w' ⟨rfl, hw⟩
    obtain rfl := hw.symm
    cases mi
    · go_wp2_with fail
      go_ret
      exact ⟨by rw [HR.out]; rfl, 0, rfl⟩
    · have hcn : can 9218868437227405312 = 9218868437227405312 := by decide +kernel
      have hor : bits .or .u64 9218868437227405312 9223372036854775808 = 18442240474082181120 := or_sign 9218868437227405312 (by decide)
      have cB1 := fun w => cBt 9218868437227405312 (by decide) w
      rw [hcn] at cB1
      have cO1 := fun w => cO 18442240474082181120 w
      clear hcn cBt cO
      go_wp2_with fail
      refine (cB1 _).mono ?_
      rintro e w' ⟨rfl, hw⟩
      obtain rfl := hw.symm
      go_wp2_with fail
      refine (cO1 _).mono ?_
      rintro e w' ⟨rfl, hw⟩
      obtain rfl := hw.symm
      go_wp2_with fail
      go_ret
      exact ⟨by rw [HR.out]; rfl, 0, rfl⟩
  rw [decide_eq_false h2] at hti
  have hT3 : (⟨(t.take 3).toArray⟩ : ByteArray).toList = t.take 3 := toList_list _
  by_cases h3 : 4 < t.length ∧ t.take 3 = [48, 120, 49]
  · have hx : rdX t = rdT t := by unfold rdX; rw [if_neg h2, if_pos h3]
    rw [hx] at hr hxl
    have h4 : decide ((4 : Int) < (T.size : Int)) = true := decide_eq_true (by omega)
    have h5 : (⟨(t.take 3).toArray⟩ : ByteArray).toList == [48, 120, 49] := by rw [hT3, h3.2]; rfl
    have h4n := h3.1
    obtain ⟨G, hG⟩ : ∃ G, g1 (t.drop 3) 15 1 0 = G := ⟨_, rfl⟩
    have hrt : rdT t = rung G.2.1 (-(4 * (G.2.2 : Int)) + expo (G.1.drop 1)) := by unfold rdT; rw [hG]
    have HG := hide hG
    rw [hrt] at hr hxl
    have HR := hide hr
    have HX := hide hxl
    clear hr h1 h2 h3 hx hxl hrt hT3 cN cI hG
    generalize (⟨(t.take 3).toArray⟩ : ByteArray) = T3 at *
    go_wp2_with fail
    go_loop [6, 7, 8] (fun vi vm ve => ∃ i m k : Nat, vi = .int .i64 (i : Int) ∧ vm = .int .u64 (m : Int) ∧ ve = .int .i64 (-(4 * (k : Int))) ∧ 3 ≤ i ∧ i ≤ 18 ∧ i ≤ t.length ∧ m < 18446744073709551616 ∧ k + 3 ≤ i ∧ Hid (g1 (t.drop i) (18 - i) m k = G)) (fun vi _ _ => 18 - (Go.RowKit.intOf vi).toNat)
    case atStart => exact ⟨3, 1, 0, rfl, rfl, rfl, by omega, by omega, by omega, by decide, by omega, HG⟩
    case round =>
      obtain ⟨i, m, k, rfl, rfl, rfl, hi3, hi18, hil, hm, hki, hg⟩ := hrel
      obtain ⟨gb, hgb⟩ : ∃ gb : Bool, decide (i < t.length ∧ t[i]? ≠ some 112 ∧ i < 18) = gb := ⟨_, rfl⟩
      go_upto_region 12 with fail
      go_cut [53] from 40 to 53 (fun vc wx => vc = .bool gb ∧ wx = w)
      case first =>
        clear HG hg HR HX
        by_cases hlt : i < t.length
        · have q1 : decide ((i : Int) < (T.size : Int)) = true := decide_eq_true (by omega)
          have q1' : (i : Int) < (t.length : Int) := by omega
          have q2 := hat i (by omega) hlt
          clear hat
          rw [List.getElem?_eq_getElem hlt] at hgb
          generalize t[i]'hlt = c at *
          by_cases hc : c = 112
          · have hcz : ((c.toNat : Int) == 112) = true := by rw [hc]; rfl
            have hcn : (c.toNat == 112) = true := by rw [hc]; rfl
            have hce : (c.toNat : Int) = 112 := by rw [hc]; rfl
            obtain rfl : false = gb := by rw [← hgb, decide_eq_false (by rw [hc]; simp)]
            clear hc hgb
            go_wp2_with fail
            go_meet
            exact ⟨rfl, rfl⟩
          · have hcz : ((c.toNat : Int) == 112) = false := by
              rw [beq_eq_false_iff_ne]
              intro e
              exact hc (UInt8.toNat_inj.1 (by show c.toNat = 112; omega))
            have hcn : (c.toNat == 112) = false := by
              rw [beq_eq_false_iff_ne]
              intro e
              exact hc (UInt8.toNat_inj.1 (by show c.toNat = 112; omega))
            have hce : ¬ (c.toNat : Int) = 112 := by rw [beq_eq_false_iff_ne] at hcz; exact hcz
            by_cases h18 : i < 18
            · have h18z : (i : Int) < 18 := by omega
              obtain rfl : true = gb := by rw [← hgb, decide_eq_true (by simp only [ne_eq, Option.some.injEq]; exact ⟨hlt, hc, h18⟩)]
              clear hc hgb
              go_wp2_with fail
              go_meet
              exact ⟨congrArg Value.bool (by rw [bne, hcz]; rfl), rfl⟩
            · have h18z : ¬ (i : Int) < 18 := by omega
              obtain rfl : false = gb := by rw [← hgb, decide_eq_false (fun h => h18 h.2.2)]
              clear hc hgb
              go_wp2_with fail
              go_meet
              exact ⟨rfl, rfl⟩
        · have q1 : decide ((i : Int) < (T.size : Int)) = false := decide_eq_false (by omega)
          have q1' : ¬ (i : Int) < (t.length : Int) := by omega
          obtain rfl : false = gb := by rw [← hgb, decide_eq_false (fun h => hlt h.1)]
          clear hat hgb
          go_wp2_with fail
          go_meet
          exact ⟨rfl, rfl⟩
      case rest =>
      obtain ⟨rfl, hw⟩ := hcut
      obtain rfl := hw.symm
      by_cases hgo : i < t.length ∧ t[i]? ≠ some 112 ∧ i < 18
      · obtain rfl : true = gb := by rw [← hgb, decide_eq_true hgo]
        obtain ⟨hlt, hne, h18⟩ := hgo
        have q1' : (i : Int) < (t.length : Int) := by omega
        have q2 := hat i (by omega) hlt
        rw [List.getElem?_eq_getElem hlt] at hne
        have hdr : t.drop i = t[i]'hlt :: t.drop (i + 1) := List.drop_eq_getElem_cons hlt
        generalize t[i]'hlt = c at *
        have hc112 : c ≠ 112 := fun e => hne (by rw [e])
        rw [hdr, show 18 - i = (18 - (i + 1)) + 1 by omega] at hg
        have hg' : (if c = 112 then (c :: t.drop (i + 1), m, k) else if c = 46 then g1 (t.drop (i + 1)) (18 - (i + 1)) m k else g1 (t.drop (i + 1)) (18 - (i + 1)) (m * 16 % 18446744073709551616 + dz c.toNat) (k + 1)) = G := hg.out
        rw [if_neg hc112] at hg'
        by_cases h46 : c = 46
        · rw [if_pos h46] at hg'
          have hcz : ((c.toNat : Int) == 46) = true := by rw [h46]; rfl
          have hcn : (c.toNat == 46) = true := by rw [h46]; rfl
          have Hg := hide hg'
          clear hg' hg hdr hgb hne hat h46 hc112
          go_wp2_with fail
          exact ⟨⟨i + 1, m, k, by go_num, rfl, rfl, by omega, by omega, by omega, hm, by omega, Hg⟩, by simp [Go.RowKit.intOf]; omega⟩
        · rw [if_neg h46] at hg'
          have hcz : ((c.toNat : Int) == 46) = false := by
            rw [beq_eq_false_iff_ne]
            intro e
            exact h46 (UInt8.toNat_inj.1 (by show c.toNat = 46; omega))
          have hcn : (c.toNat == 46) = false := by
            rw [beq_eq_false_iff_ne]
            intro e
            exact h46 (UInt8.toNat_inj.1 (by show c.toNat = 46; omega))
          have Hg := hide hg'
          have hc256 := c.toNat_lt
          have cD := qDigit c.toNat hc256 w
          have hmx := dz_max c.toNat
          have hd16 := dz_lt c.toNat
          clear hg' hg hdr hgb hne hat h46 hc112
          go_wp2_with fail
          refine cD.mono ?_
          rintro e w' ⟨rfl, hw⟩
          obtain rfl := hw.symm
          clear cD
          generalize dgt c.toNat = D at *
          generalize dz c.toNat = d at *
          go_wp2_with fail
          exact ⟨⟨i + 1, m * 16 % 18446744073709551616 + d, k + 1, by go_num, by rw [or_hex m d hd16], by congr 1; omega, by omega, by omega, by omega, by omega, by omega, Hg⟩, by simp [Go.RowKit.intOf]; omega⟩
      · obtain rfl : false = gb := by rw [← hgb, decide_eq_false hgo]
        have hgs : G = (t.drop i, m, k) := by
          rw [← hg.out]
          exact g1_stop t i m k hgo
        clear hg hgb hgo HG
        subst hgs
        obtain ⟨r, hrr⟩ : ∃ r, t.drop (i + 1) = r := ⟨_, rfl⟩
        have hrd : (t.drop i).drop 1 = r := by rw [List.drop_drop]; exact hrr
        rw [show ((t.drop i, m, k) : List UInt8 × Nat × Nat).1.drop 1 = r from hrd] at HR HX
        obtain ⟨lo, hlo⟩ : ∃ lo : Bool, decide (r.head? = some 45) = lo := ⟨_, rfl⟩
        have hhd : r.head? = t[i + 1]? := by rw [← hrr, List.head?_drop]
        go_upto_region 18 with fail
        go_cut [9] from 73 to 82 (fun vc wx => vc = .bool lo ∧ wx = w)
        case first =>
          clear HR HX
          rw [hhd] at hlo
          by_cases hlt : i + 1 < t.length
          · have q1 : decide ((i : Int) + 1 < (T.size : Int)) = true := decide_eq_true (by omega)
            have q1' : (i : Int) + 1 < (t.length : Int) := by omega
            have q2 := hat (i + 1) (by omega) hlt
            clear hat
            rw [List.getElem?_eq_getElem hlt] at hlo
            generalize t[i + 1]'hlt = c at *
            have hlc : ((c.toNat : Int) == 45) = lo := by
              rw [← hlo]
              by_cases hc : c = 45
              · subst hc; rfl
              · rw [decide_eq_false (by simp; exact hc), beq_eq_false_iff_ne]
                intro e
                exact hc (UInt8.toNat_inj.1 (by show c.toNat = 45; omega))
            clear hlo hhd
            go_wp2_with fail
            go_meet
            exact ⟨congrArg Value.bool (by first | rfl | exact hlc), rfl⟩
          · have q1 : decide ((i : Int) + 1 < (T.size : Int)) = false := decide_eq_false (by omega)
            have q1' : ¬ (i : Int) + 1 < (t.length : Int) := by omega
            obtain rfl : false = lo := by rw [← hlo, List.getElem?_eq_none (by omega)]; rfl
            clear hat hlo
            go_wp2_with fail
            go_meet
            exact ⟨rfl, rfl⟩
        case rest =>
        obtain ⟨rfl, hw⟩ := hcut
        obtain rfl := hw.symm
        clear hhd
        obtain ⟨j0, hj0⟩ : ∃ j0 : Nat, i + 1 + (if lo = true then 1 else 0) = j0 := ⟨_, rfl⟩
        have hj20 : j0 ≤ 20 := by rw [← hj0]; split <;> omega
        have hEx : expo r = if lo = true then -(g2 (t.drop j0) 0 : Int) else (g2 (t.drop j0) 0 : Int) := by
          unfold expo
          rw [← hj0]
          cases lo
          · rw [if_neg (of_decide_eq_false hlo), if_neg (by decide), if_neg (by decide), Nat.add_zero, hrr]
          · rw [if_pos (of_decide_eq_true hlo), if_pos rfl, if_pos rfl, ← List.drop_drop, hrr]
        obtain ⟨N, hN⟩ : ∃ N, g2 (t.drop j0) 0 = N := ⟨_, rfl⟩
        rw [hN] at hEx
        have HN := hide hN
        have HE := hide hEx
        clear hN hEx hrd hrr hlo
        generalize expo r = E at *
        go_upto_if 83 with fail
        go_cut [6] from 83 to 85 (fun vi wx => vi = .int .i64 (j0 : Int) ∧ wx = w)
        case first =>
          clear HR HX HN HE
          cases lo
          · obtain rfl : i + 1 = j0 := hj0
            go_wp2_with fail
            go_meet
            exact ⟨by congr 1, rfl⟩
          · obtain rfl : i + 1 + 1 = j0 := hj0
            go_wp2_with fail
            go_meet
            exact ⟨by congr 1, rfl⟩
        case rest =>
        obtain ⟨rfl, hw⟩ := hcut
        obtain rfl := hw.symm
        clear hj0
        go_wp2_with fail
        go_loop [6, 10] (fun vj vn => ∃ j n : Nat, vj = .int .i64 (j : Int) ∧ vn = .int .i64 (n : Int) ∧ j ≤ t.length + 20 ∧ n ≤ 100015 ∧ Hid (g2 (t.drop j) n = N)) (fun vj _ => t.length + 20 - (Go.RowKit.intOf vj).toNat)
        case atStart => exact ⟨j0, 0, rfl, rfl, by omega, by omega, HN⟩
        case round =>
          obtain ⟨j, n, rfl, rfl, hj, hn, hg⟩ := hrel
          obtain ⟨gb, hgb⟩ : ∃ gb : Bool, decide (j < t.length ∧ n < 10000) = gb := ⟨_, rfl⟩
          go_upto_region 22 with fail
          go_cut [93] from 86 to 93 (fun vc wx => vc = .bool gb ∧ wx = w)
          case first =>
            clear HN HE HR HX hg hat
            by_cases hlt : j < t.length
            · have q1 : decide ((j : Int) < (T.size : Int)) = true := decide_eq_true (by omega)
              have q1' : (j : Int) < (t.length : Int) := by omega
              by_cases hn4 : n < 10000
              · have hnz : (n : Int) < 10000 := by omega
                obtain rfl : true = gb := by rw [← hgb, decide_eq_true ⟨hlt, hn4⟩]
                clear hgb
                go_wp2_with fail
                go_meet
                exact ⟨rfl, rfl⟩
              · have hnz : ¬ (n : Int) < 10000 := by omega
                obtain rfl : false = gb := by rw [← hgb, decide_eq_false (fun h => hn4 h.2)]
                clear hgb
                go_wp2_with fail
                go_meet
                exact ⟨rfl, rfl⟩
            · have q1 : decide ((j : Int) < (T.size : Int)) = false := decide_eq_false (by omega)
              have q1' : ¬ (j : Int) < (t.length : Int) := by omega
              obtain rfl : false = gb := by rw [← hgb, decide_eq_false (fun h => hlt h.1)]
              clear hgb
              go_wp2_with fail
              go_meet
              exact ⟨rfl, rfl⟩
          case rest =>
          obtain ⟨rfl, hw⟩ := hcut
          obtain rfl := hw.symm
          by_cases hgo : j < t.length ∧ n < 10000
          · obtain rfl : true = gb := by rw [← hgb, decide_eq_true hgo]
            obtain ⟨hlt, hn4⟩ := hgo
            have q1' : (j : Int) < (t.length : Int) := by omega
            have q2 := hat j (by omega) hlt
            have hdr : t.drop j = t[j]'hlt :: t.drop (j + 1) := List.drop_eq_getElem_cons hlt
            generalize t[j]'hlt = c at *
            rw [hdr] at hg
            have hg' : (if n < 10000 then g2 (t.drop (j + 1)) (10 * n + dz c.toNat) else n) = N := hg.out
            rw [if_pos hn4] at hg'
            have Hg := hide hg'
            have hc256 := c.toNat_lt
            have cD := qDigit c.toNat hc256 w
            have hmx := dz_max c.toNat
            have hd16 := dz_lt c.toNat
            clear hg' hg hdr hgb hat
            go_wp2_with fail
            refine cD.mono ?_
            rintro e w' ⟨rfl, hw⟩
            obtain rfl := hw.symm
            clear cD
            generalize dgt c.toNat = D at *
            generalize dz c.toNat = d at *
            go_wp2_with fail
            exact ⟨⟨j + 1, 10 * n + d, by go_num, by go_num, by omega, by omega, Hg⟩, by simp [Go.RowKit.intOf]; omega⟩
          · obtain rfl : false = gb := by rw [← hgb, decide_eq_false hgo]
            have hNn : N = n := by
              rw [← hg.out]
              exact g2_stop t j n hgo
            subst hNn
            have hEE := HE.out
            have hE1 : -100015 ≤ E ∧ E ≤ 100015 := by rw [hEE]; split <;> omega
            obtain ⟨hE1, hE2⟩ := hE1
            have HE' := hide hEE
            clear hg hgb hgo HN HE hEE hat
            go_upto_if 104 with fail
            go_cut [10] from 104 to 106 (fun vn wx => vn = .int .i64 E ∧ wx = w)
            case first =>
              clear HR HX
              have hEE := HE'.out
              clear HE'
              cases lo
              · obtain rfl : E = (N : Int) := hEE
                go_wp2_with fail
                go_meet
                exact ⟨rfl, rfl⟩
              · obtain rfl : E = -(N : Int) := hEE
                go_wp2_with fail
                go_meet
                exact ⟨rfl, rfl⟩
            case rest =>
            obtain ⟨rfl, hw⟩ := hcut
            obtain rfl := hw.symm
            have cR := qRounded m (-(4 * (k : Int)) + E) hm (by omega) (by omega) w
            clear HE'
            have HX' : rung m (-(4 * (k : Int)) + E) ≤ 9218868437227405312 := HX.out
            have HR' : FIN = rung m (-(4 * (k : Int)) + E) + if mi = true then 9223372036854775808 else 0 := HR.out
            clear HX HR
            go_wp2_with fail
            refine cR.mono ?_
            rintro e w' ⟨rfl, q, rfl⟩
            clear cR
            generalize rung m (-(4 * (k : Int)) + E) = X at *
            have hcn : can X = X := by unfold can mg; rw [if_neg (by omega)]
            cases mi
            · have HR := hide HR'
              clear HR'
              go_wp2_with fail
              go_ret
              exact ⟨by rw [HR.out]; rfl, q, rfl⟩
            · have HR := hide HR'
              have hor := or_sign X (by omega)
              have cB1 := fun w => cBt X (by omega) w
              rw [hcn] at cB1
              have cO1 := fun w => cO (X + 9223372036854775808) w
              clear HR' cBt cO hcn
              go_wp2_with fail
              refine (cB1 _).mono ?_
              rintro e w' ⟨rfl, hw⟩
              obtain rfl := hw.symm
              go_wp2_with fail
              refine (cO1 _).mono ?_
              rintro e w' ⟨rfl, hw⟩
              obtain rfl := hw.symm
              go_wp2_with fail
              go_ret
              exact ⟨by rw [HR.out]; rfl, q, rfl⟩
  · have hx : rdX t = 0 := by unfold rdX; rw [if_neg h2, if_neg h3]
    rw [hx] at hr
    have HR := hide hr
    clear hr hx hxl cN cI h1 h2 hat
    by_cases h4 : 4 < t.length
    · have h4z : (4 : Int) < (t.length : Int) := by omega
      have h5 : ((⟨(t.take 3).toArray⟩ : ByteArray).toList == [48, 120, 49]) = false := by rw [hT3, beq_eq_false_iff_ne]; exact fun e => h3 ⟨h4, e⟩
      clear h3 hT3
      generalize (⟨(t.take 3).toArray⟩ : ByteArray) = T3 at *
      cases mi
      · go_wp2_with fail
        go_ret
        exact ⟨by rw [HR.out]; rfl, 0, rfl⟩
      · have hcn : can 0 = 0 := by decide +kernel
        have hor : bits .or .u64 0 9223372036854775808 = 9223372036854775808 := or_sign 0 (by decide)
        have cB1 := fun w => cBt 0 (by decide) w
        rw [hcn] at cB1
        have cO1 := fun w => cO 9223372036854775808 w
        clear hcn cBt cO
        go_wp2_with fail
        refine (cB1 _).mono ?_
        rintro e w' ⟨rfl, hw⟩
        obtain rfl := hw.symm
        go_wp2_with fail
        refine (cO1 _).mono ?_
        rintro e w' ⟨rfl, hw⟩
        obtain rfl := hw.symm
        go_wp2_with fail
        go_ret
        exact ⟨by rw [HR.out]; rfl, 0, rfl⟩
    · have h4z : ¬ (4 : Int) < (t.length : Int) := by omega
      clear h3 hT3 hx3
      cases mi
      · go_wp2_with fail
        go_ret
        exact ⟨by rw [HR.out]; rfl, 0, rfl⟩
      · have hcn : can 0 = 0 := by decide +kernel
        have hor : bits .or .u64 0 9223372036854775808 = 9223372036854775808 := or_sign 0 (by decide)
        have cB1 := fun w => cBt 0 (by decide) w
        rw [hcn] at cB1
        have cO1 := fun w => cO 9223372036854775808 w
        clear hcn cBt cO
        go_wp2_with fail
        refine (cB1 _).mono ?_
        rintro e w' ⟨rfl, hw⟩
        obtain rfl := hw.symm
        go_wp2_with fail
        refine (cO1 _).mono ?_
        rintro e w' ⟨rfl, hw⟩
        obtain rfl := hw.symm
        go_wp2_with fail
        go_ret
        exact ⟨by rw [HR.out]; rfl, 0, rfl⟩
end Go.Proofs.YtnpdfkcjjedamaaGreatDoor.Sca
