/- The document's Parse: one way of its sign (gen_z13.py). -/
import Derived.Test.YteknpejkooemjaaDoorZh13
namespace Go.Proofs.YteknpejkooemjaaDoor.Pau
open Go.RowKit Go.Shelf Go.Proofs.YteknpejkooemjaaDoor.Oct Go.Proofs.YteknpejkooemjaaDoor.Gt

set_option maxRecDepth 100000 in
set_option maxHeartbeats 4000000 in
theorem dParse_e (l : List UInt8) (h0 : 1 < l.length) (ha : l.getD 0 0 ≠ 45) (hb : l.getD 1 0 = 105) (w : World) : Calls Tryd.prog 25 #[str l] w fun e w' => e = .returned (.tuple #[pV (parR l).1, .int .i64 (parR l).2]) ∧ Below w.heap.size w w' := by
  have HGG := hide (par_same l)
  have hrt := dP_rt l
  have hDI : dI l = 1 := by unfold dI; rw [if_pos ⟨hb, h0⟩]
  have hDM : dM l = 0 := by unfold dM; rw [if_neg (fun g => ha g.1)]
  obtain ⟨row, hrow⟩ : ∃ row, l.drop 2 = row := ⟨_, rfl⟩
  obtain ⟨m, hm⟩ : ∃ m, min 64 row.length = m := ⟨_, rfl⟩
  have HD : Hid ((⟨(m : Int), rd cx row m, rd cz row m, 1⟩ : P) = dP l) := hide (by
    unfold dP
    rw [hDI, hDM, show 1 + 1 = 2 from rfl, hrow, hm]
    rfl)
  have cPr := fun W => dPrint_ok (dP l) (rt_wd hrt) hrt W
  generalize parR l = G at *
  generalize hDD : dP l = D at *
  rw [← HD.out] at cPr
  rw [HD.out] at cPr
  have cPr' : ∀ W, Calls Tryd.prog 23 #[.agg #[.int .i64 (m : Int), .int .u64 (rd cx row m : Int), .int .u64 (rd cz row m : Int), .int .i64 1]] W fun e w' => e = .returned (.tuple #[.string ⟨(prt D).toArray⟩, .int .i64 0]) ∧ Below W.heap.size W w' := by
    have e : pV D = .agg #[.int .i64 (m : Int), .int .u64 (rd cx row m : Int), .int .u64 (rd cz row m : Int), .int .i64 1] := by rw [← HD.out]; rfl
    rw [e] at cPr
    exact cPr
  clear cPr
  have cPr := cPr'
  clear cPr'
  obtain ⟨len, hlen⟩ : ∃ len, l.length = len := ⟨_, rfl⟩
  have HRL : Hid (row.length = len - 2) := hide (by rw [← hrow, List.length_drop, hlen])
  have hm' : m = min 64 (len - 2) := by rw [← hm, HRL.out]
  have HIX : Hid (∀ (k : Nat) (b : UInt8), row[k]? = some b → ∀ W, (Instr.index 9 (.string ⟨l.toArray⟩) (.int .i64 ((2 : Int) + (k : Int)))).run Tryd.prog W = .ok (.int .u8 (b.toNat : Int)) W) := hide (fun k b h W => by have := ix_at l (2 + k) b (by rw [← hrow, List.getElem?_drop] at h; exact h) W; rw [show (((2 + k : Nat)) : Int) = (2 : Int) + (k : Int) by omega] at this; exact this)
  have hsz := size_str l
  rw [hlen] at hsz
  have d0 : (0 < len) = True := eq_true (by omega)
  have d0' : ((0 : Int) < (len : Int)) = True := eq_true (by omega)
  have d1 : (1 < len) = True := eq_true (by omega)
  have d1' : ((1 : Int) < (len : Int)) = True := eq_true (by omega)
  obtain ⟨a0, ha0⟩ : ∃ a0, l[0]? = some a0 := ⟨_, List.getElem?_eq_getElem (by omega)⟩
  have ga : l.getD 0 0 = a0 := by rw [List.getD_eq_getElem?_getD, ha0]; rfl
  have ixa := fun W => ix_at l 0 a0 ha0 W
  rw [show (((0 : Nat)) : Int) = 0 from rfl] at ixa
  have na : ((a0.toNat : Int) == 45) = false := beq_eq_false_iff_ne.2 (fun e => ha (ga.trans (UInt8.toNat_inj.1 (by simpa using Int.ofNat_inj.1 e))))
  generalize (a0.toNat : Int) = av at *
  obtain ⟨b0, hb0⟩ : ∃ b0, l[1]? = some b0 := ⟨_, List.getElem?_eq_getElem (by omega)⟩
  have gb : l.getD 1 0 = b0 := by rw [List.getD_eq_getElem?_getD, hb0]; rfl
  have ixb := fun W => ix_at l 1 b0 hb0 W
  rw [show (((1 : Nat)) : Int) = 1 from rfl] at ixb
  have eb : b0 = 105 := gb.symm.trans hb
  subst eb
  obtain ⟨G1, G2⟩ := At4.two w (.int .i64 0) (.int .u64 0) (.int .u64 0) (.int .i64 0) (.int .i64 0) (.int .u64 0) (.int .u64 0) (.int .i64 0)
  have HG1 := hide G1
  have HG2 := hide G2
  have HB0 := hide (bkp (bnew w (.cells #[.int .i64 0, .int .u64 0, .int .u64 0, .int .i64 0] 24)) (bnew _ (.cells #[.int .i64 0, .int .u64 0, .int .u64 0, .int .i64 0] 24)))
  clear G1 G2 hrow hrt hDI hDM
  have HT2 := At4.two w (.int .i64 0) (.int .u64 0) (.int .u64 0) (.int .i64 0) (.int .i64 0) (.int .u64 0) (.int .u64 0) (.int .i64 1)
  have HRs := hide HT2.1
  have HPs := hide HT2.2
  clear HT2
  have HBs := hide (bkp (bnew w (.cells #[.int .i64 0, .int .u64 0, .int .u64 0, .int .i64 0] 24)) (bnew _ (.cells #[.int .i64 0, .int .u64 0, .int .u64 0, .int .i64 1] 24)))
  have fz3 := HG2.out.fz 3
  unfold str
  obtain ⟨s, hs⟩ : ∃ s, (⟨l.toArray⟩ : ByteArray) = s := ⟨_, rfl⟩
  rw [hs] at hsz HIX ⊢
  rw [hs] at ixa
  rw [hs] at ixb
  have HS := hide hs
  clear hs
  have hm2 : m ≤ 64 := by omega
  have hm3 : m ≤ len - 2 := by omega
  have Hm := hide hm'
  have HLn := hide hlen
  clear hm' hm hlen hDD h0 ha ha0 ga hb hb0 gb
  go_enter Tryd.func25, Tryd.ntmps25
  go_wp2_with fail
  generalize hw2 : ((w.alloc (.cells #[.int .i64 0, .int .u64 0, .int .u64 0, .int .i64 0] 24)).alloc (.cells #[.int .i64 0, .int .u64 0, .int .u64 0, .int .i64 1] 24)) = w2 at *
  clear hw2
  go_loopw [5] (fun vi wr => ∃ k : Nat, vi = .int .i64 ((2 : Int) + (k : Int)) ∧ k ≤ m ∧ Hid (Below w.heap.size w wr ∧ At4 wr w.heap.size (.int .i64 0) (.int .u64 0) (.int .u64 0) (.int .i64 0) ∧ At4 wr (w.heap.size + 1) (.int .i64 (k : Int)) (.int .u64 (rd cx row k : Int)) (.int .u64 (rd cz row k : Int)) (.int .i64 1))) (fun vi _ => 2 + m - (Go.RowKit.intOf vi).toNat)
  case atStart => exact ⟨0, rfl, Nat.zero_le _, hide ⟨HBs.out, HRs.out, HPs.out⟩⟩
  case round =>
    obtain ⟨k, rfl, hk, HI⟩ := hrel
    obtain ⟨x0, x1, x2, x3, x4⟩ := HI.out.2.2.cells
    by_cases h : k < m
    · have hm64 : k < 64 := by omega
      have hkl : 2 + k < len := by omega
      have hd1 : decide ((2 : Int) + (k : Int) < (len : Int)) = true := decide_eq_true (by omega)
      have hd5 : ((2 : Int) + (k : Int) < (len : Int)) = True := eq_true (by omega)
      have hd2 : decide ((k : Int) < 64) = true := decide_eq_true (by omega)
      obtain ⟨b, hb⟩ : ∃ b, row[k]? = some b := ⟨_, List.getElem?_eq_getElem (by rw [HRL.out]; omega)⟩
      have hgd : row.getD k 0 = b := by rw [List.getD_eq_getElem?_getD, hb]; rfl
      have hix := fun W => HIX.out k b hb W
      have hxs : rd cx row (k + 1) = rd cx row k ||| cx b * 2 ^ k := by rw [← rd_or cx_le row k, hgd]
      have hzs : rd cz row (k + 1) = rd cz row k ||| cz b * 2 ^ k := by rw [← rd_or cz_le row k, hgd]
      have hxl : rd cx row k < 18446744073709551616 := Nat.lt_of_lt_of_le (rd_lt cx_le row k) (Nat.pow_le_pow_right (by decide) (show k ≤ 64 by omega))
      have hzl : rd cz row k < 18446744073709551616 := Nat.lt_of_lt_of_le (rd_lt cz_le row k) (Nat.pow_le_pow_right (by decide) (show k ≤ 64 by omega))
      obtain ⟨a1, a2, a3⟩ := pow_run k hm64
      have u1 : IntKind.u64.wrap (k : Int) = (k : Int) := by rw [wrapU]; omega
      have o1 : bits .or .u64 (rd cx row k : Int) ((2 ^ k : Nat) : Int) = ((rd cx row k ||| 2 ^ k : Nat) : Int) := u64_or_nat _ _ hxl a3
      have o2 : bits .or .u64 (rd cz row k : Int) ((2 ^ k : Nat) : Int) = ((rd cz row k ||| 2 ^ k : Nat) : Int) := u64_or_nat _ _ hzl a3
      have hwk : wrap64 ((k : Int) + 1) = (k : Int) + 1 := by unfold wrap64; omega
      have f0 := HI.out.2.2.fz 0
      have f1 := HI.out.2.2.fz 1
      have f2 := HI.out.2.2.fz 2
      have hst := store_i
      by_cases b88 : b = 88
      · subst b88
        have HX : Hid (rd cx row (k + 1) = rd cx row k ||| 2 ^ k) := hide (by rw [hxs, show cx 88 = 1 by decide, Nat.one_mul])
        have HZ : Hid (rd cz row (k + 1) = rd cz row k) := hide (by rw [hzs, show cz 88 = 0 by decide, Nat.zero_mul, Nat.or_zero])
        generalize rd cx row k ||| 2 ^ k = X1 at *
        generalize rd cx row k = X at *
        generalize rd cz row k ||| 2 ^ k = Z1 at *
        generalize rd cz row k = Z at *
        generalize 2 ^ k = pw at *
        have HN := hide (((HI.out.2.2.set1 (.int .u64 (X1 : Int))).set0 (.int .i64 ((k : Int) + 1))))
        have HR := hide ((HI.out.2.1.off (k := w.heap.size + 1) (j := 1) (v := .int .u64 (X1 : Int)) (by omega)).off (k := w.heap.size + 1) (j := 0) (v := .int .i64 ((k : Int) + 1)) (by omega))
        have HBn := hide ((HI.out.1.setCell (p := ⟨w.heap.size + 1, 1, none⟩) (show w.heap.size ≤ w.heap.size + 1 by omega) (.int .u64 (X1 : Int))).setCell (p := ⟨w.heap.size + 1, 0, none⟩) (show w.heap.size ≤ w.heap.size + 1 by omega) (.int .i64 ((k : Int) + 1)))
        clear hxs hzs hxl hzl HI hgd
        go_wp2_with fail
        go_roundw
        case rel => exact ⟨k + 1, by go_num, by omega, hide ⟨HBn.out, HR.out, by rw [HX.out, HZ.out]; exact HN.out⟩⟩
        case measure => simp [Go.RowKit.intOf]; omega
      · have n88 : ((b.toNat : Int) == 88) = false := beq_eq_false_iff_ne.2 (fun e => b88 (UInt8.toNat_inj.1 (by simpa using Int.ofNat_inj.1 e)))
        by_cases b89 : b = 89
        · subst b89
          have HX : Hid (rd cx row (k + 1) = rd cx row k ||| 2 ^ k) := hide (by rw [hxs, show cx 89 = 1 by decide, Nat.one_mul])
          have HZ : Hid (rd cz row (k + 1) = rd cz row k ||| 2 ^ k) := hide (by rw [hzs, show cz 89 = 1 by decide, Nat.one_mul])
          generalize rd cx row k ||| 2 ^ k = X1 at *
          generalize rd cx row k = X at *
          generalize rd cz row k ||| 2 ^ k = Z1 at *
          generalize rd cz row k = Z at *
          generalize 2 ^ k = pw at *
          have HN := hide (((HI.out.2.2.set1 (.int .u64 (X1 : Int))).set2 (.int .u64 (Z1 : Int))).set0 (.int .i64 ((k : Int) + 1)))
          have HR := hide (((HI.out.2.1.off (k := w.heap.size + 1) (j := 1) (v := .int .u64 (X1 : Int)) (by omega)).off (k := w.heap.size + 1) (j := 2) (v := .int .u64 (Z1 : Int)) (by omega)).off (k := w.heap.size + 1) (j := 0) (v := .int .i64 ((k : Int) + 1)) (by omega))
          have HBn := hide (((HI.out.1.setCell (p := ⟨w.heap.size + 1, 1, none⟩) (show w.heap.size ≤ w.heap.size + 1 by omega) (.int .u64 (X1 : Int))).setCell (p := ⟨w.heap.size + 1, 2, none⟩) (show w.heap.size ≤ w.heap.size + 1 by omega) (.int .u64 (Z1 : Int))).setCell (p := ⟨w.heap.size + 1, 0, none⟩) (show w.heap.size ≤ w.heap.size + 1 by omega) (.int .i64 ((k : Int) + 1)))
          clear hxs hzs hxl hzl HI hgd n88
          go_wp2_with fail
          go_roundw
          case rel => exact ⟨k + 1, by go_num, by omega, hide ⟨HBn.out, HR.out, by rw [HX.out, HZ.out]; exact HN.out⟩⟩
          case measure => simp [Go.RowKit.intOf]; omega
        · have n89 : ((b.toNat : Int) == 89) = false := beq_eq_false_iff_ne.2 (fun e => b89 (UInt8.toNat_inj.1 (by simpa using Int.ofNat_inj.1 e)))
          by_cases b90 : b = 90
          · subst b90
            have HX : Hid (rd cx row (k + 1) = rd cx row k) := hide (by rw [hxs, show cx 90 = 0 by decide, Nat.zero_mul, Nat.or_zero])
            have HZ : Hid (rd cz row (k + 1) = rd cz row k ||| 2 ^ k) := hide (by rw [hzs, show cz 90 = 1 by decide, Nat.one_mul])
            generalize rd cx row k ||| 2 ^ k = X1 at *
            generalize rd cx row k = X at *
            generalize rd cz row k ||| 2 ^ k = Z1 at *
            generalize rd cz row k = Z at *
            generalize 2 ^ k = pw at *
            have HN := hide ((HI.out.2.2.set2 (.int .u64 (Z1 : Int))).set0 (.int .i64 ((k : Int) + 1)))
            have HR := hide ((HI.out.2.1.off (k := w.heap.size + 1) (j := 2) (v := .int .u64 (Z1 : Int)) (by omega)).off (k := w.heap.size + 1) (j := 0) (v := .int .i64 ((k : Int) + 1)) (by omega))
            have HBn := hide ((HI.out.1.setCell (p := ⟨w.heap.size + 1, 2, none⟩) (show w.heap.size ≤ w.heap.size + 1 by omega) (.int .u64 (Z1 : Int))).setCell (p := ⟨w.heap.size + 1, 0, none⟩) (show w.heap.size ≤ w.heap.size + 1 by omega) (.int .i64 ((k : Int) + 1)))
            clear hxs hzs hxl hzl HI hgd n88 n89
            go_wp2_with fail
            go_roundw
            case rel => exact ⟨k + 1, by go_num, by omega, hide ⟨HBn.out, HR.out, by rw [HX.out, HZ.out]; exact HN.out⟩⟩
            case measure => simp [Go.RowKit.intOf]; omega
          · have n90 : ((b.toNat : Int) == 90) = false := beq_eq_false_iff_ne.2 (fun e => b90 (UInt8.toNat_inj.1 (by simpa using Int.ofNat_inj.1 e)))
            have HX : Hid (rd cx row (k + 1) = rd cx row k) := hide (by rw [hxs, show cx b = 0 by unfold cx; exact if_neg (by rintro (e | e) <;> contradiction), Nat.zero_mul, Nat.or_zero])
            have HZ : Hid (rd cz row (k + 1) = rd cz row k) := hide (by rw [hzs, show cz b = 0 by unfold cz; exact if_neg (by rintro (e | e) <;> contradiction), Nat.zero_mul, Nat.or_zero])
            generalize rd cx row k ||| 2 ^ k = X1 at *
            generalize rd cx row k = X at *
            generalize rd cz row k ||| 2 ^ k = Z1 at *
            generalize rd cz row k = Z at *
            generalize 2 ^ k = pw at *
            generalize (b.toNat : Int) = bv at *
            have HN := hide (HI.out.2.2.set0 (.int .i64 ((k : Int) + 1)))
            have HR := hide (HI.out.2.1.off (k := w.heap.size + 1) (j := 0) (v := .int .i64 ((k : Int) + 1)) (by omega))
            have HBn := hide (HI.out.1.setCell (p := ⟨w.heap.size + 1, 0, none⟩) (show w.heap.size ≤ w.heap.size + 1 by omega) (.int .i64 ((k : Int) + 1)))
            clear hxs hzs hxl hzl HI hgd
            go_wp2_with fail
            go_roundw
            case rel => exact ⟨k + 1, by go_num, by omega, hide ⟨HBn.out, HR.out, by rw [HX.out, HZ.out]; exact HN.out⟩⟩
            case measure => simp [Go.RowKit.intOf]; omega
    · obtain rfl : k = m := by omega
      have HBi := hide HI.out.1
      have HRi := hide HI.out.2.1
      have HPi := hide HI.out.2.2
      clear HI
      have HE : Hid (¬ ((2 + k < len) ∧ k < 64)) := hide (by have := Hm.out; omega)
      by_cases hl2 : 2 + k < len
      · have hd1 : decide ((2 : Int) + (k : Int) < (len : Int)) = true := decide_eq_true (by omega)
        have hd2 : decide ((k : Int) < 64) = false := decide_eq_false (by have := HE.out; omega)
        have hd3 : (k < 64) = False := eq_false (by have := HE.out; omega)
        go_wp2_with fail
        refine (cPr _).mono ?_
        rintro e w5 ⟨rfl, hb5⟩
        have HB5 := hide (bkp HBi.out hb5)
        have hR := HRi.out.below hb5
        have hc5 := (HPi.out.below hb5).cells
        unfold At4 at hR
        clear hb5 x0 x1 x2 x3 x4
        obtain ⟨x0, x1, x2, x3, x4⟩ := hc5
        by_cases hE : prt D = l
        · have HG := hide (show G = (D, 0) by rw [HGG.out, if_pos hE])
          have hne := beq_str (prt D) l
          rw [HS.out] at hne
          rw [decide_eq_true hE] at hne
          clear hE
          generalize (⟨(prt D).toArray⟩ : ByteArray) = s1 at *
          go_wp2_with (first
            | (refine wpList_store_row rfl _ _ _ rfl w.heap.size _ rfl rfl _ _ hR (by exact infoP) (by rfl) (allP _ _ _ _) ?_))
          refine bodyPost_ret (results_ct rfl _ _ w.heap.size _ _ _ _ rfl (setRow_heap _ _ _ _ _ _ hR) Tryd.underlying24 rfl (by exact infoP)) rfl ?_
          exact ⟨by rw [HG.out, ← HD.out]; rfl, below_setRow HB5.out (Nat.le_refl _) _⟩
        · have HG := hide (show G = (oP, 130) by rw [HGG.out, if_neg hE])
          have hne := beq_str (prt D) l
          rw [HS.out] at hne
          rw [decide_eq_false hE] at hne
          clear hE
          generalize (⟨(prt D).toArray⟩ : ByteArray) = s1 at *
          go_wp2_with (first
            | (refine wpList_store_row rfl _ _ _ rfl w.heap.size _ rfl rfl _ _ hR (by exact infoP) (by rfl) (allP _ _ _ _) ?_))
          refine bodyPost_ret (results_ct rfl _ _ w.heap.size _ _ _ _ rfl (setRow_heap _ _ _ _ _ _ hR) Tryd.underlying24 rfl (by exact infoP)) rfl ?_
          exact ⟨by rw [HG.out]; rfl, below_setRow HB5.out (Nat.le_refl _) _⟩
      · have hd1 : decide ((2 : Int) + (k : Int) < (len : Int)) = false := decide_eq_false (by omega)
        have hd4 : (2 + k < len) = False := eq_false hl2
        have hd5 : ((2 : Int) + (k : Int) < (len : Int)) = False := eq_false (by omega)
        clear hl2
        go_wp2_with fail
        refine (cPr _).mono ?_
        rintro e w5 ⟨rfl, hb5⟩
        have HB5 := hide (bkp HBi.out hb5)
        have hR := HRi.out.below hb5
        have hc5 := (HPi.out.below hb5).cells
        unfold At4 at hR
        clear hb5 x0 x1 x2 x3 x4
        obtain ⟨x0, x1, x2, x3, x4⟩ := hc5
        by_cases hE : prt D = l
        · have HG := hide (show G = (D, 0) by rw [HGG.out, if_pos hE])
          have hne := beq_str (prt D) l
          rw [HS.out] at hne
          rw [decide_eq_true hE] at hne
          clear hE
          generalize (⟨(prt D).toArray⟩ : ByteArray) = s1 at *
          go_wp2_with (first
            | (refine wpList_store_row rfl _ _ _ rfl w.heap.size _ rfl rfl _ _ hR (by exact infoP) (by rfl) (allP _ _ _ _) ?_))
          refine bodyPost_ret (results_ct rfl _ _ w.heap.size _ _ _ _ rfl (setRow_heap _ _ _ _ _ _ hR) Tryd.underlying24 rfl (by exact infoP)) rfl ?_
          exact ⟨by rw [HG.out, ← HD.out]; rfl, below_setRow HB5.out (Nat.le_refl _) _⟩
        · have HG := hide (show G = (oP, 130) by rw [HGG.out, if_neg hE])
          have hne := beq_str (prt D) l
          rw [HS.out] at hne
          rw [decide_eq_false hE] at hne
          clear hE
          generalize (⟨(prt D).toArray⟩ : ByteArray) = s1 at *
          go_wp2_with (first
            | (refine wpList_store_row rfl _ _ _ rfl w.heap.size _ rfl rfl _ _ hR (by exact infoP) (by rfl) (allP _ _ _ _) ?_))
          refine bodyPost_ret (results_ct rfl _ _ w.heap.size _ _ _ _ rfl (setRow_heap _ _ _ _ _ _ hR) Tryd.underlying24 rfl (by exact infoP)) rfl ?_
          exact ⟨by rw [HG.out]; rfl, below_setRow HB5.out (Nat.le_refl _) _⟩
end Go.Proofs.YteknpejkooemjaaDoor.Pau
