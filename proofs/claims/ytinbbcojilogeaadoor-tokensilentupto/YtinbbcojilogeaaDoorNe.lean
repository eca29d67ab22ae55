/- TokenSilent, as it is walked. -/
import Derived.Test.YtinbbcojilogeaaDoorNd
namespace Go.Proofs.YtinbbcojilogeaaDoor.Tok
open Go.RowKit Go.Shelf Go.Proofs.YtinbbcojilogeaaDoor.Oct

theorem own_later {w w' : World} {B e size n c m : Nat} {ao : Option Addr} {xs : List Value} (h : w.ownsRow B e size (.slice ao m c) n xs) (hb : Below w.heap.size w w') : w'.ownsRow B e size (.slice ao m c) n xs :=
  own_of_block h (fun k hk => hb.block k (own_lt h k hk).2)
theorem five (bn : Nat) (h : bn < 256) : Int.tmod (bn : Int) 5 = ((bn % 5 : Nat) : Int) ∧ wrap64 (bn : Int) = (bn : Int) ∧ ((bn % 5 : Nat) : Int) < 5 :=
  ⟨by rw [Int.tmod_eq_emod_of_nonneg (by omega)]; omega, by unfold wrap64; omega, by omega⟩
set_option maxRecDepth 100000 in
set_option maxHeartbeats 2000000 in
theorem xSilent (l mk : List UInt8) (ko : Option Addr) (kc : Nat) (hl : l.length ≤ 1048576) (hml : mk.length ≤ 140737488355328) (w : World) (hT : Tx w) (hM : Bs w ko mk) :
    Calls Tryd.prog 7 #[str l, .slice ko mk.length kc] w fun e w' => e = .returned (.bool true) ∧ Below w.heap.size w w' := by
  have c1 := nScan l (by omega) w hT.tw
  unfold ScanPost at c1
  cases hS : scanAll l with
  | bad F =>
    rw [hS] at c1
    simp only at c1
    obtain ⟨hF1, hF2⟩ := fault_code _ _ _ _ F hS
    obtain ⟨code, off, line, col⟩ := F
    simp only at *
    have hc1 : ((code : Int) == 0) = false := by rw [beq_eq_false_iff_ne]; omega
    have hc2 : ¬ (code : Int) = 0 := by omega
    have hc3 : (40 : Int) ≤ (code : Int) := by omega
    have hc4 : (code : Int) ≤ 43 := by omega
    unfold str at *
    generalize (⟨l.toArray⟩ : ByteArray) = s at *
    clear hS
    go_enter Tryd.func7, Tryd.ntmps7
    go_wp2_with fail
    refine c1.mono ?_
    rintro e w1 ⟨rfl, hb1⟩
    have cA := fun o => xAlive (w1.alloc o) (hT.below (hb1.alloc hb1.size o))
    clear c1
    go_wp2_with (go_at_call 21; refine (xNum _ _).mono ?_; rintro e w1 ⟨rfl, hw⟩; obtain rfl := hw.symm)
    refine (cA _).mono ?_
    rintro e w2 ⟨rfl, hb2⟩
    have hbw := hb1.trans (((below_new w1 _).trans (hb2.mono (by simp))).mono hb1.size)
    clear cA
    go_wp2_with fail
    go_ret
    exact ⟨rfl, hbw⟩
  | ok us =>
    rw [hS] at c1
    simp only at c1
    obtain ⟨hwr, hbd, hul, htl, ms, hms, hpl, hmul⟩ := silent_all mk l us hS
    have Hbd := hide hbd
    have c9 := fun w hT => nScan (10 :: txt mk 0 us) (by omega) w hT
    unfold ScanPost at c9
    rw [hms] at c9
    simp only at c9
    have Hwr := hide hwr
    have Hpl := hide hpl
    obtain ⟨whole, hwh⟩ : ∃ z, 10 :: txt mk 0 us = z := ⟨_, rfl⟩
    rw [hwh] at c9 htl
    obtain ⟨n, hn⟩ : ∃ n, us.length = n := ⟨_, rfl⟩
    rw [hn] at c1
    obtain ⟨mn, hmn⟩ : ∃ mn, ms.length = mn := ⟨_, rfl⟩
    rw [hmn] at c9
    have hmnn : mn = n := by omega
    subst hmnn
    unfold str at c1 ⊢
    generalize (⟨l.toArray⟩ : ByteArray) = s at *
    have Hwh := hide hwh
    clear hS hwr hpl hms hwh hmul hbd
    go_enter Tryd.func7, Tryd.ntmps7
    go_wp2_with fail
    refine c1.mono ?_
    rintro e w1 ⟨lo, lc, rfl, hown1, hb1⟩
    have HL : Hid (Ta w1 lo (us.map T.ta)) := hide (ta_of_own (by rw [← tvs_ta]; exact hown1))
    clear c1 hown1
    go_wp2_with fail
    have r2 := heap_alloc2_new w1 (.cells #[.int .i64 0, .int .i64 0, .int .i64 0, .int .i64 0] 31) (.cells #[.string ⟨#[32]⟩, .string ⟨#[10]⟩, .string ⟨#[32, 47, 47, 32, 34, 32, 59, 10]⟩, .string ⟨#[9, 13, 32]⟩, .string ⟨#[47, 47, 10, 47, 47, 255, 10]⟩] 9)
    have hb2 : Below w1.heap.size w1 ((w1.alloc (.cells #[.int .i64 0, .int .i64 0, .int .i64 0, .int .i64 0] 31)).alloc (.cells #[.string ⟨#[32]⟩, .string ⟨#[10]⟩, .string ⟨#[32, 47, 47, 32, 34, 32, 59, 10]⟩, .string ⟨#[9, 13, 32]⟩, .string ⟨#[47, 47, 10, 47, 47, 255, 10]⟩] 9)) := ((Below.refl _ _).alloc (Nat.le_refl _) _).alloc (by simp) _
    generalize ((w1.alloc (.cells #[.int .i64 0, .int .i64 0, .int .i64 0, .int .i64 0] 31)).alloc (.cells #[.string ⟨#[32]⟩, .string ⟨#[10]⟩, .string ⟨#[32, 47, 47, 32, 34, 32, 59, 10]⟩, .string ⟨#[9, 13, 32]⟩, .string ⟨#[47, 47, 10, 47, 47, 255, 10]⟩] 9)) = w2 at *
    have hbw2 := hb1.trans (hb2.mono hb1.size)
    have Hgap : Hid (∀ m, m < 5 → w2.cell? ⟨w1.heap.size + 1, m, none⟩ = some (.string ⟨(gaps.getD m []).toArray⟩)) := hide (fun m hm => by
      rw [cell_of_row _ _ m _ _ _ r2]
      have : m = 0 ∨ m = 1 ∨ m = 2 ∨ m = 3 ∨ m = 4 := by omega
      rcases this with rfl | rfl | rfl | rfl | rfl <;> rfl)
    have HL2 : Hid (Ta w2 lo (us.map T.ta)) := hide (HL.out.below hb2)
    have HM2 : Hid (Bs w2 ko mk) := hide (hM.below hbw2)
    clear r2 HL hM
    generalize w1.heap.size + 1 = G at *
    go_loopw [8, 9] (fun vt vi wr => ∃ (k : Nat) (cur : List UInt8), vi = .int .i64 (k : Int) ∧ vt = .string ⟨cur.toArray⟩ ∧ k ≤ mn ∧ Below w2.heap.size w2 wr ∧ Hid (cur ++ txt mk k (us.drop k) = whole)) (fun _ vi _ => mn - (RowKit.intOf vi).toNat)
    case atStart => exact ⟨0, [10], rfl, rfl, Nat.zero_le _, Below.refl _ _, hide (by rw [List.drop_zero]; exact Hwh.out)⟩
    case round =>
      obtain ⟨k, cur, rfl, rfl, hk, hbel, Hcur⟩ := hrel
      have hbwr := hbw2.trans (hbel.mono hbw2.size)
      by_cases hlt : k < mn
      · have hlt' : (k : Int) < (mn : Int) := by omega
        obtain ⟨t, ht⟩ : ∃ t, us[k]? = some t := ⟨_, List.getElem?_eq_getElem (by omega)⟩
        have hdr : us.drop k = t :: us.drop (k + 1) := by
          rw [List.drop_eq_getElem_cons (by omega)]
          rw [List.getElem?_eq_getElem (by omega)] at ht
          rw [Option.some.inj ht]
        obtain ⟨g, off, hlo, hcl⟩ := (HL2.out.below hbel) k t.ta (by rw [List.getElem?_map, ht]; rfl)
        have a0 := hcl 0 _ rfl
        have a1 := hcl 1 _ rfl
        have a2 := hcl 2 _ rfl
        have a3 := hcl 3 _ rfl
        have a4 := hcl 4 _ rfl
        have a5 := hcl 5 _ rfl
        rw [Nat.add_zero] at a0
        have hmem : t ∈ us := List.mem_of_getElem? ht
        have hw := Hwr.out t hmem
        have Hnext : Hid ((cur ++ t.dr ++ gapAt mk k) ++ txt mk (k + 1) (us.drop (k + 1)) = whole) := hide (by
          rw [← Hcur.out, hdr, txt]
          simp)
        have hlen : cur.length + (t.dr.length + (gapAt mk k).length) ≤ whole.length := by
          have := congrArg List.length Hnext.out
          simp only [List.length_append] at this
          omega
        have hgl := gap_len _ (gapAt_mem mk k)
        have htx : t.text.length ≤ 140737488355300 ∧ t.num ≤ 9223372036854775807 := by
          have := Hbd.out t hmem
          omega
        have cW := nWrite t.kind t.num t.off t.line t.col t.text htx.1 (by omega) (by omega) wr (hT.below hbwr)
        rw [hw] at cW
        simp only [wrV] at cW
        have e1 := cat_str cur t.dr
        have e2 := cat_str (cur ++ t.dr) (gapAt mk k)
        have z1 := size_str cur
        have z2 := size_str t.dr
        have z3 := size_str (cur ++ t.dr)
        have z4 := size_str (gapAt mk k)
        rw [List.length_append] at z3
        have hgapE : gapAt mk k = gaps.getD ((mk.getD k 0).toNat % 5) [] := rfl
        have Hnx : Hid (cur ++ t.dr ++ gapAt mk k ++ txt mk (k + 1) (us.drop (k + 1)) = whole) := Hnext
        obtain ⟨kind, text, num, to, tl, tc⟩ := t
        subst hlo
        have a0' : wr.cell? ⟨g, off + k * 6, none⟩ = some (.int .i64 (kind : Int)) := a0
        have a1' : wr.cell? ⟨g, off + k * 6 + 1, none⟩ = some (.string ⟨text.toArray⟩) := a1
        have a2' : wr.cell? ⟨g, off + k * 6 + 2, none⟩ = some (.int .i64 (num : Int)) := a2
        have a3' : wr.cell? ⟨g, off + k * 6 + 3, none⟩ = some (.int .i64 (to : Int)) := a3
        have a4' : wr.cell? ⟨g, off + k * 6 + 4, none⟩ = some (.int .i64 (tl : Int)) := a4
        have a5' : wr.cell? ⟨g, off + k * 6 + 5, none⟩ = some (.int .i64 (tc : Int)) := a5
        clear a0 a1 a2 a3 a4 a5 hcl hdr ht hmem hw Hcur Hnext
        generalize T.dr ⟨kind, text, num, to, tl, tc⟩ = drl at *
        obtain ⟨gl, hglE⟩ : ∃ gl, gapAt mk k = gl := ⟨_, rfl⟩
        rw [hglE] at hlen hgl e2 z4 hgapE Hnx
        obtain ⟨sc, hsc⟩ : ∃ z, (⟨cur.toArray⟩ : ByteArray) = z := ⟨_, rfl⟩
        obtain ⟨sd, hsd⟩ : ∃ z, (⟨drl.toArray⟩ : ByteArray) = z := ⟨_, rfl⟩
        obtain ⟨scd, hscd⟩ : ∃ z, (⟨(cur ++ drl).toArray⟩ : ByteArray) = z := ⟨_, rfl⟩
        obtain ⟨sg, hsg⟩ : ∃ z, (⟨gl.toArray⟩ : ByteArray) = z := ⟨_, rfl⟩
        obtain ⟨sall, hsall⟩ : ∃ z, (⟨(cur ++ drl ++ gl).toArray⟩ : ByteArray) = z := ⟨_, rfl⟩
        rw [hsc, hsd, hscd] at e1
        rw [hscd, hsg, hsall] at e2
        rw [hsc] at z1 ⊢
        rw [hsd] at z2 cW
        rw [hscd] at z3
        rw [hsg] at z4
        have Hsall := hide hsall
        have Hgl := hide hglE
        have Hsg := hide hsg
        generalize (⟨text.toArray⟩ : ByteArray) = stx at *
        clear hsc hsd hscd hsg hsall hglE Hwr Hbd Hwh htx
        go_wp2_with fail
        refine cW.mono ?_
        rintro e w5 ⟨rfl, hb5⟩
        have hb25 := hbel.trans (hb5.mono hbel.size)
        clear cW a0' a1' a2' a3' a4' a5'
        by_cases hkm : k < mk.length
        · have hkm' : (k : Int) < (mk.length : Int) := by omega
          obtain ⟨b, hb0⟩ : ∃ b, mk[k]? = some b := ⟨_, List.getElem?_eq_getElem hkm⟩
          obtain ⟨kg, koff, hko, hkc⟩ := (HM2.out.below hb25) k b hb0
          have hgd : mk.getD k 0 = b := by rw [List.getD_eq_getElem?_getD, hb0]; rfl
          have hm5 : b.toNat % 5 < 5 := Nat.mod_lt _ (by decide)
          have hgc := cell_below (Hgap.out (b.toNat % 5) hm5) hb25
          rw [← hgd, ← hgapE, Hsg.out, hgd] at hgc
          have hbn : b.toNat < 256 := b.toNat_lt
          subst hko
          clear hgapE hgd hb0
          generalize b.toNat = bn at *
          obtain ⟨hr1, hr0, hm5'⟩ := five bn hbn
          generalize bn % 5 = m at *
          go_wp2_with (go_at_call 21; refine (xNum _ _).mono ?_; rintro e w1 ⟨rfl, hw⟩; obtain rfl := hw.symm)
          exact ⟨⟨k + 1, cur ++ drl ++ gl, by go_num, (by rw [Hsall.out]), by omega, hb25, Hnx⟩, by simp [RowKit.intOf]; omega⟩
        · have hkm' : ¬ (k : Int) < (mk.length : Int) := by omega
          have hgd : mk.getD k 0 = 0 := by rw [List.getD_eq_getElem?_getD, List.getElem?_eq_none (by omega)]; rfl
          have hgc := cell_below (Hgap.out 0 (by decide)) hb25
          have hg0 : gaps.getD 0 [] = gl := by rw [hgapE, hgd]; rfl
          rw [hg0, Hsg.out] at hgc
          clear hgapE hgd hg0
          go_wp2_with (go_at_call 21; refine (xNum _ _).mono ?_; rintro e w1 ⟨rfl, hw⟩; obtain rfl := hw.symm)
          exact ⟨⟨k + 1, cur ++ drl ++ gl, by go_num, (by rw [Hsall.out]), by omega, hb25, Hnx⟩, by simp [RowKit.intOf]; omega⟩
      · have hlt' : ¬ (k : Int) < (mn : Int) := by omega
        have hcw : cur = whole := by rw [← Hcur.out, List.drop_of_length_le (by omega)]; simp [txt]
        subst hcw
        have hkn : k = mn := by omega
        subst hkn
        have c9 := c9 wr (hT.below hbwr).tw
        have HP : Hid (Ta wr lo (us.map T.ta)) := hide (HL2.out.below hbel)
        have Hn : Hid (us.length = k) := hide hn
        have hkb : k ≤ 1048577 := by omega
        have Hmn : Hid (ms.length = k) := hide hmn
        unfold str at c9
        generalize (⟨cur.toArray⟩ : ByteArray) = sw at *
        clear hn hmn Hcur Hwr Hbd Hgap
        go_wp2_with fail
        refine c9.mono ?_
        rintro e w3 ⟨no, nc, rfl, hown3, hb3⟩
        have HN : Hid (Ta w3 no (ms.map T.ta)) := hide (ta_of_own (by rw [← tvs_ta]; exact hown3))
        have hb23 := hbel.trans (hb3.mono hbel.size)
        have HP3 : Hid (Ta w3 lo (us.map T.ta)) := hide (HP.out.below hb3)
        clear c9 hown3 HP
        go_wp2_with fail
        have hbA : Below w3.heap.size w3 (w3.alloc (.cells #[.int .i64 0, .int .i64 0, .int .i64 0, .int .i64 0] 31)) := (Below.refl _ _).alloc (Nat.le_refl _) _
        generalize (w3.alloc (.cells #[.int .i64 0, .int .i64 0, .int .i64 0, .int .i64 0] 31)) = w4 at *
        have hb24 := hb23.trans (hbA.mono hb23.size)
        have hbw4 := hbw2.trans (hb24.mono hbw2.size)
        have c5 := xPlain lo lc (us.map T.ta) (by rw [List.length_map, Hn.out]; omega) w4 (HP3.out.below hbA)
        rw [List.length_map, Hn.out] at c5
        refine c5.mono ?_
        rintro e w5 ⟨po, pc, rfl, hown5, hb5⟩
        have hbw5 := hbw4.trans (hb5.mono hbw4.size)
        have c6 := xPlain no nc (ms.map T.ta) (by rw [List.length_map, Hmn.out]; omega) w5 ((HN.out.below hbA).below (hb5))
        rw [List.length_map, Hmn.out] at c6
        have HA : Hid (Ta w5 po ((us.map T.ta).map TA.pl)) := hide (ta_of_own hown5)
        clear hown5 c5
        go_wp2_with fail
        refine c6.mono ?_
        rintro e w6 ⟨qo, qc, rfl, hown6, hb6⟩
        have hbw6 := hbw5.trans (hb6.mono hbw5.size)
        have HB : Hid (Ta w6 qo ((us.map T.ta).map TA.pl)) := hide (ta_of_own (by rw [← Hpl.out]; exact hown6))
        have c7 := xSame po qo pc qc ((us.map T.ta).map TA.pl) (by rw [List.length_map, List.length_map, Hn.out]; omega) w6 (HA.out.below hb6) HB.out
        rw [List.length_map, List.length_map, Hn.out] at c7
        clear hown6 c6
        go_wp2_with fail
        refine c7.mono ?_
        rintro e w7 ⟨rfl, hb7⟩
        have hbw7 := hbw6.trans (hb7.mono hbw6.size)
        have c8 := xAlive w7 (hT.below hbw7)
        clear c7
        go_wp2_with fail
        refine c8.mono ?_
        rintro e w8 ⟨rfl, hb8⟩
        have hbw8 := hbw7.trans (hb8.mono hbw7.size)
        clear c8
        go_wp2_with fail
        go_ret
        exact ⟨rfl, hbw8⟩
end Go.Proofs.YtinbbcojilogeaaDoor.Tok
