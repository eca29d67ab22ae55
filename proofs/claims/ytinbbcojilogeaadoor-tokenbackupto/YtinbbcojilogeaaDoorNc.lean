/- TokenBack, as it is walked. -/
import Derived.Test.YtinbbcojilogeaaDoorNb
namespace Go.Proofs.YtinbbcojilogeaaDoor.Tok
open Go.RowKit Go.Shelf Go.Proofs.YtinbbcojilogeaaDoor.Oct

/-- A row of the program's own in a later world. -/
theorem own_later {w w' : World} {B e size n c m : Nat} {ao : Option Addr} {xs : List Value} (h : w.ownsRow B e size (.slice ao m c) n xs) (hb : Below w.heap.size w w') : w'.ownsRow B e size (.slice ao m c) n xs :=
  own_of_block h (fun k hk => hb.block k (own_lt h k hk).2)
set_option maxRecDepth 100000 in
set_option maxHeartbeats 1000000 in
theorem xBack (ao : Option Addr) (cp : Nat) (ts : List TA) (w : World) (hR : Ta w ao ts) (hi : ∀ t ∈ ts, in64 t.nm) (hb : bulk ts ≤ 1099511627776) (hT : Tx w) :
    Calls Tryd.prog 6 #[.slice ao ts.length cp] w fun e w' => e = .returned (.bool true) ∧ Below w.heap.size w w' := by
  have c1 := nJoin ao cp ts w hR hi hb hT
  have hbl := bulk_len ts
  cases hJ : joinR ts with
  | none =>
    rw [hJ] at c1
    simp only [wrV] at c1
    generalize ts.length = n at *
    go_enter Tryd.func6, Tryd.ntmps6
    go_wp2_with fail
    refine c1.mono ?_
    rintro e w1 ⟨rfl, hb1⟩
    have cA := xAlive w1 (hT.below hb1)
    clear c1
    go_wp2_with (go_at_call 21; refine (xNum _ _).mono ?_; rintro e w1 ⟨rfl, hw⟩; obtain rfl := hw.symm)
    refine cA.mono ?_
    rintro e w2 ⟨rfl, hb2⟩
    clear cA
    go_wp2_with fail
    go_ret
    exact ⟨rfl, hb1.trans (hb2.mono hb1.size)⟩
  | some sx =>
    rw [hJ] at c1
    simp only [wrV] at c1
    obtain ⟨xs, hxs, hsx⟩ : ∃ xs, joinT ts = some xs ∧ Lib.join xs [32] = sx := by
      unfold joinR at hJ
      obtain ⟨xs, h1, h2⟩ := Option.map_eq_some_iff.1 hJ
      exact ⟨xs, h1, h2⟩
    obtain ⟨us, hus, hpl⟩ := back_all ts xs hxs
    rw [hsx] at hus
    have hlen : sx.length ≤ 1099511627776 := by
      have h1 := joinT_len ts xs hi hxs
      have h2 := join_len xs
      rw [hsx] at h2
      omega
    have hwl : (wantL ts).length ≤ ts.length + 1 := by
      cases hl : ts.getLast? with
      | none =>
        have : ts = [] := by simpa using hl
        subst this
        exact Nat.le_refl _
      | some t =>
        rw [wantL_last ts t hl]
        split <;> simp
    have hul : us.length ≤ 1099511627776 := by
      have := congrArg List.length hpl
      rw [List.length_map, List.length_map] at this
      omega
    have c2 := fun w hT => nScan sx hlen w hT
    unfold ScanPost at c2
    rw [hus] at c2
    simp only at c2
    have Hpl := hide hpl
    unfold str at c2
    generalize (⟨sx.toArray⟩ : ByteArray) = s at *
    clear hJ hus hxs hsx hpl hwl
    obtain ⟨n, hn⟩ : ∃ n, ts.length = n := ⟨_, rfl⟩
    rw [hn] at c1 hbl ⊢
    go_enter Tryd.func6, Tryd.ntmps6
    go_wp2_with fail
    refine c1.mono ?_
    rintro e w1 ⟨rfl, hb1⟩
    have c2' := c2 w1 (hT.below hb1).tw
    clear c1 c2
    go_wp2_with (go_at_call 21; refine (xNum _ _).mono ?_; rintro e w1 ⟨rfl, hw⟩; obtain rfl := hw.symm)
    refine c2'.mono ?_
    rintro e w2 ⟨mo, mc, rfl, hown2, hb2⟩
    have hbw2 := hb1.trans (hb2.mono hb1.size)
    have HM : Hid (Ta w2 mo (us.map T.ta)) := hide (ta_of_own (by rw [← tvs_ta]; exact hown2))
    have cP := fun o => xPlain ao cp ts (by omega) (w2.alloc o) (hR.below (hbw2.alloc hbw2.size o))
    rw [hn] at cP
    clear c2' hown2
    obtain ⟨ul, hulE⟩ : ∃ ul, us.length = ul := ⟨_, rfl⟩
    rw [hulE]
    go_wp2_with fail
    refine (cP _).mono ?_
    rintro e w3 ⟨bo, bc, rfl, hown3, hb3⟩
    have f3 := (hb3.block w2.heap.size (by simp)).trans (heap_alloc_new _ _)
    have hb23 : Below w2.heap.size w2 w3 := (below_new w2 _).trans (hb3.mono (by simp))
    have hbase : (w2.alloc (.cells #[.int .i64 0, .int .i64 0, .int .i64 0, .int .i64 0] 31)).heap.size = w2.heap.size + 1 := by simp
    rw [hbase] at hown3
    clear cP hbase hb3
    have Hown3 := hide hown3
    have hb13 : w2.heap.size + 1 ≤ w3.heap.size := by have := (Array.getElem?_eq_some_iff.1 f3).1; omega
    clear hown3
    by_cases hn0 : n = 0
    · have hts : ts = [] := by rw [hn0] at hn; exact List.eq_nil_of_length_eq_zero hn
      have HWL : Hid (wantL ts = ts.map TA.pl ++ [endT]) := hide (by rw [hts]; rfl)
      have hn0' : ((n : Int) == 0) = true := by rw [beq_iff_eq]; omega
      clear hts hn0
      go_wp2_with (at_builtin; refine wpList_pushA rfl _ _ 28 rfl 37 Tryd.underlying28 infoT (w2.heap.size + 1) bo n bc (ts.map TA.pl) rfl Hown3.out endT _ rfl _ rfl rfl (by omega) hb13 ?_)
      intro wg wc w4 hown4 hgrow4
      have hown4 : w4.ownsRow (w2.heap.size + 1) 37 6 (.slice (some ⟨wg, 0, none⟩) (n + 1) wc) (n + 1) ((wantL ts).flatMap TA.cells) := by
        rw [HWL.out, List.flatMap_append, List.flatMap_cons, List.flatMap_nil, List.append_nil]
        exact hown4
      have hb24 : Below w2.heap.size w2 w4 := hb23.grown hgrow4 hb23.size (fun q hq => by have := (own_lt Hown3.out q hq).1; omega)
      have f4 := (hgrow4.block w2.heap.size (Array.getElem?_eq_some_iff.1 f3).1 (fun e => by have := (own_lt Hown3.out _ e.symm).1; omega)).trans f3
      have hnl : ul = n + 1 := by
        have h1 := congrArg List.length Hpl.out
        rw [HWL.out] at h1
        simp at h1
        omega
      subst hnl
      clear hgrow4 HWL
      clear hn0'
      have hbw4 := hbw2.trans (hb24.mono hbw2.size)
      have z0 : w4.cell? ⟨w2.heap.size, 0, none⟩ = some (.int .i64 0) := cell_of_row _ _ 0 _ _ _ f4
      have z1 : w4.cell? ⟨w2.heap.size, 1, none⟩ = some (.int .i64 0) := cell_of_row _ _ 1 _ _ _ f4
      have z2 : w4.cell? ⟨w2.heap.size, 2, none⟩ = some (.int .i64 0) := cell_of_row _ _ 2 _ _ _ f4
      have z3 : w4.cell? ⟨w2.heap.size, 3, none⟩ = some (.int .i64 0) := cell_of_row _ _ 3 _ _ _ f4
      have HW : Hid (Ta w4 (some ⟨wg, 0, none⟩) (wantL ts)) := hide (ta_of_own hown4)
      have HwlE : Hid ((wantL ts).length = n + 1) := hide (by rw [← Hpl.out, List.length_map, List.length_map]; exact hulE)
      have c5 := xPlain mo mc (us.map T.ta) (by rw [List.length_map]; omega) w4 (HM.out.below hb24)
      rw [List.length_map, hulE] at c5
      clear hown4 f3 f4 hulE Hown3
      go_wp2_with fail
      refine c5.mono ?_
      rintro e w5 ⟨po, pc, rfl, hown5, hb5⟩
      have hbw5 := hbw4.trans (hb5.mono hbw4.size)
      have c6 := xSame po (some ⟨wg, 0, none⟩) pc wc (wantL ts) (by rw [HwlE.out]; omega) w5 (ta_of_own (by rw [← Hpl.out]; exact hown5)) (HW.out.below hb5)
      rw [HwlE.out] at c6
      clear hown5 c5 z0 z1 z2 z3
      go_wp2_with fail
      refine c6.mono ?_
      rintro e w6 ⟨rfl, hb6⟩
      have hbw6 := hbw5.trans (hb6.mono hbw5.size)
      have c7 := xAlive w6 (hT.below hbw6)
      clear c6
      go_wp2_with fail
      refine c7.mono ?_
      rintro e w7 ⟨rfl, hb7⟩
      have hbw7 := hbw6.trans (hb7.mono hbw6.size)
      clear c7
      go_wp2_with fail
      go_ret
      exact ⟨rfl, hbw7⟩
    · have hn0' : ((n : Int) == 0) = false := by rw [beq_eq_false_iff_ne]; omega
      obtain ⟨t, ht⟩ : ∃ t, ts[n - 1]? = some t := ⟨_, List.getElem?_eq_getElem (by omega)⟩
      have htl : ts.getLast? = some t := by rw [List.getLast?_eq_getElem?, hn]; exact ht
      have hwl := wantL_last ts t htl
      obtain ⟨g3, off3, hbo, hcl⟩ := (ta_of_own Hown3.out) (n - 1) t.pl (by rw [List.getElem?_map, ht]; rfl)
      have k3 := hcl 0 _ rfl
      rw [Nat.add_zero] at k3
      have hidx : (n : Int) - 1 = ((n - 1 : Nat) : Int) := by omega
      have hidx2 : ((n - 1 : Nat) : Int) < (n : Int) := by omega
      obtain ⟨kd, tx, nm, o1, o2, o3⟩ := t
      subst hbo
      have k3' : w3.cell? ⟨g3, off3 + (n - 1) * 6, none⟩ = some (.int .i64 kd) := k3
      clear ht htl hcl k3
      by_cases h0 : kd = 0
      · have HWL : Hid (wantL ts = ts.map TA.pl) := hide (by rw [hwl, if_pos h0])
        subst h0
        clear hwl
        obtain ⟨w4, hw4⟩ : ∃ w4, w4 = w3 := ⟨_, rfl⟩
        have hown4 : w3.ownsRow (w2.heap.size + 1) 37 6 (.slice (some ⟨g3, off3, none⟩) n bc) n ((wantL ts).flatMap TA.cells) := by
          rw [HWL.out]
          exact Hown3.out
        have hnl : ul = n := by
          have h1 := congrArg List.length Hpl.out
          rw [HWL.out] at h1
          simp at h1
          omega
        subst hnl
        subst hw4
        have hb24 := hb23
        have f4 := f3
        clear HWL
        have hbw4 := hbw2.trans (hb24.mono hbw2.size)
        have z0 : w4.cell? ⟨w2.heap.size, 0, none⟩ = some (.int .i64 0) := cell_of_row _ _ 0 _ _ _ f4
        have z1 : w4.cell? ⟨w2.heap.size, 1, none⟩ = some (.int .i64 0) := cell_of_row _ _ 1 _ _ _ f4
        have z2 : w4.cell? ⟨w2.heap.size, 2, none⟩ = some (.int .i64 0) := cell_of_row _ _ 2 _ _ _ f4
        have z3 : w4.cell? ⟨w2.heap.size, 3, none⟩ = some (.int .i64 0) := cell_of_row _ _ 3 _ _ _ f4
        have HW : Hid (Ta w4 (some ⟨g3, off3, none⟩) (wantL ts)) := hide (ta_of_own hown4)
        have HwlE : Hid ((wantL ts).length = ul) := hide (by rw [← Hpl.out, List.length_map, List.length_map]; exact hulE)
        have c5 := xPlain mo mc (us.map T.ta) (by rw [List.length_map]; omega) w4 (HM.out.below hb24)
        rw [List.length_map, hulE] at c5
        clear hown4 f3 f4 hulE Hown3
        go_wp2_with fail
        refine c5.mono ?_
        rintro e w5 ⟨po, pc, rfl, hown5, hb5⟩
        have hbw5 := hbw4.trans (hb5.mono hbw4.size)
        have c6 := xSame po (some ⟨g3, off3, none⟩) pc bc (wantL ts) (by rw [HwlE.out]; omega) w5 (ta_of_own (by rw [← Hpl.out]; exact hown5)) (HW.out.below hb5)
        rw [HwlE.out] at c6
        clear hown5 c5 z0 z1 z2 z3
        go_wp2_with fail
        refine c6.mono ?_
        rintro e w6 ⟨rfl, hb6⟩
        have hbw6 := hbw5.trans (hb6.mono hbw5.size)
        have c7 := xAlive w6 (hT.below hbw6)
        clear c6
        go_wp2_with fail
        refine c7.mono ?_
        rintro e w7 ⟨rfl, hb7⟩
        have hbw7 := hbw6.trans (hb7.mono hbw6.size)
        clear c7
        go_wp2_with fail
        go_ret
        exact ⟨rfl, hbw7⟩
      · have HWL : Hid (wantL ts = ts.map TA.pl ++ [endT]) := hide (by rw [hwl, if_neg h0])
        have h0' : (kd == 0) = false := by rw [beq_eq_false_iff_ne]; exact h0
        have h0'' : (kd != 0) = true := by rw [bne, h0']; rfl
        clear hwl
        go_wp2_with (at_builtin; refine wpList_pushA rfl _ _ 28 rfl 37 Tryd.underlying28 infoT (w2.heap.size + 1) (some ⟨g3, off3, none⟩) n bc (ts.map TA.pl) rfl Hown3.out endT _ rfl _ rfl rfl (by omega) hb13 ?_)
        intro wg wc w4 hown4 hgrow4
        have hown4 : w4.ownsRow (w2.heap.size + 1) 37 6 (.slice (some ⟨wg, 0, none⟩) (n + 1) wc) (n + 1) ((wantL ts).flatMap TA.cells) := by
          rw [HWL.out, List.flatMap_append, List.flatMap_cons, List.flatMap_nil, List.append_nil]
          exact hown4
        have hb24 : Below w2.heap.size w2 w4 := hb23.grown hgrow4 hb23.size (fun q hq => by have := (own_lt Hown3.out q hq).1; omega)
        have f4 := (hgrow4.block w2.heap.size (Array.getElem?_eq_some_iff.1 f3).1 (fun e => by have := (own_lt Hown3.out _ e.symm).1; omega)).trans f3
        have hnl : ul = n + 1 := by
          have h1 := congrArg List.length Hpl.out
          rw [HWL.out] at h1
          simp at h1
          omega
        subst hnl
        clear hgrow4 HWL
        clear hn0' h0' h0'' k3' hidx hidx2
        have hbw4 := hbw2.trans (hb24.mono hbw2.size)
        have z0 : w4.cell? ⟨w2.heap.size, 0, none⟩ = some (.int .i64 0) := cell_of_row _ _ 0 _ _ _ f4
        have z1 : w4.cell? ⟨w2.heap.size, 1, none⟩ = some (.int .i64 0) := cell_of_row _ _ 1 _ _ _ f4
        have z2 : w4.cell? ⟨w2.heap.size, 2, none⟩ = some (.int .i64 0) := cell_of_row _ _ 2 _ _ _ f4
        have z3 : w4.cell? ⟨w2.heap.size, 3, none⟩ = some (.int .i64 0) := cell_of_row _ _ 3 _ _ _ f4
        have HW : Hid (Ta w4 (some ⟨wg, 0, none⟩) (wantL ts)) := hide (ta_of_own hown4)
        have HwlE : Hid ((wantL ts).length = n + 1) := hide (by rw [← Hpl.out, List.length_map, List.length_map]; exact hulE)
        have c5 := xPlain mo mc (us.map T.ta) (by rw [List.length_map]; omega) w4 (HM.out.below hb24)
        rw [List.length_map, hulE] at c5
        clear hown4 f3 f4 hulE Hown3
        go_wp2_with fail
        refine c5.mono ?_
        rintro e w5 ⟨po, pc, rfl, hown5, hb5⟩
        have hbw5 := hbw4.trans (hb5.mono hbw4.size)
        have c6 := xSame po (some ⟨wg, 0, none⟩) pc wc (wantL ts) (by rw [HwlE.out]; omega) w5 (ta_of_own (by rw [← Hpl.out]; exact hown5)) (HW.out.below hb5)
        rw [HwlE.out] at c6
        clear hown5 c5 z0 z1 z2 z3
        go_wp2_with fail
        refine c6.mono ?_
        rintro e w6 ⟨rfl, hb6⟩
        have hbw6 := hbw5.trans (hb6.mono hbw5.size)
        have c7 := xAlive w6 (hT.below hbw6)
        clear c6
        go_wp2_with fail
        refine c7.mono ?_
        rintro e w7 ⟨rfl, hb7⟩
        have hbw7 := hbw6.trans (hb7.mono hbw6.size)
        clear c7
        go_wp2_with fail
        go_ret
        exact ⟨rfl, hbw7⟩
end Go.Proofs.YtinbbcojilogeaaDoor.Tok
