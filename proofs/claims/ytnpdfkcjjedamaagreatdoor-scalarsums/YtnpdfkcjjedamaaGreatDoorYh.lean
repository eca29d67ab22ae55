/- ScalarWhole, walked. -/
import Derived.Test.YtnpdfkcjjedamaaGreatDoorYg
import Derived.Test.YtnpdfkcjjedamaaGreatDoorAl
namespace Go.Proofs.YtnpdfkcjjedamaaGreatDoor.Sca
open Go.RowKit Go.Lib Go.Shelf Go.Proofs.YtnpdfkcjjedamaaGreatDoor.Oct

theorem own_b2 {w w' : World} {B : Nat} {e : TypeId} {ao : Option Addr} {n c : Nat} {xs : List Value} (h : w.ownsRow B e 1 (.slice ao n c) n xs) (hb : Below w.heap.size w w') : w'.ownsRow B e 1 (.slice ao n c) n xs :=
  ownsRow_of_block h (fun k hk => hb.block k (h.lt k (by rw [ob_eq]; exact hk)).2)
theorem own_kept {w w' : World} {B : Nat} {e : TypeId} {ao : Option Addr} {n c : Nat} {xs : List Value} {r : Option Nat} (h : w.ownsRow B e 1 (.slice ao n c) n xs) (hg : w.grownBy w' r) (hne : ob ao = none ∨ ob ao ≠ r) : w'.ownsRow B e 1 (.slice ao n c) n xs :=
  ownsRow_of_block h (fun k hk => hg.block k (h.lt k (by rw [ob_eq]; exact hk)).2 (fun e => hne.elim (fun h0 => by rw [h0] at hk; cases hk) (fun h1 => h1 (by rw [hk]; exact e))))
theorem unary_neg_run (b : Nat) (h : b < 18446744073709551616) (w : World) : (Op.unary .neg (.float .f64 b)).run Tryz.prog w = .ok (.float .f64 (negB b)) w := by
  rw [← neg_run b h]
  rfl
set_option maxRecDepth 100000 in
set_option maxHeartbeats 2000000 in
theorem whole_law (ai : Option Addr) (ci n : Nat) (us : List Nat) (at' : Int) (b : Nat) (w : World) (hun : us.length = n) (hn : n ≤ 17592186044414) (hU : Us w ai us) (hlt : ∀ x ∈ us, x < 18446744073709551616) (hb : b < 18446744073709551616) (hT : Tb w) :
    Calls Tryz.prog 4 #[.slice ai n ci, .int .i64 at', .int .u64 (b : Int)] w fun e w' => e = .returned (.bool true) ∧ Below w.heap.size w w' := by
  have HT : Hid (Tb w) := hT
  have cF := kFloats ai ci n us w hun (by omega) hU
  clear hU
  have HL : Hid (∀ x ∈ us, x < 18446744073709551616) := hlt
  clear hlt
  obtain ⟨A, hA⟩ : ∃ A : Nat, IntKind.u64.wrap at' = (A : Int) := ⟨(IntKind.u64.wrap at').toNat, by rw [wrapU]; omega⟩
  have hAl : A < 18446744073709551616 := by rw [wrapU] at hA; omega
  obtain ⟨r, hr⟩ : ∃ r, A % n = r := ⟨_, rfl⟩
  have hrz : (A : Int) % (n : Int) = (r : Int) := by omega
  go_enter Tryz.func4, Tryz.ntmps4
  go_wp2_with fail
  refine cF.mono ?_
  rintro e1 w1 ⟨ao, c, rfl, hown, hb1⟩
  have hT1 := hT.below hb1
  have cW := sWhole w.heap.size 25 ao n c us w1 (by omega) hown HL.out hT1.tz
  clear cF
  go_wp2_with fail
  refine cW.mono ?_
  rintro e2 w2 ⟨x, rfl, hxl, hxw, hb2⟩
  have HX : Hid (can x = wholeC us) := hxw
  have hown2 := own_b2 hown hb2
  have hB2 : Below w.heap.size w w2 := hb1.trans (hb2.mono hb1.size)
  have hT2 := hT1.below hb2
  have hBw2 : Hid (w.heap.size ≤ w2.heap.size) := hB2.size
  clear cW hown hxw hb1 hb2 hT1 hT
  go_wp2
  go_loopw [9, 10, 12] (fun vr vm vi wr => ∃ (i cr cm : Nat) (ar am : Option Addr), vr = .slice ar i cr ∧ vm = .slice am i cm ∧ vi = .int .i64 (i : Int) ∧ i ≤ n ∧ wr.ownsRow w2.heap.size 25 1 (.slice ar i cr) i (fv ((rot us r).take i)) ∧ wr.ownsRow w2.heap.size 25 1 (.slice am i cm) i (fv ((us.map negB).take i)) ∧ (ob am = none ∨ ob am ≠ ob ar) ∧ Below w2.heap.size w2 wr) (fun _ _ vi _ => n - (Go.RowKit.intOf vi).toNat)
  case atStart => exact ⟨0, 0, 0, none, none, rfl, rfl, rfl, Nat.zero_le _, World.ownsRow_nil w2 _ _ 1, World.ownsRow_nil w2 _ _ 1, .inl rfl, Below.refl _ _⟩
  case round =>
    obtain ⟨i, cr, cm, ar, am, rfl, rfl, rfl, hi, hor, hom, hap, hbw⟩ := hrel
    by_cases hin : i < n
    · have hiz : decide ((i : Int) < (n : Int)) = true := decide_eq_true (by omega)
      have hrn : r < n := by rw [← hr]; exact Nat.mod_lt _ (by omega)
      obtain ⟨q, hq⟩ : ∃ q, (r + i) % n = q := ⟨_, rfl⟩
      have hqn : q < n := by rw [← hq]; exact Nat.mod_lt _ (by omega)
      have hqz : ((r : Int) + (i : Int)) % (n : Int) = (q : Int) := by rw [← hq, Int.natCast_emod, Int.natCast_add]
      obtain ⟨j, hj⟩ : ∃ j, n - 1 - q = j := ⟨_, rfl⟩
      have hjn : j < n := by omega
      have hjz : (n : Int) - 1 - (q : Int) = (j : Int) := by omega
      obtain ⟨y, hy⟩ : ∃ y, us[j]? = some y := ⟨us[j]'(by omega), List.getElem?_eq_getElem _⟩
      obtain ⟨z, hz⟩ : ∃ z, us[i]? = some z := ⟨us[i]'(by omega), List.getElem?_eq_getElem _⟩
      have hzl := HL.out z (List.mem_of_getElem? hz)
      have HR : Hid ((rot us r).take (i + 1) = (rot us r).take i ++ [y]) := by
        show _ = _
        rw [List.take_add_one, rot_at us r i (by omega) (by omega), hun, hq, hj, hy]
        rfl
      have HM : Hid ((us.map negB).take (i + 1) = (us.map negB).take i ++ [negB z]) := by
        show _ = _
        rw [List.take_add_one, List.getElem?_map, hz]
        rfl
      obtain ⟨g, rfl⟩ : ∃ g, ao = some ⟨g, 0, none⟩ := (own_some hown2).elim (fun h => by omega) id
      have hcy2 := own_cells hown2 j y hy
      have hcz2 := own_cells hown2 i z hz
      rw [Nat.zero_add] at hcy2 hcz2
      have hcy := cell_b hcy2 hbw
      have hneg := unary_neg_run z hzl
      have hs := hbw.size
      have hj0 : (0 : Int) ≤ (j : Int) := by omega
      have hjl : (j : Int) < (n : Int) := by omega
      clear hr hq hj hy hz
      generalize (rot us r).take i = L at *
      generalize (us.map negB).take i = M at *
      generalize negB z = z' at *
      go_wp2_with (at_builtin; refine wpList_pushF rfl _ _ 23 rfl 25 Tryz.underlying23 infoF w2.heap.size ar i cr L rfl hor y rfl (by omega) hs ?_)
      intro g3 c3 w3 hor3 hgrow hat
      have hb3 : Below w2.heap.size w2 w3 := hbw.grown hgrow hs (fun q hq => (hor.lt q (by rw [ob_eq]; exact hq)).1)
      have hom3 := own_kept hom hgrow hap
      have hap3 : ob am = none ∨ ob am ≠ some g3 := by
        rcases hap with h | h
        · exact .inl h
        · cases ham : ob am with
          | none => exact .inl rfl
          | some k =>
            right
            intro e
            cases e
            rcases hat with h2 | h2
            · exact h (by rw [ham, h2])
            · have := (hom.lt _ (by rw [ob_eq]; exact ham)).2
              omega
      have hcz := cell_b hcz2 hb3
      have hs3 := hb3.size
      clear hor hom hgrow hat hap hbw hcy hcy2 hcz2 hs
      go_wp2_with (at_builtin; refine wpList_pushF rfl _ _ 23 rfl 25 Tryz.underlying23 infoF w2.heap.size am i cm M rfl hom3 z' rfl (by omega) hs3 ?_)
      intro g4 c4 w4 hom4 hgrow4 hat4
      have hb4 : Below w2.heap.size w2 w4 := hb3.grown hgrow4 hs3 (fun q hq => (hom3.lt q (by rw [ob_eq]; exact hq)).1)
      have hor4 := own_kept hor3 hgrow4 (hap3.elim (fun h => .inr (by rw [h]; simp [ob])) (fun h => .inr (fun e => h e.symm)))
      have hap4 : ob (some (⟨g4, 0, none⟩ : Addr)) ≠ ob (some (⟨g3, 0, none⟩ : Addr)) := by
        intro e
        simp only [ob, Option.map_some, Option.some.injEq] at e
        subst e
        rcases hat4 with h2 | h2
        · rcases hap3 with h | h
          · rw [h] at h2; cases h2
          · exact h h2
        · have := (hor3.lt g4 rfl).2
          omega
      clear hom3 hgrow4 hat4 hap3 hb3 hcz hs3 hor3
      go_wp2
      exact ⟨⟨i + 1, c3, c4, some ⟨g3, 0, none⟩, some ⟨g4, 0, none⟩, rfl, rfl, by go_num, by omega, by rw [HR.out]; exact hor4, by rw [HM.out]; exact hom4, .inr hap4, hb4⟩, by simp [Go.RowKit.intOf]; omega⟩
    · obtain rfl : i = n := by omega
      rw [List.take_of_length_le (by rw [rot_length]; omega)] at hor
      rw [List.take_of_length_le (by rw [List.length_map]; omega)] at hom
      have HP : Hid ((rot us r).Perm us) := rot_perm us r
      have hlr : ∀ x ∈ rot us r, x < 18446744073709551616 := fun x hx => HL.out x (HP.out.mem_iff.1 hx)
      have hlm : ∀ x ∈ us.map negB, x < 18446744073709551616 := fun x hx => by
        obtain ⟨y, hy, rfl⟩ := List.mem_map.1 hx
        exact negB_lt (HL.out y hy)
      have hTr := hT2.below hbw
      have hBr : Below w.heap.size w wr := hB2.trans (hbw.mono hB2.size)
      have cW1 := sWhole w2.heap.size 25 ar i cr (rot us r) wr (by omega) hor hlr hTr.tz
      have cO := fun w => sOf b w
      have cC := fun w => sClass b hb w
      have cS := fun a b w => sSame a b w
      have hneg := unary_neg_run x hxl
      have cP2 := fun w => sPlus (negB x) (negB_lt hxl) w
      have cP1 := fun w => sPlus x hxl w
      have HR : Hid (∀ x ∈ rot us r, x < 18446744073709551616) := hlr
      clear hlr hown2 hr hrz hA hAl hB2 hT2
      go_wp2_with (first | (go_at_call 16; refine (cO _).mono ?_; rintro e' w' ⟨rfl, hw⟩; obtain rfl := hw.symm) | (go_at_call 17; refine (cC _).mono ?_; rintro e' w' ⟨rfl, hw⟩; obtain rfl := hw.symm))
      refine cW1.mono ?_
      rintro e1 w5 ⟨r1, rfl, hr1l, hr1, hb5⟩
      have cS1 := fun w => sSame r1 x w
      rw [beq_iff_eq.2 (law_perm HP.out HX.out hr1)] at cS1
      have hom5 := own_b2 hom hb5
      have hor5 := own_b2 hor hb5
      have hT5 := hTr.below hb5
      have hB5 : Below w.heap.size w w5 := hBr.trans (hb5.mono hBr.size)
      have hs5 : w2.heap.size ≤ w5.heap.size := Nat.le_trans hbw.size hb5.size
      have cW2 := sWhole w2.heap.size 25 am i cm (us.map negB) w5 (by omega) hom5 hlm hT5.tz
      clear cW1 hom hor hTr hb5 hbw hBr hr1 hr1l hap hlm
      go_wp2_with (go_at_call 18; refine (cS1 _).mono ?_; rintro e' w' ⟨rfl, hw⟩; obtain rfl := hw.symm)
      refine cW2.mono ?_
      rintro e2 w6 ⟨r2, rfl, hr2l, hr2, hb6⟩
      have hor6 := own_b2 hor5 hb6
      have hT6 := hT5.below hb6
      have hB6 : Below w.heap.size w w6 := hB5.trans (hb6.mono hB5.size)
      have hs6 : w2.heap.size ≤ w6.heap.size := Nat.le_trans hs5 hb6.size
      have cP := fun w => sPlus r2 hr2l w
      have HN : Hid (can (plusB r2) = can (plusB (negB x))) := law_neg HL.out hxl HX.out hr2
      clear cW2 cS1 hom5 hor5 hT5 hb6 hB5 hs5 hr2 hr2l
      go_wp2_with fail
      refine (cP _).mono ?_
      rintro e3 w7 ⟨⟨p1, rfl, hp1l, hp1⟩, q1, hq1⟩
      have hb7 : Below w6.heap.size w6 w7 := by rw [hq1]; exact below_drewN (Below.refl _ _) _
      have hor7 := own_b2 hor6 hb7
      have hT7 := hT6.below hb7
      have hB7 : Below w.heap.size w w7 := hB6.trans (hb7.mono hB6.size)
      have hs7 : w2.heap.size ≤ w7.heap.size := Nat.le_trans hs6 hb7.size
      have HP1 : Hid (can p1 = can (plusB r2)) := hp1
      clear cP hor6 hT6 hb7 hB6 hs6 hp1 hq1
      generalize hnx : negB x = nx at *
      go_wp2_with fail
      refine (cP2 _).mono ?_
      rintro e4 w8 ⟨⟨p2, rfl, hp2l, hp2⟩, q2, hq2⟩
      have hb8 : Below w7.heap.size w7 w8 := by rw [hq2]; exact below_drewN (Below.refl _ _) _
      have hor8 := own_b2 hor7 hb8
      have hT8 := hT7.below hb8
      have hB8 : Below w.heap.size w w8 := hB7.trans (hb8.mono hB7.size)
      have hs8 : w2.heap.size ≤ w8.heap.size := Nat.le_trans hs7 hb8.size
      have cS2 := fun w => sSame p1 p2 w
      rw [beq_iff_eq.2 (HP1.out.trans (HN.out.trans hp2.symm))] at cS2
      clear cP2 hor7 hT7 hb8 hB7 hs7 hp2 hq2 HN HP1 hp1l hp2l hnx hneg
      have cA := alive_any w8 hT8
      by_cases hf : mg b < 9218868437227405312
      · have hc1 : ((clsOf b : Int) == 1) = false := by
          rw [beq_eq_false_iff_ne]
          unfold clsOf
          rw [if_neg (by omega), if_neg (by omega)]
          split
          · omega
          · split <;> omega
        have hc2 : ((clsOf b : Int) == 2) = false := by
          rw [beq_eq_false_iff_ne]
          unfold clsOf
          rw [if_neg (by omega), if_neg (by omega)]
          split
          · omega
          · split <;> omega
        generalize clsOf b = cl at *
        have hneg := unary_neg_run b hb
        have HF : Hid (mg b < 9218868437227405312) := hf
        have HB : Hid (negB b < 18446744073709551616) := negB_lt hb
        have hnb : ∃ nb, negB b = nb := ⟨_, rfl⟩
        obtain ⟨nb, hnb⟩ := hnb
        rw [hnb] at hneg HB
        have HNB : Hid (negB b = nb) := hnb
        clear hf hnb cA cC
        go_wp2_with (first | (go_at_call 18; refine (cS2 _).mono ?_; rintro e' w' ⟨rfl, hw⟩; obtain rfl := hw.symm) | (at_builtin; refine wpList_pushF2 rfl _ _ 23 rfl 25 Tryz.underlying23 infoF w2.heap.size ar i cr (rot us r) rfl hor8 b nb rfl (by omega) hs8 ?_))
        intro g9 c9 w9 hor9 hgrow hat
        have hB9 : Below w.heap.size w w9 := hB8.grown hgrow hB8.size (fun q hq => Nat.le_trans hBw2.out (hor8.lt q (by rw [ob_eq]; exact hq)).1)
        have hT9 : Tb w9 := HT.out.below hB9
        have cW3 := sWhole w2.heap.size 25 (some ⟨g9, 0, none⟩) (i + 2) c9 (rot us r ++ [b, nb]) w9 (by omega) hor9 (fun y hy => by
          rw [List.mem_append] at hy
          rcases hy with hy | hy
          · exact HR.out y hy
          · simp only [List.mem_cons, List.not_mem_nil, or_false] at hy
            rcases hy with rfl | rfl
            · exact hb
            · exact HB.out) hT9.tz
        clear hor8 hor9 hgrow hat hT8 hB8 hs8 cS2
        go_wp2_with fail
        refine cW3.mono ?_
        rintro e5 w10 ⟨r3, rfl, hr3l, hr3, hb10⟩
        have hB10 : Below w.heap.size w w10 := hB9.trans (hb10.mono hB9.size)
        have cP := fun w => sPlus r3 hr3l w
        have HN : Hid (can (plusB r3) = can (plusB x)) := law_pair HP.out hb HF.out HX.out (by rw [HNB.out]; exact hr3)
        clear cW3 hb10 hB9 hT9 hr3 hr3l
        go_wp2_with fail
        refine (cP _).mono ?_
        rintro e6 w11 ⟨⟨p3, rfl, hp3l, hp3⟩, q3, hq3⟩
        have hB11 : Below w.heap.size w w11 := by rw [hq3]; exact below_drewN hB10 _
        have HP3 : Hid (can p3 = can (plusB r3)) := hp3
        clear cP hB10 hp3 hq3
        go_wp2_with fail
        refine (cP1 _).mono ?_
        rintro e7 w12 ⟨⟨p4, rfl, hp4l, hp4⟩, q4, hq4⟩
        have hB12 : Below w.heap.size w w12 := by rw [hq4]; exact below_drewN hB11 _
        have cS3 := fun w => sSame p3 p4 w
        rw [beq_iff_eq.2 (HP3.out.trans (HN.out.trans hp4.symm))] at cS3
        have cA := alive_any w12 (HT.out.below hB12)
        clear cP1 hB11 hp4 hq4 HN HP3 hp3l hp4l
        go_wp2_with (first | (go_at_call 18; refine (cS3 _).mono ?_; rintro e' w' ⟨rfl, hw⟩; obtain rfl := hw.symm))
        refine cA.mono ?_
        rintro e8 w13 ⟨rfl, hb13⟩
        go_wp2
        go_ret
        exact ⟨rfl, hB12.trans (hb13.mono hB12.size)⟩
      · by_cases hn1 : 9218868437227405312 < mg b
        · have hc1 : clsOf b = 1 := by unfold clsOf; rw [if_pos hn1]
          rw [hc1]
          clear hc1 hn1 hf cC
          go_wp2_with (first | (go_at_call 18; refine (cS2 _).mono ?_; rintro e' w' ⟨rfl, hw⟩; obtain rfl := hw.symm))
          refine cA.mono ?_
          rintro e8 w13 ⟨rfl, hb13⟩
          go_wp2
          go_ret
          exact ⟨rfl, hB8.trans (hb13.mono hB8.size)⟩
        · have hc1 : clsOf b = 2 := by unfold clsOf; rw [if_neg hn1, if_pos (by omega)]
          rw [hc1]
          clear hc1 hn1 hf cC
          go_wp2_with (first | (go_at_call 18; refine (cS2 _).mono ?_; rintro e' w' ⟨rfl, hw⟩; obtain rfl := hw.symm))
          refine cA.mono ?_
          rintro e8 w13 ⟨rfl, hb13⟩
          go_wp2
          go_ret
          exact ⟨rfl, hB8.trans (hb13.mono hB8.size)⟩
end Go.Proofs.YtnpdfkcjjedamaaGreatDoor.Sca
