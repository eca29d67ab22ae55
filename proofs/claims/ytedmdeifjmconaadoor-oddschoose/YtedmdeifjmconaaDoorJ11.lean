/- The set-up as a whole; the law OddsChoose, as it is walked. -/
import Derived.Test.YtedmdeifjmconaaDoorH11
namespace Go.Proofs.YtedmdeifjmconaaDoor.Odd
open Go.RowKit Go.Proofs.YtedmdeifjmconaaDoor.Sca Go.Proofs.YtedmdeifjmconaaDoor.Gt

theorem cEql (w : World) : (binOp .eql 42 (.complex .f64 0 4602678819172646912) (.complex .f64 0 4602678819172646912)).run Tryd.prog w = .ok (.bool true) w := by kernel_rfl
set_option maxRecDepth 100000 in
set_option maxHeartbeats 2000000 in
theorem lHeads (w : World) (hT : Tz w) : Calls Tryd.prog 6 #[] w fun e w' => e = .returned (.bool true) ∧ Below w.heap.size w w' := by
  have HT := hide (fun V (h : Below w.heap.size w V) => hT.below h)
  have HB := hide (Below.refl w.heap.size w)
  have cc := fun W => oChoose 4598175219545276416 4604930618986332160 4602678819172646912 (by decide) (by decide) W
  rw [show chooseP 4598175219545276416 4604930618986332160 4602678819172646912 = (1, 0) by decide +kernel] at cc
  have o1 : (FloatKind.f64.format.order 4598175219545276416 4598175219545276416 == some .eq) = true := by decide +kernel
  have o2 : (FloatKind.f64.format.order 4604930618986332160 4604930618986332160 == some .eq) = true := by decide +kernel
  have o3 : (FloatKind.f64.format.order 4602678819172646912 4602678819172646912 == some .eq) = true := by decide +kernel
  clear hT
  go_enter Tryd.func6, Tryd.ntmps6
  go_wp2_with (first
    | (go_at_call 11; (with_reducible refine Calls.mono (oTwo _) ?_); rintro e wt ⟨rfl, hS, hb⟩; have HS := hide hS; have HB := hide (HB.out.trans (hb.mono HB.out.size)); clear hS hb)
    | (go_at_call 10; (with_reducible refine Calls.mono (oWeigh _ _ (HT.out _ HB.out) HS.out) ?_); rintro e w1 ⟨rfl, hb⟩; have HB := hide (HB.out.trans (hb.mono HB.out.size)); clear hb)
    | (go_at_call 12; (with_reducible refine Calls.mono (oMarginal _ _ _ (HT.out _ (HB.out.trans ((bnew _ _).mono HB.out.size))) (HS.out.below (bnew _ _)) (qr_new _ [1, 0])) ?_); rintro e w2 ⟨g2, rfl, hF, hb⟩; have HB2 := hide ((HB.out.trans ((bnew _ _).mono HB.out.size)).trans (hb.mono (HB.out.trans ((bnew _ _).mono HB.out.size)).size)); have HF := hide hF; clear hb hF))
  have HC2 := hide (Below.refl w2.heap.size w2)
  go_wp2_with (first
    | (go_at_call 4; (with_reducible refine Calls.mono (cc _) ?_); rintro e w3 ⟨rfl, q, hq⟩; have HC2 := hide (show Below w2.heap.size w2 w3 by rw [hq]; exact bdrew (Below.refl _ _) q); clear hq)
    | (go_at_call 11; (with_reducible refine Calls.mono (oTwo _) ?_); rintro e wt ⟨rfl, hS, hb⟩; have HS := hide hS; have HC2 := hide (HC2.out.trans (hb.mono HC2.out.size)); clear hS hb))
  go_wp2_with (go_at_call 13; (with_reducible refine Calls.mono (oSettle _ _ (HT.out _ (HB2.out.trans (HC2.out.mono HB2.out.size))) HS.out) ?_); rintro e w4 ⟨g4, rfl, hF, hb⟩; have HC4 := hide (HC2.out.trans (hb.mono HC2.out.size)); have HF4 := hide hF; clear hb hF)
  go_wp2_with (first
    | (go_at_call 11; (with_reducible refine Calls.mono (oTwo _) ?_); rintro e wt ⟨rfl, hS, hb⟩; have HS := hide hS; have HC5 := hide hb; clear hS hb)
    | (go_at_call 14; (with_reducible refine Calls.mono (oSample _ _ (HT.out _ ((HB2.out.trans (HC4.out.mono HB2.out.size)).trans (HC5.out.mono (HB2.out.trans (HC4.out.mono HB2.out.size)).size))) HS.out) ?_); rintro e w6 ⟨rfl, hw⟩; obtain rfl := hw.symm; have hce := cEql; have k3 := ((HF.out.below HC4.out).below HC5.out).cell 3 (by decide); have k3l := ((HF.out.below HC4.out).below HC5.out).lt; have k0 := (HF4.out.below HC5.out).cell 0 (by decide); have k0l := (HF4.out.below HC5.out).lt; rw [show F2 4 3 = 4602678819172646912 from rfl] at k3; rw [show K1 4 0 = (0, 4602678819172646912) from rfl] at k0; simp only at k0))
  go_ret
  exact ⟨rfl, (HB2.out.trans (HC4.out.mono HB2.out.size)).trans (HC5.out.mono (HB2.out.trans (HC4.out.mono HB2.out.size)).size)⟩
/-- What is chosen has a weight above 0. -/
theorem choose_ok (z o u : Nat) (hz : z < 18446744073709551616) (ho : o < 18446744073709551616) : chooseP z o u = (0, 110) ∨ (chooseP z o u = (1, 0) ∧ (FloatKind.f64.format.order o 0 == some .eq) = false) ∨ (chooseP z o u = (0, 0) ∧ (FloatKind.f64.format.order z 0 == some .eq) = false) := by
  unfold chooseP
  cases hs : floatBits .add .f64 z o with
  | none => exact .inl rfl
  | some r =>
    simp only
    cases hk : okC z o u r with
    | false => exact .inl rfl
    | true =>
      right
      unfold okC at hk
      simp only [Bool.and_eq_true, Bool.not_eq_true'] at hk
      obtain ⟨⟨⟨⟨h1, h2⟩, h3⟩, h4⟩, h5⟩ := hk
      cases hE : (FloatKind.f64.format.order z 0 == some .eq) with
      | true =>
        refine .inl ⟨rfl, ?_⟩
        cases hH : (FloatKind.f64.format.order o 0 == some .eq) with
        | false => rfl
        | true =>
          have := (none_one z o u r hz ho hs h3 h5 h4 hH).1
          rw [hE] at this
          cases this
      | false =>
        cases hG : (FloatKind.f64.format.order (mulB u r) o == some .lt) with
        | true =>
          refine .inl ⟨rfl, ?_⟩
          cases hH : (FloatKind.f64.format.order o 0 == some .eq) with
          | false => rfl
          | true =>
            have := (none_one z o u r hz ho hs h3 h5 h4 hH).2
            rw [hG] at this
            cases this
        | false => exact .inr ⟨rfl, rfl⟩
set_option maxRecDepth 100000 in
set_option maxHeartbeats 2000000 in
theorem xOddsChoose (z o u : Nat) (hz : z < 18446744073709551616) (ho : o < 18446744073709551616) (w : World) (hT : Tz w) : Calls Tryd.prog 3 #[.float .f64 z, .float .f64 o, .float .f64 u] w fun e w' => e = .returned (.bool true) ∧ Below w.heap.size w w' := by
  have c1 := fun W => oChoose z o u hz ho W
  have c2 := fun W => rChoose z o u hz ho W
  have HT := hide (fun V (h : Below w.heap.size w V) => hT.below h)
  have HB := hide (Below.refl w.heap.size w)
  have hk := choose_ok z o u hz ho
  generalize chooseP z o u = R at *
  clear hT hz ho
  rcases hk with rfl | ⟨rfl, hn⟩ | ⟨rfl, hn⟩
  all_goals go_enter Tryd.func3, Tryd.ntmps3
  all_goals go_wp2_with (first
    | (go_at_call 4; (with_reducible refine Calls.mono (c1 _) ?_); rintro e w3 ⟨rfl, q, hq⟩; have HB := hide (show Below w.heap.size w w3 by rw [hq]; exact bdrew HB.out q); clear hq)
    | (go_at_call 5; (with_reducible refine Calls.mono (c2 _) ?_); rintro e w4 ⟨rfl, q, hq⟩; have HB := hide (show Below w.heap.size w w4 by rw [hq]; exact bdrew HB.out q); clear hq)
    | (go_at_call 6; (with_reducible refine Calls.mono (lHeads _ (HT.out _ HB.out)) ?_); rintro e w5 ⟨rfl, hb⟩; have HB5 := hide (HB.out.trans (hb.mono HB.out.size)); clear hb))
  all_goals go_ret
  all_goals exact ⟨rfl, HB5.out⟩
end Go.Proofs.YtedmdeifjmconaaDoor.Odd
