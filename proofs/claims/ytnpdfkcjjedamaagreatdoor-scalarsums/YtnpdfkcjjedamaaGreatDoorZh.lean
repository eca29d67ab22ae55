/- ScalarSums, walked. -/
import Derived.Test.YtnpdfkcjjedamaaGreatDoorZg
import Derived.Test.YtnpdfkcjjedamaaGreatDoorAl
import Derived.BigQuiet
import Derived.Deep.DeepBigQuietO
namespace Go.Proofs.YtnpdfkcjjedamaaGreatDoor.Sca
open Go.RowKit Go.Lib Go.Shelf Go.Proofs.YtnpdfkcjjedamaaGreatDoor.Oct

theorem own_b3 {w w' : World} {B : Nat} {e : TypeId} {ao : Option Addr} {n c : Nat} {xs : List Value} (h : w.ownsRow B e 1 (.slice ao n c) n xs) (hb : Below w.heap.size w w') : w'.ownsRow B e 1 (.slice ao n c) n xs :=
  ownsRow_of_block h (fun k hk => hb.block k (h.lt k (by rw [ob_eq]; exact hk)).2)
set_option maxRecDepth 100000 in
set_option maxHeartbeats 2000000 in
theorem sums_law (ai : Option Addr) (ci n : Nat) (us : List Nat) (w : World) (hun : us.length = n) (hn : n ≤ 17592186044414) (hU : Us w ai us) (hlt : ∀ x ∈ us, x < 18446744073709551616) (hT : Tb w) :
    Calls Tryz.prog 3 #[.slice ai n ci] w fun e w' => e = .returned (.bool true) ∧ Below w.heap.size w w' := by
  have mixed := mixed_ok
  have HT : Hid (Tb w) := hT
  have HU : Hid (Us w ai us) := hU
  have HL : Hid (∀ x ∈ us, x < 18446744073709551616) := hlt
  have cF := fun (w' : World) (hb : Below w.heap.size w w') => kFloats ai ci n us w' hun (by omega) (HU.out.below hb)
  clear hT hU hlt
  have cF0 := cF w (Below.refl _ _)
  go_enter Tryz.func3, Tryz.ntmps3
  go_wp2_with fail
  refine cF0.mono ?_
  rintro e1 w1 ⟨ao, c, rfl, hown, hb1⟩
  have cS := sSum ao n c us w1 hun (by omega) (Fl.of_own hown)
  clear cF0
  go_wp2_with fail
  refine cS.mono ?_
  rintro e2 w2 ⟨r1, rfl, hr1l, hr1, q1, hq1⟩
  have hb2 : Below w1.heap.size w1 w2 := by rw [hq1]; exact below_drewN (Below.refl _ _) _
  have hown2 := own_b3 hown hb2
  have hB2 : Below w.heap.size w w2 := hb1.trans (hb2.mono hb1.size)
  have HR1 : Hid (can r1 = sumC us) := hr1
  have cP := sPairs w.heap.size 25 ao n c us w2 (by omega) hown2 HL.out
  clear cS hown hq1 hb2 hb1 hr1
  go_wp2_with fail
  refine cP.mono ?_
  rintro e3 w3 ⟨r2, rfl, hr2l, hr2, q2, hq2⟩
  have hb3 : Below w2.heap.size w2 w3 := by rw [hq2]; exact below_drewN (Below.refl _ _) _
  have hown3 := own_b3 hown2 hb3
  have hB3 : Below w.heap.size w w3 := hB2.trans (hb3.mono hB2.size)
  have HR2 : Hid (can r2 = pairF (n + 1) us) := hr2
  have cW := sWhole w.heap.size 25 ao n c us w3 (by omega) hown3 HL.out (HT.out.below hB3).tz
  clear cP hown2 hq2 hb3 hB2 hr2
  go_wp2_with fail
  refine cW.mono ?_
  rintro e4 w4 ⟨r3, rfl, hr3l, hr3, hb4⟩
  have hown4 := own_b3 hown3 hb4
  have hB4 : Below w.heap.size w w4 := hB3.trans (hb4.mono hB3.size)
  have HR3 : Hid (can r3 = wholeC us) := hr3
  have cF1 := cF w4 hB4
  clear cW hown3 hb4 hB3 hr3
  go_wp2_with fail
  refine cF1.mono ?_
  rintro e5 w5 ⟨ao5, c5, rfl, hown5, hb5⟩
  have hown4b := own_b3 hown4 hb5
  have hB5 : Below w.heap.size w w5 := hB4.trans (hb5.mono hB4.size)
  have cQ := qSum ao5 n c5 us w5 hun (by omega) (Fl.of_own hown5)
  clear cF1 hown5 hb5 hB4 hown4
  go_wp2_with fail
  refine cQ.mono ?_
  rintro e6 w6 ⟨p1, rfl, hp1l, hp1, q6, hq6⟩
  have hb6 : Below w5.heap.size w5 w6 := by rw [hq6]; exact below_drewN (Below.refl _ _) _
  have hown6 := own_b3 hown4b hb6
  have hB6 : Below w.heap.size w w6 := hB5.trans (hb6.mono hB5.size)
  have cS1 := fun w => kSame r1 p1 hr1l hp1l w
  rw [beq_iff_eq.2 (HR1.out.trans hp1.symm)] at cS1
  have cF2 := cF w6 hB6
  clear cQ hown4b hq6 hb6 hB5 hp1 HR1 hr1l hp1l
  go_wp2_with (go_at_call 10; refine (cS1 _).mono ?_; rintro e' w' ⟨rfl, hw⟩; obtain rfl := hw.symm)
  refine cF2.mono ?_
  rintro e7 w7 ⟨ao7, c7, rfl, hown7, hb7⟩
  have hown6b := own_b3 hown6 hb7
  have hB7 : Below w.heap.size w w7 := hB6.trans (hb7.mono hB6.size)
  have cQ := qPairs w6.heap.size 25 ao7 n c7 us w7 (by omega) hown7 HL.out
  clear cF2 cS1 hown7 hb7 hB6 hown6
  go_wp2_with fail
  refine cQ.mono ?_
  rintro e8 w8 ⟨p2, rfl, hp2l, hp2, q8, hq8⟩
  have hb8 : Below w7.heap.size w7 w8 := by rw [hq8]; exact below_drewN (Below.refl _ _) _
  have hown8 := own_b3 hown6b hb8
  have hB8 : Below w.heap.size w w8 := hB7.trans (hb8.mono hB7.size)
  have cS2 := fun w => kSame r2 p2 hr2l hp2l w
  rw [beq_iff_eq.2 (HR2.out.trans hp2.symm)] at cS2
  have cF3 := cF w8 hB8
  clear cQ hown6b hq8 hb8 hB7 hp2 HR2 hr2l hp2l
  go_wp2_with (go_at_call 10; refine (cS2 _).mono ?_; rintro e' w' ⟨rfl, hw⟩; obtain rfl := hw.symm)
  refine cF3.mono ?_
  rintro e9 w9 ⟨ao9, c9, rfl, hown9, hb9⟩
  have hown8b := own_b3 hown8 hb9
  have hB9 : Below w.heap.size w w9 := hB8.trans (hb9.mono hB8.size)
  have cQ := qWhole ao9 n c9 us w9 hun (by omega) (Fl.of_own hown9) HL.out
  clear cF3 cS2 hown9 hb9 hB8 hown8 cF
  go_wp2_with fail
  refine cQ.mono ?_
  rintro e10 w10 ⟨p3, rfl, hp3l, hp3, hb10⟩
  have hown10 := own_b3 hown8b hb10
  have hB10 : Below w.heap.size w w10 := hB9.trans (hb10.mono hB9.size)
  have cS3 := fun w => kSame r3 p3 hr3l hp3l w
  rw [beq_iff_eq.2 (HR3.out.trans hp3.symm)] at cS3
  clear cQ hown8b hb10 hB9 hp3 HR3 hr3l hp3l
  go_wp2_with (go_at_call 10; refine (cS3 _).mono ?_; rintro e' w' ⟨rfl, hw⟩; obtain rfl := hw.symm)
  clear cS3
  go_loopw [7] (fun vi wr => ∃ k : Nat, vi = .int .i64 (k : Int) ∧ k ≤ n ∧ Below w10.heap.size w10 wr) (fun vi _ => n - (Go.RowKit.intOf vi).toNat)
  case atStart => exact ⟨0, rfl, Nat.zero_le _, Below.refl _ _⟩
  case round =>
    obtain ⟨k, rfl, hk, hbw⟩ := hrel
    have hBw : Below w.heap.size w wr := hB10.trans (hbw.mono hB10.size)
    by_cases hkn : k < n
    · have hkz : decide ((k : Int) < (n : Int)) = true := decide_eq_true (by omega)
      obtain ⟨x, hx⟩ : ∃ x, us[k]? = some x := ⟨us[k]'(by omega), List.getElem?_eq_getElem _⟩
      have hxl := HL.out x (List.mem_of_getElem? hx)
      obtain ⟨g, rfl⟩ : ∃ g, ao = some ⟨g, 0, none⟩ := (own_some hown10).elim (fun h => by omega) id
      have hc1 := cell_b (own_cells hown10 k x hx) hbw
      rw [Nat.zero_add] at hc1
      have hne : us ≠ [] := fun e => by rw [e] at hx; simp at hx
      obtain ⟨gi, off, rfl, hcell⟩ := HU.out.resolve_left hne
      have hc2 := cell_b (hcell k x hx) hBw
      have cO := fun w => qOf x w
      have cS := fun w => kSame x x hxl hxl w
      rw [beq_self_eq_true] at cS
      have hk0 : (0 : Int) ≤ (k : Int) := by omega
      have hk1 : (k : Int) < (n : Int) := by omega
      clear hx hne hcell hown10
      go_wp2
      go_big_quiet_o (first | (go_at_call 14; with_reducible refine Calls.quiet_of_same (cO _)) | (go_at_call 10; with_reducible refine Calls.quiet_of_same (cS _)))
      have hb2 : Below w10.heap.size w10 (wr.drewN nq) := below_drewN hbw nq
      go_wp2
      exact ⟨⟨k + 1, by go_num, by omega, hb2⟩, by simp [Go.RowKit.intOf]; omega⟩
    · obtain rfl : k = n := by omega
      have cA := alive_any wr (HT.out.below hBw)
      go_wp2_with fail
      refine cA.mono ?_
      rintro e8 w13 ⟨rfl, hb13⟩
      go_wp2
      go_ret
      exact ⟨rfl, hBw.trans (hb13.mono hBw.size)⟩
end Go.Proofs.YtnpdfkcjjedamaaGreatDoor.Sca
