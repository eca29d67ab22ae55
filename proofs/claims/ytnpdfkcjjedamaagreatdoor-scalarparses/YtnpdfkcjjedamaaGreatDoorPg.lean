/- The document's Parse, and ScalarParses, as they are walked. -/
import Derived.Test.YtnpdfkcjjedamaaGreatDoorPe
import Derived.Test.YtnpdfkcjjedamaaGreatDoorPf
import Derived.Test.YtnpdfkcjjedamaaGreatDoorPt
import Derived.Test.YtnpdfkcjjedamaaGreatDoorAl
namespace Go.Proofs.YtnpdfkcjjedamaaGreatDoor.Sca
open Go.RowKit Go.Lib Go.Shelf Go.Proofs.YtnpdfkcjjedamaaGreatDoor.Oct

/-- Is the text one of the document's? -/
def qOk (l : List UInt8) : Bool := decide (prB (rdQ l) = l)
set_option maxRecDepth 100000 in
theorem qParse (l : List UInt8) (hl : l.length ≤ 140737488351232) (w : World) :
    Calls Tryz.prog 21 #[.string ⟨l.toArray⟩] w fun e w' => e = .returned (.tuple #[.float .f64 (if qOk l then rdQ l else 0), .int .i64 (if qOk l then 0 else 20)]) ∧ ∃ q, w' = w.drewN q := by
  have mixed := mixed_ok
  have cR := qRead_any l hl w
  have cP := fun w => qPrint (rdQ l) (rdQ_lt l) w
  have heq : ((⟨(prB (rdQ l)).toArray⟩ : ByteArray).toList == (⟨l.toArray⟩ : ByteArray).toList) = qOk l := by
    rw [toList_list, toList_list]
    unfold qOk
    by_cases h : prB (rdQ l) = l
    · rw [decide_eq_true h, beq_iff_eq]; exact h
    · rw [decide_eq_false h, beq_eq_false_iff_ne]; exact h
  generalize qOk l = ok at *
  generalize rdQ l = x at *
  generalize (⟨(prB x).toArray⟩ : ByteArray) = p at *
  generalize (⟨l.toArray⟩ : ByteArray) = s at *
  cases ok
  · go_enter Tryz.func21, Tryz.ntmps21
    go_wp2_with fail
    refine cR.mono ?_
    rintro e w1 ⟨rfl, q1, rfl⟩
    go_wp2_with fail
    refine (cP _).mono ?_
    rintro e w1 ⟨rfl, q2, rfl⟩
    go_wp2_with fail
    go_ret2
    exact ⟨rfl, _, rfl⟩
  · go_enter Tryz.func21, Tryz.ntmps21
    go_wp2_with fail
    refine cR.mono ?_
    rintro e w1 ⟨rfl, q1, rfl⟩
    go_wp2_with fail
    refine (cP _).mono ?_
    rintro e w1 ⟨rfl, q2, rfl⟩
    go_wp2_with fail
    go_ret2
    exact ⟨rfl, _, rfl⟩
theorem can_twice (b : Nat) : can (can b) = can b := by
  by_cases h : 9218868437227405312 < mg b
  · rw [can_nan b h]
    decide +kernel
  · rw [can_num b h, can_num b h]
theorem parOk_eq (l : List UInt8) (h : parOk l = true) : prB ((readB l).getD 0) = l := by
  unfold parOk at h
  exact of_decide_eq_true (Bool.and_eq_true_iff.1 h).2
/-- Both sides read the same texts, and the same floats. -/
theorem both_read (l : List UInt8) : parOk l = qOk l ∧ (qOk l = true → can ((readB l).getD 0) = can (rdQ l)) := by
  by_cases h : qOk l = true
  · have h1 : prB (rdQ l) = l := of_decide_eq_true h
    have h2 := par_back (rdQ l) (rdQ_lt l)
    have h3 := read_back (rdQ l) (rdQ_lt l)
    rw [h1] at h2 h3
    refine ⟨by rw [h2, h], fun _ => ?_⟩
    rw [h3]
    exact can_twice (rdQ l)
  · have hf : qOk l = false := by cases hq : qOk l <;> simp_all
    refine ⟨?_, fun e => absurd e h⟩
    rw [hf]
    cases hp : parOk l
    · rfl
    · exfalso
      apply h
      have hlt := readB_lt l
      have hb : prB ((readB l).getD 0) = l := parOk_eq l hp
      have h4 := rdQ_back ((readB l).getD 0) hlt
      rw [hb] at h4
      unfold qOk
      rw [h4, pr_can, hb]
      exact decide_eq_true rfl
set_option maxRecDepth 100000 in
set_option maxHeartbeats 1000000 in
theorem parses_law (l : List UInt8) (hl : l.length ≤ 140737488351232) (w : World) (hT : Tb w) :
    Calls Tryz.prog 5 #[.string ⟨l.toArray⟩] w fun e w' => e = .returned (.bool true) ∧ Below w.heap.size w w' := by
  have mixed := mixed_ok
  have cP := sParse l hl w hT.er hT.tz hT.ten
  have cQ := fun w => qParse l hl w
  obtain ⟨hb1, hb2⟩ := both_read l
  rw [hb1] at cP
  have hA : (if qOk l = true then (readB l).getD 0 else 0) < 18446744073709551616 := by split; exact readB_lt l; omega
  have hB : (if qOk l = true then rdQ l else 0) < 18446744073709551616 := by split; exact rdQ_lt l; omega
  have hAB : can (if qOk l = true then (readB l).getD 0 else 0) = can (if qOk l = true then rdQ l else 0) := by
    by_cases h : qOk l = true
    · rw [if_pos h, if_pos h]; exact hb2 h
    · rw [if_neg h, if_neg h]
  have hEb : (0 : Int) ≤ (if qOk l = true then (0 : Int) else 20) ∧ (if qOk l = true then (0 : Int) else 20) ≤ 20 := by split <;> omega
  clear hb1 hb2
  generalize (if qOk l = true then (readB l).getD 0 else 0) = A at *
  generalize (if qOk l = true then rdQ l else 0) = B at *
  generalize (if qOk l = true then (0 : Int) else 20) = E at *
  obtain ⟨hE1, hE2⟩ := hEb
  have cS := fun w => kSame A B hA hB w
  rw [hAB, beq_self_eq_true] at cS
  have cN := fun w => kNum E w
  have hEE : (E == E) = true := beq_self_eq_true _
  generalize (⟨l.toArray⟩ : ByteArray) = s at *
  clear hA hB hAB
  go_enter Tryz.func5, Tryz.ntmps5
  go_wp2_with fail
  refine cP.mono ?_
  rintro e1 w1 ⟨rfl, hb1⟩
  have hT1 : Tb w1 := hT.below hb1
  go_wp2_with fail
  refine (cQ _).mono ?_
  rintro e2 w2 ⟨rfl, q2, rfl⟩
  have hbq : Below w1.heap.size w1 (w1.drewN q2) := below_drewN (Below.refl _ _) _
  have cA := alive_any (w1.drewN q2) (hT1.below hbq)
  clear cP cQ
  generalize w1.drewN q2 = w2 at *
  go_wp2_with fail
  refine (cS _).mono ?_
  rintro e w' ⟨rfl, hw⟩
  obtain rfl := hw.symm
  go_wp2_with fail
  refine (cN _).mono ?_
  rintro e w' ⟨rfl, hw⟩
  obtain rfl := hw.symm
  go_wp2_with fail
  refine cA.mono ?_
  rintro e3 w3 ⟨rfl, hb3⟩
  go_wp2
  go_ret
  exact ⟨rfl, hb1.trans ((hbq.trans (hb3.mono hbq.size)).mono hb1.size)⟩
end Go.Proofs.YtnpdfkcjjedamaaGreatDoor.Sca
