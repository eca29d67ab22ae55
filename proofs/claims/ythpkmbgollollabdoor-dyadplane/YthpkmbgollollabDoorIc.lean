/- LastIndexAny of a text of ASCII. -/
import Derived.Test.YthpkmbgollollabDoorIb
namespace Go.Proofs.YthpkmbgollollabDoor.Dy
open Go.RowKit Go.Lib Go.Shelf Go.Proofs.YthpkmbgollollabDoor.Sca

theorem yAsciiSet (n : Nat) (w : World) : Calls Tryd.prog 60 #[.int .i64 (n : Int)] w fun e w' => e = .returned (.bool (decide ((8 : Int) < (n : Int)))) ∧ w' = w := by
  go_enter Tryd.func60, Tryd.ntmps60
  go_wp2
  go_ret
  exact ⟨rfl, rfl⟩
theorem isS_rune (c : UInt8) : (0 : Int) ≤ (if c.toNat = 43 then 0 else if c.toNat = 45 then 1 else -1 : Int) ↔ isS c = true := by
  unfold isS
  by_cases h1 : c.toNat = 43
  · rw [if_pos h1]
    have : c = 43 := UInt8.toNat_inj.1 h1
    simp [this]
  · rw [if_neg h1]
    by_cases h2 : c.toNat = 45
    · rw [if_pos h2]
      have : c = 45 := UInt8.toNat_inj.1 h2
      simp [this]
    · rw [if_neg h2]
      have e1 : ¬ c = 43 := fun e => h1 (by rw [e]; rfl)
      have e2 : ¬ c = 45 := fun e => h2 (by rw [e]; rfl)
      simp [e1, e2]
set_option maxRecDepth 100000 in
set_option maxHeartbeats 1000000 in
theorem yLast_short (l : List UInt8) (h2 : 2 ≤ l.length) (h8 : l.length ≤ 8) (ha : ∀ i, i < l.length → (l.getD i 0).toNat < 128) (w : World) :
    Calls Tryd.prog 47 #[.string ⟨l.toArray⟩, .string ⟨#[43, 45]⟩] w fun e w' => e = .returned (.int .i64 (lastA l.length l)) ∧ Below w.heap.size w w' := by
  have cS := fun w => yAsciiSet l.length w
  rw [decide_eq_false (by omega)] at cS
  have cD := fun i h w => dlast_ascii l i h (by omega) (ha i h) w
  have cR := fun r h w => iRune_near r h w
  have hext := fun k => (ext_list l 0 k).trans (by rw [List.drop_zero])
  have hsz : (⟨l.toArray⟩ : ByteArray).size = l.length := by show l.toArray.size = _; simp
  generalize (⟨l.toArray⟩ : ByteArray) = s at *
  have z1 : ((l.length : Int) == 1) = false := by rw [beq_eq_false_iff_ne]; omega
  obtain ⟨R, HR⟩ : ∃ R, Hid (lastA l.length l = R) := ⟨_, hidP rfl⟩
  rw [HR.out]
  go_enter Tryd.func47, Tryd.ntmps47
  go_wp2_with fail
  refine (cS _).mono ?_
  rintro e w1 ⟨rfl, hw⟩
  obtain rfl := hw.symm
  go_wp2_with fail
  go_loopw [13] (fun vi wr => ∃ i : Nat, vi = .int .i64 (i : Int) ∧ i ≤ l.length ∧ Hid (lastA i l = R) ∧ wr = w) (fun vi _ => (RowKit.intOf vi).toNat)
  case atStart => exact ⟨l.length, rfl, Nat.le_refl _, HR, rfl⟩
  case round =>
    clear HR cS
    obtain ⟨i, rfl, hi, HL, rfl⟩ := hrel
    cases i with
    | zero =>
      have hR : R = -1 := by rw [← HL.out]; rfl
      subst hR
      clear cD cR
      go_wp2_with fail
      go_ret
      exact ⟨rfl, Below.refl _ _⟩
    | succ i =>
      have hpos : 0 < ((i + 1 : Nat) : Int) := by omega
      have cDi := fun w => cD i (by omega) w
      have cRi := fun w => cR (l.getD i 0).toNat (ha i (by omega)) w
      have hx := hext (i + 1)
      have hle : ((i + 1 : Nat) : Int) ≤ (l.length : Int) := by omega
      have hle2 : i + 1 ≤ s.size := by omega
      have hsub : ((i + 1 : Nat) : Int) - 1 = (i : Int) := by omega
      have hL := HL.out
      unfold lastA at hL
      have hiff := isS_rune (l.getD i 0)
      generalize (⟨(l.take (i + 1)).toArray⟩ : ByteArray) = s1 at *
      generalize (if (l.getD i 0).toNat = 43 then 0 else if (l.getD i 0).toNat = 45 then 1 else -1 : Int) = v at *
      clear cD cR HL hext ha
      by_cases hc : isS (l.getD i 0) = true
      · rw [if_pos hc] at hL
        subst hL
        have hv := hiff.2 hc
        generalize l.getD i 0 = c at *
        clear hiff hc
        go_wp2_with fail
        refine (cDi _).mono ?_
        rintro e w1 ⟨rfl, hw⟩
        obtain rfl := hw.symm
        go_wp2_with fail
        refine (cRi _).mono ?_
        rintro e w1 ⟨rfl, hw⟩
        obtain rfl := hw.symm
        go_wp2_with fail
        go_ret
        exact ⟨rfl, Below.refl _ _⟩
      · rw [if_neg hc] at hL
        have HL2 : Hid (lastA i l = R) := hidP hL
        have hv : ¬ (0 : Int) ≤ v := fun h => hc (hiff.1 h)
        have hv' : decide ((0 : Int) ≤ v) = false := decide_eq_false hv
        generalize l.getD i 0 = c at *
        clear hiff hc hL
        go_wp2_with fail
        refine (cDi _).mono ?_
        rintro e w1 ⟨rfl, hw⟩
        obtain rfl := hw.symm
        go_wp2_with fail
        refine (cRi _).mono ?_
        rintro e w1 ⟨rfl, hw⟩
        obtain rfl := hw.symm
        go_wp2_with fail
        exact ⟨⟨i, by first | rfl | simp, by omega, HL2, trivial⟩, by simp [RowKit.intOf]⟩
end Go.Proofs.YthpkmbgollollabDoor.Dy
