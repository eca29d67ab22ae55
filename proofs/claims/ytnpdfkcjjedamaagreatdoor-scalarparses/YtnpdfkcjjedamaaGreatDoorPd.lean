/- The document's digit, as it is walked. -/
import Derived.Test.YtnpdfkcjjedamaaGreatDoorPq
namespace Go.Proofs.YtnpdfkcjjedamaaGreatDoor.Sca
open Go.RowKit Go.Lib Go.Shelf Go.Proofs.YtnpdfkcjjedamaaGreatDoor.Oct

/-- A hexadecimal digit's number; -1: it is none. -/
def dgt (c : Nat) : Int := if 48 ≤ c ∧ c ≤ 57 then (c : Int) - 48 else if 97 ≤ c ∧ c ≤ 102 then (c : Int) - 87 else -1
theorem dgt_fin : ∀ c : Fin 256, (∀ j : Fin 16, (hxd j.val).toNat = c.val → dgt c.val = (j.val : Int)) ∧ ((∀ j : Fin 16, (hxd j.val).toNat ≠ c.val) → dgt c.val = -1) := by decide +kernel
theorem index_hex_i (n : Nat) (h : n < 16) (w : World) : (Instr.index 9 (.string hexText) (.int .i64 (n : Int))).run Tryz.prog w = .ok (.int .u8 ((hxd n).toNat : Int)) w := by
  have hi : (0 : Int) ≤ (n : Int) ∧ (n : Int) < (hexText.size : Int) := ⟨by omega, by show (n : Int) < 16; omega⟩
  rw [run_index_string w 9 hexText .i64 (n : Int) Tryz.underlying9, dif_pos hi]
  have e := hex_at ⟨n, h⟩
  have e2 : hexText[(n : Int).toNat]'(by simp; show n < 16; exact h) = hxd n := by
    have e3 : hexText.data.toList[n]'(by show n < 16; exact h) = hxd n := Option.some.inj ((List.getElem?_eq_getElem (by show n < 16; exact h)).symm.trans e)
    exact e3
  rw [e2]
theorem qDigit (c : Nat) (hc : c < 256) (w : World) : Calls Tryz.prog 69 #[.int .u8 (c : Int)] w fun e w' => e = .returned (.int .i64 (dgt c)) ∧ w' = w := by
  obtain ⟨d1, d2⟩ := dgt_fin ⟨c, hc⟩
  have D1 : Hid (∀ j : Fin 16, (hxd j.val).toNat = c → dgt c = (j.val : Int)) := d1
  have D2 : Hid ((∀ j : Fin 16, (hxd j.val).toNat ≠ c) → dgt c = -1) := d2
  clear d1 d2
  generalize dgt c = A at *
  go_enter Tryz.func69, Tryz.ntmps69
  go_wp2
  go_loop [3] (fun vi => ∃ i : Nat, vi = .int .i64 (i : Int) ∧ i ≤ 16 ∧ Hid (∀ j, j < i → (hxd j).toNat ≠ c)) (fun vi => 16 - (Go.RowKit.intOf vi).toNat)
  case atStart => exact ⟨0, rfl, by omega, fun j hj => by omega⟩
  case round =>
    obtain ⟨i, rfl, hi, hinv⟩ := hrel
    by_cases h : i < 16
    · have hz : decide ((i : Int) < 16) = true := decide_eq_true (by omega)
      have hix := index_hex_i i h
      have h256 : (hxd i).toNat < 256 := (hxd i).toNat_lt
      by_cases he : (hxd i).toNat = c
      · have hA := D1.out ⟨i, h⟩ he
        have HA : Hid (A = (i : Int)) := hA
        have hez : (((hxd i).toNat : Int) == (c : Int)) = true := by rw [beq_iff_eq]; omega
        have hey : ((hxd i).toNat == c) = true := by rw [beq_iff_eq]; exact he
        clear he hA D1 D2 hinv
        generalize (hxd i).toNat = x at *
        go_wp2
        go_ret
        exact ⟨by rw [HA.out]; rfl, rfl⟩
      · have hez : (((hxd i).toNat : Int) == (c : Int)) = false := by rw [beq_eq_false_iff_ne]; omega
        have hey : ((hxd i).toNat == c) = false := by rw [beq_eq_false_iff_ne]; exact he
        have HN : Hid (∀ j, j < i + 1 → (hxd j).toNat ≠ c) := fun j hj => by
          rcases Nat.lt_or_ge j i with c1 | c1
          · exact hinv.out j c1
          · rw [show j = i from by omega]; exact he
        clear he hinv
        generalize (hxd i).toNat = x at *
        go_wp2
        exact ⟨⟨i + 1, by go_num, by omega, HN.out⟩, by simp [Go.RowKit.intOf]; omega⟩
    · have hz : decide ((i : Int) < 16) = false := decide_eq_false (by omega)
      have hA := D2.out (fun j => hinv.out j.val (by have := j.isLt; omega))
      subst hA
      clear hinv D1 D2
      go_wp2
      go_ret
      exact ⟨rfl, rfl⟩
end Go.Proofs.YtnpdfkcjjedamaaGreatDoor.Sca
