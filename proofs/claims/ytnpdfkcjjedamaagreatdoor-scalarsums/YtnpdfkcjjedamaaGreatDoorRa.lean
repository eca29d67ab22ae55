/- ParseUint(s, 16, 64), as it is walked. -/
import Derived.Test.YtnpdfkcjjedamaaGreatDoorPb
import Derived.Test.YtnpdfkcjjedamaaGreatDoorSShB
import Derived.Lib.ConvBytes
import Derived.Lib.AtoiErrMem
import Derived.Laws.Strings3
namespace Go.Proofs.YtnpdfkcjjedamaaGreatDoor.Sca
open Go.RowKit Go.Lib Go.Shelf Go.Proofs.YtnpdfkcjjedamaaGreatDoor.Oct

/-- What reading a number gives. -/
inductive Rd where
  | ok (n : Nat)
  | bad
  | far
/-- A digit's value, in base 16; 16 and more: it is none. -/
def dv (c : Nat) : Nat := if 48 ≤ c ∧ c ≤ 57 then c - 48 else if 97 ≤ c ||| 32 ∧ c ||| 32 ≤ 122 then (c ||| 32) - 87 else 99
def pu : Nat → List UInt8 → Rd
  | a, [] => .ok a
  | a, c :: r => if dv c.toNat < 16 then (if 1152921504606846976 ≤ a then .far else pu (a * 16 + dv c.toNat) r) else .bad
theorem pu_cons (a : Nat) (c : UInt8) (r : List UInt8) : pu a (c :: r) = if dv c.toNat < 16 then (if 1152921504606846976 ≤ a then .far else pu (a * 16 + dv c.toNat) r) else .bad := rfl
def puV : Rd → Value
  | .ok n => .tuple #[.int .u64 (n : Int), .nilIface]
  | .bad => .tuple #[.int .u64 0, .iface 104 (.int .i64 2)]
  | .far => .tuple #[.int .u64 18446744073709551615, .iface 104 (.int .i64 1)]
theorem or32_lt (c : Nat) (h : c < 256) : c ||| 32 < 256 := Nat.or_lt_two_pow (n := 8) h (by decide)
theorem lower_any (c : Nat) (h : c < 256) (w : World) : Calls Tryz.prog 116 #[.int .u8 (c : Int)] w fun e w' => e = .returned (.int .u8 ((c ||| 32 : Nat) : Int)) ∧ w' = w := by
  have ho : bits .or .u8 (c : Int) 32 = ((c ||| 32 : Nat) : Int) := u8_or_nat c 32 h (by decide)
  generalize c ||| 32 = l at *
  go_enter Tryz.func116, Tryz.ntmps116
  go_wp2
  go_ret
  exact ⟨rfl, rfl⟩
set_option maxRecDepth 100000 in
set_option maxHeartbeats 1000000 in
theorem ParseUint16 (t : ByteArray) (hne : t.size ≠ 0) (hmax : t.size ≤ 9223372036854775806) (w : World) :
    Calls Tryz.prog 90 #[.string t, .int .i64 16, .int .i64 64] w fun e w' => e = .returned (puV (pu 0 t.data.toList)) ∧ Below w.heap.size w w' := by
  have hemp : t.toList.isEmpty = false := by
    rw [← decide_eq_emptyBytes]
    exact decide_eq_false (fun h => hne (by rw [h]; rfl))
  have hcv := Lib.run_convert_string_bytes (P := Tryz.prog) w 9 95 5 t (u := .string) Tryz.underlying9 Tryz.underlying95 Tryz.underlying5
  have hB : ∀ j, j < t.size → (Lib.bytesWorld w 5 t).cell? ⟨w.heap.size, j, none⟩ = some (.int .u8 (t.data.toList.getD j 0).toNat) := fun j hj => Lib.bytesWorld_cell w 5 t j hj
  have hbw : Below w.heap.size w (Lib.bytesWorld w 5 t) := Lib.bytesWorld_below w 5 t
  have hmv : IntKind.u64.wrap (IntKind.u64.wrap 18446744073709551616 - 1) = 18446744073709551615 := by decide +kernel
  generalize Lib.bytesWorld w 5 t = W1 at *
  have hLn : t.data.toList.length = t.size := (Lib.size_eq t).symm
  generalize t.data.toList = bs at *
  go_enter Tryz.func90, Tryz.ntmps90
  go_wp2
  go_loop [12, 13, 101] (fun vu vn vi => ∃ (k acc : Nat) (a : Int), vu = .bool false ∧ vn = .int .u64 a ∧ vi = .int .i64 k ∧ k ≤ t.size ∧ Hid (a = (acc : Int) ∧ acc < 18446744073709551616 ∧ pu 0 bs = pu acc (bs.drop k)))
    (fun _ _ vi => t.size - (Go.RowKit.intOf vi).toNat)
  case atStart => exact ⟨0, 0, 0, rfl, rfl, rfl, by omega, rfl, by omega, rfl⟩
  case round =>
    obtain ⟨k, acc, a, rfl, rfl, rfl, hk, hh⟩ := hrel
    obtain ⟨ha, hacc, hdec⟩ := hh.out
    clear hh
    have a0 : 0 ≤ a := by omega
    have a1 : a < 18446744073709551616 := by omega
    by_cases hkn : k < t.size
    · have hc := hB k hkn
      have hdrop : bs.drop k = bs[k]'(by omega) :: bs.drop (k + 1) := List.drop_eq_getElem_cons (by omega)
      have hget : bs.getD k 0 = bs[k]'(by omega) := by simp [List.getD, List.getElem?_eq_getElem (show k < bs.length by omega)]
      rw [hdrop] at hdec
      rw [hget] at hc
      generalize bs[k]'(by omega) = c at hc hdec
      have hc256 : c.toNat < 256 := c.toNat_lt
      by_cases h95 : c.toNat = 95
      · rw [pu_cons, h95, if_neg (by decide)] at hdec
        rw [h95] at hc
        have cW : ∀ w, Calls Tryz.prog 116 #[.int .u8 95] w fun e w' => e = .returned (.int .u8 127) ∧ w' = w := fun w => lower_any 95 (by decide) w
        have HD : Hid (pu 0 bs = .bad) := hdec
        clear hacc ha hdec h95 hB hdrop hget hc256
        go_wp2_with (go_at_call 116; refine (cW _).mono ?_; rintro e w' ⟨rfl, hw⟩; obtain rfl := hw.symm)
        go_ret2
        exact ⟨by rw [HD.out]; rfl, hbw⟩
      have h95z : ((c.toNat : Int) == 95) = false := by rw [beq_eq_false_iff_ne]; omega
      clear h95
      have cW := fun w => lower_any c.toNat hc256 w
      have hl256 := or32_lt c.toNat hc256
      obtain ⟨d, hd⟩ : ∃ d, dv c.toNat = d := ⟨_, rfl⟩
      rw [pu_cons, hd] at hdec
      unfold dv at hd
      generalize c.toNat ||| 32 = l at *
      generalize c.toNat = cn at *
      clear hB hdrop hget
      by_cases hdig : 48 ≤ cn ∧ cn ≤ 57
      · obtain ⟨hd0, hd1⟩ := hdig
        rw [if_pos ⟨hd0, hd1⟩] at hd
        rw [if_pos (by omega)] at hdec
        by_cases hcut : 1152921504606846976 ≤ acc
        · rw [if_pos hcut] at hdec
          have icut : 1152921504606846976 ≤ a := by omega
          have HD : Hid (pu 0 bs = .far) := hdec
          clear hcut hacc ha hdec hd
          go_wp2
          go_ret2
          exact ⟨by rw [HD.out]; rfl, hbw⟩
        · rw [if_neg hcut] at hdec
          have icut : a < 1152921504606846976 := by omega
          have HN : Hid (a * 16 + ((cn : Int) - 48) = ((acc * 16 + d : Nat) : Int) ∧ acc * 16 + d < 18446744073709551616 ∧ pu 0 bs = pu (acc * 16 + d) (bs.drop (k + 1))) := ⟨by omega, by omega, hdec⟩
          have iov : a * 16 + ((cn : Int) - 48) < 18446744073709551616 := by omega
          clear hcut hacc hdec ha hd
          go_wp2
          refine ⟨⟨k + 1, acc * 16 + d, a * 16 + ((cn : Int) - 48), rfl, (by first | rfl | (congr 1; omega)), (by first | rfl | (congr 1; omega)), by omega, HN⟩, by simp [Go.RowKit.intOf]; omega⟩
      · rw [if_neg hdig] at hd
        by_cases h48 : 48 ≤ cn
        · have h58 : 57 < cn := by omega
          clear hdig
          by_cases hlet : 97 ≤ l ∧ l ≤ 122
          · rw [if_pos hlet] at hd
            obtain ⟨hl0, hl1⟩ := hlet
            by_cases h16 : l ≤ 102
            · rw [if_pos (by omega)] at hdec
              by_cases hcut : 1152921504606846976 ≤ acc
              · rw [if_pos hcut] at hdec
                have icut : 1152921504606846976 ≤ a := by omega
                have HD : Hid (pu 0 bs = .far) := hdec
                clear hcut hacc ha hdec hd
                go_wp2_with (go_at_call 116; refine (cW _).mono ?_; rintro e w' ⟨rfl, hw⟩; obtain rfl := hw.symm)
                go_ret2
                exact ⟨by rw [HD.out]; rfl, hbw⟩
              · rw [if_neg hcut] at hdec
                have icut : a < 1152921504606846976 := by omega
                have HN : Hid (a * 16 + ((l : Int) - 97 + 10) = ((acc * 16 + d : Nat) : Int) ∧ acc * 16 + d < 18446744073709551616 ∧ pu 0 bs = pu (acc * 16 + d) (bs.drop (k + 1))) := ⟨by omega, by omega, hdec⟩
                have iov : a * 16 + ((l : Int) - 97 + 10) < 18446744073709551616 := by omega
                clear hcut hacc hdec ha hd
                go_wp2_with (go_at_call 116; refine (cW _).mono ?_; rintro e w' ⟨rfl, hw⟩; obtain rfl := hw.symm)
                refine ⟨⟨k + 1, acc * 16 + d, a * 16 + ((l : Int) - 97 + 10), rfl, (by first | rfl | (congr 1; omega)), (by first | rfl | (congr 1; omega)), by omega, HN⟩, by simp [Go.RowKit.intOf]; omega⟩
            · rw [if_neg (by omega)] at hdec
              have HD : Hid (pu 0 bs = .bad) := hdec
              clear hacc ha hdec hd
              go_wp2_with (go_at_call 116; refine (cW _).mono ?_; rintro e w' ⟨rfl, hw⟩; obtain rfl := hw.symm)
              go_ret2
              exact ⟨by rw [HD.out]; rfl, hbw⟩
          · rw [if_neg hlet] at hd
            rw [if_neg (by omega)] at hdec
            have HD : Hid (pu 0 bs = .bad) := hdec
            clear hacc ha hdec hd
            by_cases hl0 : 97 ≤ l
            · have hl1 : 122 < l := by omega
              clear hlet
              go_wp2_with (go_at_call 116; refine (cW _).mono ?_; rintro e w' ⟨rfl, hw⟩; obtain rfl := hw.symm)
              go_ret2
              exact ⟨by rw [HD.out]; rfl, hbw⟩
            · have hl1 : l < 97 := by omega
              clear hlet
              go_wp2_with (go_at_call 116; refine (cW _).mono ?_; rintro e w' ⟨rfl, hw⟩; obtain rfl := hw.symm)
              go_ret2
              exact ⟨by rw [HD.out]; rfl, hbw⟩
        · have h58 : cn < 48 := by omega
          clear hdig
          by_cases hlet : 97 ≤ l ∧ l ≤ 122
          · rw [if_pos hlet] at hd
            obtain ⟨hl0, hl1⟩ := hlet
            by_cases h16 : l ≤ 102
            · rw [if_pos (by omega)] at hdec
              by_cases hcut : 1152921504606846976 ≤ acc
              · rw [if_pos hcut] at hdec
                have icut : 1152921504606846976 ≤ a := by omega
                have HD : Hid (pu 0 bs = .far) := hdec
                clear hcut hacc ha hdec hd
                go_wp2_with (go_at_call 116; refine (cW _).mono ?_; rintro e w' ⟨rfl, hw⟩; obtain rfl := hw.symm)
                go_ret2
                exact ⟨by rw [HD.out]; rfl, hbw⟩
              · rw [if_neg hcut] at hdec
                have icut : a < 1152921504606846976 := by omega
                have HN : Hid (a * 16 + ((l : Int) - 97 + 10) = ((acc * 16 + d : Nat) : Int) ∧ acc * 16 + d < 18446744073709551616 ∧ pu 0 bs = pu (acc * 16 + d) (bs.drop (k + 1))) := ⟨by omega, by omega, hdec⟩
                have iov : a * 16 + ((l : Int) - 97 + 10) < 18446744073709551616 := by omega
                clear hcut hacc hdec ha hd
                go_wp2_with (go_at_call 116; refine (cW _).mono ?_; rintro e w' ⟨rfl, hw⟩; obtain rfl := hw.symm)
                refine ⟨⟨k + 1, acc * 16 + d, a * 16 + ((l : Int) - 97 + 10), rfl, (by first | rfl | (congr 1; omega)), (by first | rfl | (congr 1; omega)), by omega, HN⟩, by simp [Go.RowKit.intOf]; omega⟩
            · rw [if_neg (by omega)] at hdec
              have HD : Hid (pu 0 bs = .bad) := hdec
              clear hacc ha hdec hd
              go_wp2_with (go_at_call 116; refine (cW _).mono ?_; rintro e w' ⟨rfl, hw⟩; obtain rfl := hw.symm)
              go_ret2
              exact ⟨by rw [HD.out]; rfl, hbw⟩
          · rw [if_neg hlet] at hd
            rw [if_neg (by omega)] at hdec
            have HD : Hid (pu 0 bs = .bad) := hdec
            clear hacc ha hdec hd
            by_cases hl0 : 97 ≤ l
            · have hl1 : 122 < l := by omega
              clear hlet
              go_wp2_with (go_at_call 116; refine (cW _).mono ?_; rintro e w' ⟨rfl, hw⟩; obtain rfl := hw.symm)
              go_ret2
              exact ⟨by rw [HD.out]; rfl, hbw⟩
            · have hl1 : l < 97 := by omega
              clear hlet
              go_wp2_with (go_at_call 116; refine (cW _).mono ?_; rintro e w' ⟨rfl, hw⟩; obtain rfl := hw.symm)
              go_ret2
              exact ⟨by rw [HD.out]; rfl, hbw⟩
    · have hkk : k = t.size := by omega
      subst hkk
      rw [List.drop_eq_nil_of_le (by omega)] at hdec
      have HD : Hid (pu 0 bs = .ok acc) := hdec
      subst ha
      clear hacc a0 a1 hdec
      go_wp2
      go_ret2
      exact ⟨by rw [HD.out]; rfl, hbw⟩
end Go.Proofs.YtnpdfkcjjedamaaGreatDoor.Sca
