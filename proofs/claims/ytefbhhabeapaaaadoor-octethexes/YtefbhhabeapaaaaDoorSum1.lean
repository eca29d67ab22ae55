/- The check sum. -/
import Derived.Test.YtefbhhabeapaaaaDoorProg
import Derived.Test.YtefbhhabeapaaaaDoorLib
namespace Go.Proofs.YtefbhhabeapaaaaDoor.Oct
open Go.RowKit

/-- One bit of the check sum. -/
def crcBit (c : Nat) : Nat := if c % 2 = 1 then (c / 2) ^^^ 2197175160 else c / 2
def crcBits : Nat → Nat → Nat
  | 0, c => c
  | k + 1, c => crcBit (crcBits k c)
def crcByte (c b : Nat) : Nat := crcBits 8 (c ^^^ b)
def crcAll (c : Nat) (l : List UInt8) : Nat := l.foldl (fun c b => crcByte c b.toNat) c
def crc (l : List UInt8) : Nat := 4294967295 ^^^ crcAll 4294967295 l
theorem xor_lt32 {a b : Nat} (ha : a < 4294967296) (hb : b < 4294967296) : a ^^^ b < 4294967296 := Nat.xor_lt_two_pow (n := 32) ha hb
theorem crcBit_lt {c : Nat} (h : c < 4294967296) : crcBit c < 4294967296 := by
  unfold crcBit
  split
  · exact xor_lt32 (by omega) (by decide)
  · omega
theorem crcBits_lt {c : Nat} (h : c < 4294967296) (k : Nat) : crcBits k c < 4294967296 := by
  induction k with
  | zero => exact h
  | succ k ih => exact crcBit_lt ih
theorem crcByte_lt {c b : Nat} (h : c < 4294967296) (hb : b < 256) : crcByte c b < 4294967296 := crcBits_lt (xor_lt32 h (by omega)) 8

theorem and_one (q : Nat) (h : q < 4294967296) : bits .and .u32 (q : Int) 1 = ((q % 2 : Nat) : Int) := by
  have := u32_and_nat q 1 h (by decide)
  rw [Nat.and_one_is_mod] at this
  exact this
theorem crc_hi (q : Nat) (h : q < 4294967296) (h1 : q % 2 = 1) : bits .xor .u32 ((q : Int) / 2) 2197175160 = (crcBit q : Int) := by
  have e := u32_xor_nat (q / 2) 2197175160 (by omega) (by decide)
  unfold crcBit
  rw [if_pos h1, ← e]
  rfl
theorem crc_lo (q : Nat) (h1 : ¬ q % 2 = 1) : ((q : Int) / 2) = (crcBit q : Int) := by
  unfold crcBit
  rw [if_neg h1]
  rfl

theorem ret_int {k : IntKind} {a b : Int} (h : a = b) : Ending.returned (.int k a) = .returned (.int k b) := by rw [h]

set_option maxHeartbeats 400000 in
theorem sumByte_any (c b : Nat) (w : World) (hc : c < 4294967296) (hb : b < 256) :
    Calls Tryd.prog 33 #[.int .u32 (c : Int), .int .u8 (b : Int)] w fun e w' => e = .returned (.int .u32 (crcByte c b : Int)) ∧ w' = w := by
  have hx : bits .xor .u32 (c : Int) (b : Int) = ((c ^^^ b : Nat) : Int) := u32_xor_nat c b hc (by omega)
  have h8 : crcByte c b = crcBits 8 (c ^^^ b) := rfl
  have hz := xor_lt32 hc (by omega : b < 4294967296)
  rw [h8]
  generalize c ^^^ b = z at *
  clear h8
  go_enter Tryd.func33, Tryd.ntmps33
  go_wp2
  go_loop [0, 5, 10] (fun v _ i => ∃ k : Nat, k ≤ 8 ∧ i = .int .i64 k ∧ v = .int .u32 (crcBits k z : Int)) (fun _ _ i => 8 - (intOf i).toNat)
  case atStart => exact ⟨0, Nat.zero_le _, rfl, rfl⟩
  case round =>
    obtain ⟨k, hk, rfl, rfl⟩ := hrel
    have hq := crcBits_lt hz k
    by_cases hlt : k < 8
    · have hlt' : (k : Int) < 8 := by omega
      have HN : Hid (crcBits (k + 1) z = crcBit (crcBits k z)) := rfl
      generalize crcBits k z = q at *
      by_cases h1 : q % 2 = 1
      · have ht : (bits .and .u32 (q : Int) 1 == 1) = true := by rw [and_one q hq, h1]; rfl
        have HE := hide (crc_hi q hq h1)
        clear h1
        go_wp2
        exact ⟨⟨k + 1, by omega, by go_num, by rw [HE.out, HN.out]⟩, by simp [intOf]; omega⟩
      · have ht : (bits .and .u32 (q : Int) 1 == 1) = false := by rw [and_one q hq, show q % 2 = 0 by omega]; rfl
        have HE := hide (crc_lo q h1)
        clear h1
        go_wp2
        exact ⟨⟨k + 1, by omega, by go_num, by rw [HE.out, HN.out]⟩, by simp [intOf]; omega⟩
    · have hlt' : ¬ (k : Int) < 8 := by omega
      obtain rfl : k = 8 := by omega
      go_wp2
      go_ret
      exact ⟨rfl, rfl⟩

theorem crcAll_lt {c : Nat} (h : c < 4294967296) (l : List UInt8) : crcAll c l < 4294967296 := by
  induction l generalizing c with
  | nil => exact h
  | cons b r ih => exact ih (crcByte_lt h b.toNat_lt)
theorem crcAll_append (c : Nat) (a b : List UInt8) : crcAll c (a ++ b) = crcAll (crcAll c a) b := by simp [crcAll]
theorem crcAll_snoc (c : Nat) (l : List UInt8) (b : UInt8) : crcAll c (l ++ [b]) = crcByte (crcAll c l) b.toNat := by simp [crcAll]

set_option maxHeartbeats 400000 in
theorem Sum_any (gp op cp : Nat) (ps : List (List UInt8)) (w : World) (hn : ps.length ≤ 9223372036854775807) (hp : ∀ i p, ps[i]? = some p → p.length ≤ 9223372036854775807 ∧ ∃ ao c, w.cell? ⟨gp, op + i, none⟩ = some (.slice ao p.length c) ∧ Bs w ao p) :
    Calls Tryd.prog 22 #[.slice (some ⟨gp, op, none⟩) ps.length cp] w fun e w' => e = .returned (.int .u32 (crc ps.flatten : Int)) ∧ w' = w := by
  go_enter Tryd.func22, Tryd.ntmps22
  go_wp2
  go_loop [3, 5, 7, 10] (fun v _ _ i => ∃ k : Nat, k ≤ ps.length ∧ i = .int .i64 k ∧ v = .int .u32 (crcAll 4294967295 (ps.take k).flatten : Int)) (fun _ _ _ i => ps.length - (intOf i).toNat)
  case atStart => exact ⟨0, Nat.zero_le _, rfl, rfl⟩
  case round =>
    obtain ⟨k, hk, rfl, rfl⟩ := hrel
    by_cases hlt : k < ps.length
    · have hlt' : (k : Int) < ps.length := by omega
      obtain ⟨p, hpk⟩ : ∃ p, ps[k]? = some p := ⟨ps[k], by simp⟩
      obtain ⟨hpl, ao, c, hcell, hbs⟩ := hp k p hpk
      have hq := crcAll_lt (by decide : 4294967295 < 4294967296) (ps.take k).flatten
      have HN : Hid (crcAll 4294967295 (ps.take (k + 1)).flatten = crcAll (crcAll 4294967295 (ps.take k).flatten) p) := show _ = _ by
        rw [List.take_add_one, hpk, ← crcAll_append]; simp
      generalize crcAll 4294967295 (ps.take k).flatten = q at *
      clear hp hpk
      go_wp2
      go_loop [3, 7, 16] (fun v _ i => ∃ j : Nat, j ≤ p.length ∧ i = .int .i64 j ∧ v = .int .u32 (crcAll q (p.take j) : Int)) (fun _ _ i => p.length - (intOf i).toNat)
      case atStart => exact ⟨0, Nat.zero_le _, rfl, rfl⟩
      case round =>
        obtain ⟨j, hj, rfl, rfl⟩ := hrel
        by_cases hjl : j < p.length
        · have hjl' : (j : Int) < p.length := by omega
          obtain ⟨b, hb⟩ : ∃ b, p[j]? = some b := ⟨p[j], by simp⟩
          obtain ⟨g, off, rfl, hc⟩ := hbs j b hb
          have hr := crcAll_lt hq (p.take j)
          have hbl := b.toNat_lt
          have HM : Hid (crcAll q (p.take (j + 1)) = crcByte (crcAll q (p.take j)) b.toNat) := show _ = _ by
            rw [List.take_add_one, hb]; exact crcAll_snoc _ _ _
          generalize crcAll q (p.take j) = r at *
          generalize b.toNat = bn at *
          clear hb hbs
          go_wp2_with (go_at_call 33; refine (sumByte_any r bn _ hr hbl).mono ?_; rintro e w' ⟨rfl, rfl⟩)
          exact ⟨⟨j + 1, by omega, by go_num, by rw [HM.out]⟩, by simp [intOf]; omega⟩
        · have hjl' : ¬ (j : Int) < p.length := by omega
          obtain rfl : j = p.length := by omega
          rw [List.take_length]
          go_wp2
          exact ⟨⟨k + 1, by omega, by go_num, by rw [HN.out]⟩, by simp [intOf]; omega⟩
    · have hlt' : ¬ (k : Int) < ps.length := by omega
      obtain rfl : k = ps.length := by omega
      have hq := crcAll_lt (by decide : 4294967295 < 4294967296) ps.flatten
      have HE : Hid (bits .xor .u32 IntKind.u32.max (crcAll 4294967295 ps.flatten : Int) = (crc ps.flatten : Int)) := u32_xor_nat 4294967295 _ (by decide) hq
      rw [List.take_length]
      go_wp2
      go_ret
      exact ⟨ret_int HE.out, rfl⟩
end Go.Proofs.YtefbhhabeapaaaaDoor.Oct
