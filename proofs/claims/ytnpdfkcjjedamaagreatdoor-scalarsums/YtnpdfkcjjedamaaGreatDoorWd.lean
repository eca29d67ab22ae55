/- Whole of finite floats, as it is walked. -/
import Derived.Test.YtnpdfkcjjedamaaGreatDoorWc
namespace Go.Proofs.YtnpdfkcjjedamaaGreatDoor.Sca
open Go.RowKit Go.Lib Go.Shelf

theorem sAdd (m e : Int) (b : Nat) (a : List Nat) (w : World) (hm : -9007199254740992 < m ∧ m < 9007199254740992) (he : -1074 ≤ e ∧ e ≤ 1030) (h : Tot w b a) :
    Calls Tryz.prog 24 #[.pointer (some ⟨b, 0, none⟩), .int .i64 m, .int .i64 e] w fun e' w' => e' = .returned (.tuple #[]) ∧ ∃ a', Tot w' b a' ∧ w.grownBy w' (some b) ∧ ∃ k : Int, val a' = val a + m * 2 ^ (e + 1074).toNat + k * 18446744073709551616 ^ 34 := by
  obtain ⟨pl, hpl⟩ : ∃ pl : Nat, e + 1074 = (pl : Int) := ⟨(e + 1074).toNat, by omega⟩
  have hsp : (e + 1074).toNat = pl := by omega
  obtain ⟨H, hH⟩ : ∃ H, m / 2 ^ (64 - pl % 64) = H := ⟨_, rfl⟩
  obtain ⟨r, hr⟩ : ∃ r, m % 2 ^ (64 - pl % 64) = r := ⟨_, rfl⟩
  have hpos : (0 : Int) < 2 ^ (64 - pl % 64) := Int.pow_pos (by decide)
  have hdm : 2 ^ (64 - pl % 64) * H + r = m := by rw [← hH, ← hr]; exact Int.mul_ediv_add_emod m _
  have hr0 : 0 ≤ r := by rw [← hr]; exact Int.emod_nonneg _ (by omega)
  have hr1 : r < 2 ^ (64 - pl % 64) := by rw [← hr]; exact Int.emod_lt_of_pos _ hpos
  have hpp : (2 : Int) ^ (pl % 64) * 2 ^ (64 - pl % 64) = 18446744073709551616 := by rw [← Int.pow_add, show pl % 64 + (64 - pl % 64) = 64 from by omega]; rfl
  have hp2 : (0 : Int) < 2 ^ (pl % 64) := Int.pow_pos (by decide)
  have hmul : m * 2 ^ (pl % 64) = r * 2 ^ (pl % 64) + 18446744073709551616 * H := by
    rw [← hdm, Int.add_mul, ← hpp, Int.add_comm]
    congr 1
    ac_rfl
  have hlb : 0 ≤ r * 2 ^ (pl % 64) ∧ r * 2 ^ (pl % 64) < 18446744073709551616 := by
    refine ⟨Int.mul_nonneg hr0 (by omega), ?_⟩
    rw [← hpp, Int.mul_comm ((2 : Int) ^ (pl % 64))]
    exact Int.mul_lt_mul_of_pos_right hr1 hp2
  have hHb : -9007199254740992 ≤ H ∧ H < 9007199254740992 := by
    have h2 : (2 : Int) ≤ 2 ^ (64 - pl % 64) := by
      obtain ⟨q, hq⟩ : ∃ q, 64 - pl % 64 = q + 1 := ⟨63 - pl % 64, by omega⟩
      have : (0 : Int) < 2 ^ q := Int.pow_pos (by decide)
      rw [hq, Int.pow_succ]
      omega
    constructor
    · rcases Int.lt_or_le H (-9007199254740992) with h | h
      · exfalso
        have : 2 ^ (64 - pl % 64) * H ≤ 2 * H := by
          have := Int.mul_le_mul_of_nonpos_right h2 (show H ≤ 0 by omega)
          exact this
        have h3 : 2 ^ (64 - pl % 64) * (H + 1) ≤ 2 * (H + 1) := Int.mul_le_mul_of_nonpos_right h2 (show H + 1 ≤ 0 by omega)
        rw [Int.mul_add, Int.mul_one] at h3
        omega
      · exact h
    · rcases Int.lt_or_le H 9007199254740992 with h | h
      · exact h
      · exfalso
        have : 2 * H ≤ 2 ^ (64 - pl % 64) * H := Int.mul_le_mul_of_nonneg_right h2 (by omega)
        omega
  have hsgn : H < 0 ↔ m < 0 := by
    constructor
    · intro h
      have h3 : 2 ^ (64 - pl % 64) * (H + 1) ≤ 0 := Int.mul_nonpos_of_nonneg_of_nonpos (by omega) (by omega)
      rw [Int.mul_add, Int.mul_one] at h3
      omega
    · intro h
      rcases Int.lt_or_le H 0 with h1 | h1
      · exact h1
      · exfalso
        have : 0 ≤ 2 ^ (64 - pl % 64) * H := Int.mul_nonneg (by omega) h1
        omega
  obtain ⟨low, hlow⟩ : ∃ low : Nat, r * 2 ^ (pl % 64) = (low : Int) := ⟨(r * 2 ^ (pl % 64)).toNat, by omega⟩
  obtain ⟨high, hhigh⟩ : ∃ high : Nat, H % 18446744073709551616 = (high : Int) := ⟨(H % 18446744073709551616).toNat, by omega⟩
  have hwl : IntKind.u64.wrap (IntKind.u64.wrap m * 2 ^ (pl % 64)) = (low : Int) := by
    rw [wrapU, wrapU, Int.mul_emod, Int.emod_emod_of_dvd _ (Int.dvd_refl _), ← Int.mul_emod, hmul, hlow]
    omega
  have c := tAdd m e b (pl / 64) (pl % 64) pl low high (if m < 0 then 18446744073709551615 else 0) a w (by omega) (by omega) hpl (by omega) (by omega) hwl (by rw [wrapU, hH]; exact hhigh) (by rw [wrapU]; split <;> omega) (by omega) (by omega) (if m < 0 then 1 else 0) (by split <;> simp) (by rw [hmul, hlow]; split <;> omega) h
  refine c.mono ?_
  rintro e' w' ⟨rfl, a', h1, h2, k, h3⟩
  refine ⟨rfl, a', h1, h2, k, ?_⟩
  rw [h3, hsp]
  congr 2
  rw [Int.mul_assoc]
  congr 1
  rw [show (18446744073709551616 : Int) = 2 ^ 64 from rfl, ← Int.pow_mul, ← Int.pow_add]
  congr 1
  omega
end Go.Proofs.YtnpdfkcjjedamaaGreatDoor.Sca
