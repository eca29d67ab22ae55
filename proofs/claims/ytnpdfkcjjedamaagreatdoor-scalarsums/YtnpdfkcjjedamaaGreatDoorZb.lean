/- The document's exact sum: its words, carried. -/
import Derived.Test.YtnpdfkcjjedamaaGreatDoorYb
import Derived.RegionTactic
import Derived.BigRegion
namespace Go.Proofs.YtnpdfkcjjedamaaGreatDoor.Sca
open Go.RowKit Go.Lib Go.Shelf

theorem i64_and_mask (n : Int) : bits .and .i64 n 4294967295 = n % 4294967296 := by
  have h127 : (BitVec.ofInt 64 4294967295).toNat = 2 ^ 32 - 1 := by decide
  have key : (BitVec.ofInt 64 n &&& BitVec.ofInt 64 4294967295).toNat = (n % ((2 ^ 64 : Nat) : Int)).toNat % 2 ^ 32 := by
    rw [BitVec.toNat_and, BitVec.toNat_ofInt, h127, Nat.and_two_pow_sub_one_eq_mod]
  show IntKind.i64.wrap ((BitVec.ofInt 64 n &&& BitVec.ofInt 64 4294967295).toNat : Nat) = n % 4294967296
  rw [key, IntKind.wrap_i64]
  omega
theorem i64_and_one (n : Int) : bits .and .i64 n 1 = n % 2 := by
  have h127 : (BitVec.ofInt 64 1).toNat = 2 ^ 1 - 1 := by decide
  have key : (BitVec.ofInt 64 n &&& BitVec.ofInt 64 1).toNat = (n % ((2 ^ 64 : Nat) : Int)).toNat % 2 ^ 1 := by
    rw [BitVec.toNat_and, BitVec.toNat_ofInt, h127, Nat.and_two_pow_sub_one_eq_mod]
  show IntKind.i64.wrap ((BitVec.ofInt 64 n &&& BitVec.ofInt 64 1).toNat : Nat) = n % 2
  rw [key, IntKind.wrap_i64]
  omega
/-- The number that words of 32 bits say, the lowest first, each with a sign. -/
def valq : List Int → Int
  | [] => 0
  | x :: r => x + 4294967296 * valq r
theorem valq_set : ∀ (a : List Int) (i : Nat) (x y : Int), a[i]? = some x → valq (a.set i y) = valq a + (y - x) * 4294967296 ^ i
  | [], i, x, y, h => by simp at h
  | z :: r, 0, x, y, h => by
    simp at h
    subst h
    simp only [List.set_cons_zero, valq, Int.pow_zero]
    omega
  | z :: r, i + 1, x, y, h => by
    have := valq_set r i x y (by simpa using h)
    simp only [List.set_cons_succ, valq, this, Int.pow_succ]
    generalize (4294967296 : Int) ^ i = p
    rw [Int.mul_add]
    have e : (4294967296 : Int) * ((y - x) * p) = (y - x) * (p * 4294967296) := by rw [Int.mul_left_comm, Int.mul_comm 4294967296 p]
    rw [e]
    omega
/-- Words as a block holds them. -/
def qv (a : List Int) : Array Value := (a.map (fun x : Int => Value.int IntKind.i64 x)).toArray
theorem qv_at {a : List Int} {i : Nat} {x : Int} (h : a[i]? = some x) : (qv a)[i]? = some (.int .i64 x) := by simp [qv, h]
theorem qv_set (a : List Int) (i : Nat) (x : Int) : (qv a).setIfInBounds i (.int .i64 x) = qv (a.set i x) := by simp [qv, List.map_set]
/-- The words lie in a block. -/
structure Qw (w : World) (b : Nat) (a : List Int) : Prop where
  len : a.length = 72
  blk : w.heap[b]? = some (.cells (qv a) 2 (0, 0))
theorem Qw.cell {w : World} {b : Nat} {a : List Int} (h : Qw w b a) (i : Nat) (x : Int) (hx : a[i]? = some x) : w.cell? ⟨b, i, none⟩ = some (.int .i64 x) := by
  simp [World.cell?, h.blk, qv_at hx]
theorem Qw.free {w : World} {b : Nat} {a : List Int} (h : Qw w b a) (i : Nat) : w.frozen? ⟨b, i, none⟩ = false := by
  simp [World.frozen?, h.blk]
theorem Qw.drew {w : World} {b : Nat} {a : List Int} (h : Qw w b a) : Qw w.drew b a := ⟨h.len, h.blk⟩
theorem Qw.drewN {w : World} {b : Nat} {a : List Int} (h : Qw w b a) (q : Nat) : Qw (w.drewN q) b a := ⟨h.len, h.blk⟩
theorem Qw.set {w : World} {b : Nat} {a : List Int} (h : Qw w b a) (i : Nat) (x : Int) : Qw (w.setCell ⟨b, i, none⟩ (.int .i64 x)) b (a.set i x) := by
  refine ⟨by rw [List.length_set]; exact h.len, ?_⟩
  obtain ⟨hlt, hk⟩ := Array.getElem?_eq_some_iff.1 h.blk
  show (w.heap.modify b _)[b]? = _
  rw [Array.getElem?_eq_getElem (by rw [Array.size_modify]; exact hlt), Array.getElem_modify_self, hk]
  show some (Obj.cells ((qv a).setIfInBounds i (.int .i64 x)) 2 (0, 0)) = _
  rw [qv_set]
theorem Qw.grown {w w' : World} {b : Nat} {a : List Int} {r : Option Nat} (h : Qw w b a) (hg : w.grownBy w' r) (hne : some b ≠ r) : Qw w' b a := by
  obtain ⟨hlt, _⟩ := Array.getElem?_eq_some_iff.1 h.blk
  exact ⟨h.len, (hg.block b hlt (fun e => hne e)).trans h.blk⟩
theorem Qw.below {w w' : World} {b : Nat} {a : List Int} (h : Qw w b a) (hg : Below w.heap.size w w') : Qw w' b a := by
  obtain ⟨hlt, _⟩ := Array.getElem?_eq_some_iff.1 h.blk
  exact ⟨h.len, (hg.block b hlt).trans h.blk⟩
theorem Qw.at {w : World} {b : Nat} {a : List Int} (h : Qw w b a) (i : Nat) (hi : i < 72) : ∃ x, a[i]? = some x ∧ w.cell? ⟨b, i, none⟩ = some (.int .i64 x) :=
  ⟨a[i]'(by rw [h.len]; exact hi), List.getElem?_eq_getElem _, h.cell _ _ (List.getElem?_eq_getElem _)⟩
theorem carry_step (V P x y : Int) : V + (y + (x - x % 4294967296) / 4294967296 - y) * (P * 4294967296) + (x % 4294967296 - x) * P = V := by
  have h : (x - x % 4294967296) / 4294967296 = x / 4294967296 := by omega
  have h2 : x % 4294967296 - x = -(4294967296 * (x / 4294967296)) := by omega
  rw [h, h2, show y + x / 4294967296 - y = x / 4294967296 from by omega, Int.neg_mul, Int.mul_comm P 4294967296, ← Int.mul_assoc, Int.mul_comm (x / 4294967296) 4294967296]
  omega
set_option maxRecDepth 100000 in
set_option maxHeartbeats 1000000 in
theorem qCarried (g c : Nat) (a : List Int) (w : World) (hb : ∀ (i : Nat) x, a[i]? = some x → -1152921504606846976 < x ∧ x < 1152921504606846976) (h : Qw w g a) :
    Calls Tryz.prog 33 #[.slice (some ⟨g, 0, none⟩) 72 c] w fun e w' => e = .returned (.tuple #[]) ∧ ∃ a', Qw w' g a' ∧ w.grownBy w' (some g) ∧ valq a' = valq a ∧ (∀ (i : Nat) x, i < 71 → a'[i]? = some x → 0 ≤ x ∧ x < 4294967296) := by
  have mixed := mixed_ok
  have HB : Hid (∀ (i : Nat) x, a[i]? = some x → -1152921504606846976 < x ∧ x < 1152921504606846976) := hb
  clear hb
  go_enter Tryz.func33, Tryz.ntmps33
  go_wp2
  go_loopw [2] (fun vi wr => ∃ (k : Nat) (ar : List Int), vi = .int .i64 (k : Int) ∧ k ≤ 71 ∧ Qw wr g ar ∧ w.grownBy wr (some g) ∧ Hid (valq ar = valq a) ∧ Hid (∀ (j : Nat) x, j < k → ar[j]? = some x → 0 ≤ x ∧ x < 4294967296) ∧ Hid (∀ j, k < j → ar[j]? = a[j]?) ∧ Hid (∀ x, ar[k]? = some x → -2305843009213693952 < x ∧ x < 2305843009213693952)) (fun vi _ => 72 - (Go.RowKit.intOf vi).toNat)
  case atStart => exact ⟨0, a, rfl, by omega, h, grown_refl _ _, rfl, fun j x hj => by omega, fun _ _ => rfl, fun x hx => by have := HB.out 0 x hx; omega⟩
  case round =>
    obtain ⟨k, ar, rfl, hk, hQ, hG, HV, HL, HA, HK⟩ := hrel
    clear h
    by_cases hk71 : k < 71
    · have hkz : decide ((k : Int) + 1 < 72) = true := decide_eq_true (by omega)
      obtain ⟨x, hx, hxc⟩ := hQ.at k (by omega)
      obtain ⟨y, hy, hyc⟩ := hQ.at (k + 1) (by omega)
      have hxb := HK.out x hx
      have hyb := HB.out (k + 1) y (by rw [← HA.out (k + 1) (by omega)]; exact hy)
      have hand := i64_and_mask x
      obtain ⟨lo, hlo⟩ : ∃ lo, x % 4294967296 = lo := ⟨_, rfl⟩
      have hlo1 : 0 ≤ lo ∧ lo < 4294967296 := by omega
      obtain ⟨hlo2, hlo3⟩ := hlo1
      rw [hlo] at hand
      obtain ⟨y', hy'⟩ : ∃ y', y + (x - lo) / 4294967296 = y' := ⟨_, rfl⟩
      have hyb2 : -2305843009213693952 < y' ∧ y' < 2305843009213693952 := by omega
      have hxf := hQ.free k
      have hyf := hQ.free (k + 1)
      have hw1 : IntKind.i64.wrap (x - lo) = x - lo := by simp [IntKind.wrap, IntKind.bits, IntKind.signed]; omega
      have hw2 : IntKind.i64.wrap (y + (x - lo) / 4294967296) = y' := by rw [hy']; simp [IntKind.wrap, IntKind.bits, IntKind.signed]; omega
      have HV2 : Hid (valq ((ar.set (k + 1) y').set k lo) = valq a) := by
        show _ = _
        have h1 := valq_set ar (k + 1) y y' hy
        have h2 := valq_set (ar.set (k + 1) y') k x lo (by rw [List.getElem?_set_ne (by omega)]; exact hx)
        rw [h2, h1, Int.pow_succ, ← hy', ← hlo, carry_step]
        exact HV.out
      have HL2 : Hid (∀ (j : Nat) z, j < k + 1 → ((ar.set (k + 1) y').set k lo)[j]? = some z → 0 ≤ z ∧ z < 4294967296) := fun j z hj hz => by
        by_cases e : k = j
        · subst e
          rw [List.getElem?_set_self (by rw [List.length_set, hQ.len]; omega)] at hz
          cases hz
          omega
        · rw [List.getElem?_set_ne e, List.getElem?_set_ne (by omega)] at hz
          exact HL.out j z (by omega) hz
      have HA2 : Hid (∀ j, k + 1 < j → ((ar.set (k + 1) y').set k lo)[j]? = a[j]?) := fun j hj => by
        rw [List.getElem?_set_ne (by omega), List.getElem?_set_ne (by omega)]
        exact HA.out j (by omega)
      have HK2 : Hid (∀ z, ((ar.set (k + 1) y').set k lo)[k + 1]? = some z → -2305843009213693952 < z ∧ z < 2305843009213693952) := fun z hz => by
        rw [List.getElem?_set_ne (by omega), List.getElem?_set_self (by rw [hQ.len]; omega)] at hz
        cases hz
        exact hyb2
      obtain ⟨kk, hkk⟩ : ∃ kk, k + 1 = kk := ⟨_, rfl⟩
      rw [hkk] at hy hyc hyf HV2 HL2 HA2 HK2
      have hQ1 := (hQ.set kk y').drew
      have hG1 := grown_drew (hG.trans (grown_set wr g kk (.int .i64 y')))
      have hxf1 := hQ1.free k
      have hkk0 : (0 : Int) ≤ (kk : Int) := by omega
      have hkk1 : (kk : Int) < 72 := by omega
      have hk0 : (0 : Int) ≤ (k : Int) := by omega
      have hk1 : (k : Int) < 72 := by omega
      have qz : (k : Int) + 1 = (kk : Int) := by omega
      have hkkz : decide ((kk : Int) < 72) = true := decide_eq_true (by omega)
      have hxc1 := hQ1.cell k x (by rw [List.getElem?_set_ne (by omega)]; exact hx)
      have hQ2 := hQ1.set k lo
      have hG2 := hG1.trans (grown_set (wr.setCell ⟨g, kk, none⟩ (.int .i64 y')).drew g k (.int .i64 lo))
      clear HV HL HA HK hQ hG hx hy hlo hQ1 hG1 hkz
      go_wp2
      go_region
      generalize (wr.setCell ⟨g, kk, none⟩ (.int .i64 y')).drew = wz at *
      clear hxc hyc hxf hyf
      go_wp2
      exact ⟨⟨kk, _, rfl, by omega, hQ2, hG2, HV2, HL2, HA2, HK2⟩, by simp [Go.RowKit.intOf]; omega⟩
    · obtain rfl : k = 71 := by omega
      go_wp2
      go_end0
      exact ⟨rfl, ar, hQ, hG, HV.out, fun i x hi hx => HL.out i x hi hx⟩
end Go.Proofs.YtnpdfkcjjedamaaGreatDoor.Sca
