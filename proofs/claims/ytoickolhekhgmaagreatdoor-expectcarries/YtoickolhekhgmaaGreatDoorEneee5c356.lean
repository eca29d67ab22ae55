import Derived.Test.YtoickolhekhgmaaGreatDoorEn82a82d3d
namespace Go.Proofs.YtoickolhekhgmaaGreatDoor.Gt
end Go.Proofs.YtoickolhekhgmaaGreatDoor.Gt
namespace Go.Proofs.YtoickolhekhgmaaGreatDoor.Pau
end Go.Proofs.YtoickolhekhgmaaGreatDoor.Pau
set_option maxRecDepth 100000
set_option maxHeartbeats 2000000
namespace Go.Proofs.YtoickolhekhgmaaGreatDoor.Tbl
open Go.RowKit Go.Shelf Go.Proofs.YtoickolhekhgmaaGreatDoor.Pau Go.Proofs.YtoickolhekhgmaaGreatDoor.Gt
theorem bt_half (x q : Nat) : bt x (1 + q) = bt (x / 2) q := by
  unfold bt
  rw [Nat.pow_add, Nat.pow_one, Nat.div_div_eq_div_mul]
theorem sm_half (n x : Nat) : sm (1 + n) (bt x) = x % 2 + sm n (bt (x / 2)) := by
  rw [sm_split, sm_congr n (fun q _ => bt_half x q)]
  congr 1
  show 0 + bt x 0 = _
  unfold bt
  simp
theorem and_half (x y : Nat) : (x &&& y) % 2 = x % 2 * (y % 2) /\ (x &&& y) / 2 = x / 2 &&& y / 2 := by
  constructor
  . have h := bt_and x y 0
    unfold bt at h
    simpa using h
  . have : (x &&& y) / 2 ^ 1 = x / 2 ^ 1 &&& y / 2 ^ 1 := Nat.and_div_two_pow
    simpa using this
theorem sm_clear : ∀ n x, x < 2 ^ n -> 0 < x -> sm n (bt (x &&& (x - 1))) + 1 = sm n (bt x)
  | 0, x, h, h0 => by simp at h; omega
  | n + 1, x, h, h0 => by
    rw [Nat.add_comm n 1, sm_half, sm_half]
    obtain ⟨h1, h2⟩ := and_half x (x - 1)
    rw [h1, h2]
    have hlt : x / 2 < 2 ^ n := by rw [Nat.pow_succ] at h; omega
    by_cases e : x % 2 = 0
    . have e1 : (x - 1) / 2 = x / 2 - 1 := by omega
      rw [e, e1, Nat.zero_mul]
      have := sm_clear n (x / 2) hlt (by omega)
      omega
    . have e1 : (x - 1) / 2 = x / 2 := by omega
      have e2 : x % 2 = 1 := by omega
      have e3 : (x - 1) % 2 = 0 := by omega
      rw [e2, e3, e1, Nat.and_self]
      omega
theorem pc_clear {x : Nat} (h : x < 18446744073709551616) (h0 : 0 < x) : pc (x &&& (x - 1)) + 1 = pc x := sm_clear 64 x h h0
theorem pc_zero : pc 0 = 0 := by decide
theorem pc_xor (x y : Nat) : pc (x ^^^ y) % 2 = (pc x + pc y) % 2 := by
  unfold pc
  rw [← sm_add]
  refine sm_mod 2 64 fun q _ => ?_
  rw [bt_xor]
  omega
theorem com_par (a b : P) : comB a b = decide (pc ((a.x &&& b.z) ^^^ (a.z &&& b.x)) % 2 = 0) := by
  unfold comB
  rw [pc_xor]
theorem dCommute14 (a b : P) (ha : Wd a) (hb : Wd b) (w : World) : Calls Tryz.prog 53 #[pV a, pV b] w fun e w' => e = .returned (.bool (comB a b)) /\ Below w.heap.size w w' := by
  rw [com_par]
  have e1 := andN a.x b.z ha.1 hb.2
  have e2 := andN a.z b.x ha.2 hb.1
  have l1 := and_lt a.x b.z hb.2
  have l2 := and_lt a.z b.x hb.1
  have e3 : bits .xor .u64 ((a.x &&& b.z : Nat) : Int) ((a.z &&& b.x : Nat) : Int) = (((a.x &&& b.z) ^^^ (a.z &&& b.x) : Nat) : Int) := u64_xor_nat _ _ l1 l2
  have l3 : (a.x &&& b.z) ^^^ (a.z &&& b.x) < 18446744073709551616 := Nat.xor_lt_two_pow (n := 64) l1 l2
  have hp64 := pc_le ((a.x &&& b.z) ^^^ (a.z &&& b.x))
  generalize (a.x &&& b.z) ^^^ (a.z &&& b.x) = y at *
  generalize a.x &&& b.z = u at *
  generalize a.z &&& b.x = v at *
  obtain ⟨n, x, z, ph⟩ := a
  obtain ⟨n', x', z', ph'⟩ := b
  unfold pV
  simp only at *
  obtain ⟨HA, HA'⟩ := At4.two w (.int .i64 n) (.int .u64 (x : Int)) (.int .u64 (z : Int)) (.int .i64 ph) (.int .i64 n') (.int .u64 (x' : Int)) (.int .u64 (z' : Int)) (.int .i64 ph')
  have HB := hide (bkp (bnew w (.cells #[.int .i64 n, .int .u64 (x : Int), .int .u64 (z : Int), .int .i64 ph] 27)) (bnew _ (.cells #[.int .i64 n', .int .u64 (x' : Int), .int .u64 (z' : Int), .int .i64 ph'] 27)))
  clear ha hb HA HA' l1 l2
  obtain ⟨K, hK⟩ : ∃ K, pc y = K := ⟨_, rfl⟩
  have HK : Hid (0 + pc y = K) := hide (by omega)
  rw [hK] at hp64 ⊢
  obtain ⟨R, hR⟩ : ∃ R, decide (K % 2 = 0) = R := ⟨_, rfl⟩
  rw [hR]
  have HR := hide hR
  clear hR
  have hsub : ∀ t : Nat, 0 < t -> t < 18446744073709551616 -> IntKind.u64.wrap ((t : Int) - 1) = ((t - 1 : Nat) : Int) := fun t h0 h1 => by rw [wrapU]; omega
  have hand : ∀ t : Nat, t < 18446744073709551616 -> bits .and .u64 (t : Int) ((t - 1 : Nat) : Int) = ((t &&& (t - 1) : Nat) : Int) := fun t h => andN t (t - 1) h (by omega)
  clear hK
  go_enter Tryz.func53, Tryz.ntmps53
  go_wp2_with fail
  go_loopw [5, 6] (fun vn vx wr => ∃ i y : Nat, vn = .int .i64 (i : Int) /\ vx = .int .u64 (y : Int) /\ y < 18446744073709551616 /\ Hid (i + pc y = K) /\ Hid (Below w.heap.size w wr)) (fun _ vx _ => (Go.RowKit.intOf vx).toNat)
  case atStart => exact ⟨0, y, rfl, rfl, l3, HK, HB⟩
  case round =>
    obtain ⟨i, t, rfl, rfl, ht, HS, HW⟩ := hrel
    clear HK HB l3 e1 e2 e3
    by_cases h : 0 < t
    . have hd : decide (0 < (t : Int)) = true := decide_eq_true (by omega)
      have hd' : decide (0 < t) = true := decide_eq_true h
      have s1 := hsub t h ht
      have a1 := hand t ht
      have hpc := pc_clear ht h
      have hi : i <= 64 := by have := HS.out; omega
      have HS2 : Hid (i + 1 + pc (t &&& (t - 1)) = K) := hide (by rw [← HS.out]; omega)
      have hlt : t &&& (t - 1) <= t - 1 := Nat.and_le_right
      generalize hr : t &&& (t - 1) = r at *
      generalize hq : t - 1 = q at *
      have HQ := hide hq
      clear hr hq hsub hand hpc HS
      have e9 : wrap64 ((i : Int) + 1) = ((i + 1 : Nat) : Int) := by unfold wrap64; omega
      go_wp2_with fail
      go_roundw
      case rel => exact ⟨i + 1, r, by go_num, rfl, by have := HQ.out; omega, HS2, HW⟩
      case measure => have := HQ.out; simp [Go.RowKit.intOf]; omega
    . obtain rfl : t = 0 := by omega
      have hKi : K = i := by have := HS.out; rw [pc_zero] at this; omega
      subst hKi
      have m1 : Int.tmod (K : Int) 2 = ((K % 2 : Nat) : Int) := by rw [Int.tmod_eq_emod_of_nonneg (by omega)]; omega
      have hd : decide (K % 2 = 0) = (((K % 2 : Nat) : Int) == 0) := by
        rcases Nat.mod_two_eq_zero_or_one K with h | h <;> rw [h] <;> rfl
      have hR' : R = (((K % 2 : Nat) : Int) == 0) := by rw [← HR.out]; exact hd
      subst hR'
      clear hsub hand HS hd HR
      go_wp2_with fail
      go_ret
      exact ⟨rfl, HW.out⟩
end Go.Proofs.YtoickolhekhgmaaGreatDoor.Tbl
