import Derived.Test.YtpehekonjdneaaaDoorK24f5d1b5
namespace Go.Proofs.YtpehekonjdneaaaDoor.Pau
open Go.RowKit Go.Shelf
theorem sm_at {f : Nat -> Nat} {q : Nat} : ∀ n, q < n -> (∀ j, j < n -> j ≠ q -> f j = 0) -> sm n f = f q
  | 0, h, _ => absurd h (by omega)
  | n + 1, h, h0 => by
    rw [sm]
    by_cases e : q = n
    . subst e
      rw [sm_zero q (fun j hj => h0 j (by omega) (by omega)), Nat.zero_add]
    . rw [sm_at n (by omega) (fun j hj hne => h0 j (by omega) hne), h0 n (by omega) (fun g => e g.symm), Nat.add_zero]
theorem sm_two {f : Nat -> Nat} {q r : Nat} (hqr : q ≠ r) : ∀ n, q < n -> r < n -> (∀ j, j < n -> j ≠ q -> j ≠ r -> f j = 0) -> sm n f = f q + f r
  | 0, h, _, _ => absurd h (by omega)
  | n + 1, h, h', h0 => by
    rw [sm]
    by_cases e : q = n
    . subst e
      rw [sm_at q (q := r) (by omega) (fun j hj hne => h0 j (by omega) (by omega) hne), Nat.add_comm]
    . by_cases e' : r = n
      . subst e'
        rw [sm_at r (q := q) (by omega) (fun j hj hne => h0 j (by omega) hne (by omega))]
      . rw [sm_two hqr n (by omega) (by omega) (fun j hj h1 h2 => h0 j (by omega) h1 h2), h0 n (by omega) (fun g => e g.symm) (fun g => e' g.symm), Nat.add_zero]
theorem bt_pow (u q j : Nat) (hu : u < 2) : bt (u * 2 ^ q) j = if j = q then u else 0 := by
  unfold bt
  by_cases h : j = q
  . rw [if_pos h, h, Nat.mul_div_cancel _ (Nat.two_pow_pos q), Nat.mod_eq_of_lt hu]
  . rw [if_neg h]
    rcases Nat.lt_or_gt_of_ne h with g | g
    . obtain ⟨k, hk⟩ : ∃ k, q = j + (k + 1) := ⟨q - j - 1, by omega⟩
      rw [hk, Nat.pow_add, Nat.pow_succ, show u * (2 ^ j * (2 ^ k * 2)) = 2 ^ j * (2 * (u * 2 ^ k)) by
        rw [Nat.mul_left_comm, Nat.mul_comm (2 ^ k) 2, Nat.mul_left_comm u 2], Nat.mul_div_cancel_left _ (Nat.two_pow_pos j), Nat.mul_mod_right]
    . rw [Nat.div_eq_of_lt, Nat.zero_mod]
      have h2 : 2 ^ q * 2 <= 2 ^ j := by rw [← Nat.pow_succ]; exact Nat.pow_le_pow_right (by decide) (by omega)
      have h3 : u * 2 ^ q <= 1 * 2 ^ q := Nat.mul_le_mul_right _ (by omega)
      have := Nat.two_pow_pos q
      omega
theorem bt_or' (x y q : Nat) (h : bt x q = 0 ∨ bt y q = 0) : bt (x ||| y) q = bt x q + bt y q := by
  rw [bt_or]
  have h1 := bt_lt x q
  have h2 := bt_lt y q
  split <;> omega
theorem ldw1 (x q j : Nat) : bt (ldw x [q] 1) j = if j = q then bt x 0 else 0 := by
  show bt (0 ||| bt x 0 * 2 ^ q) j = _
  rw [Nat.zero_or]
  exact bt_pow _ q j (bt_lt x 0)
theorem ldw2 (x q r j : Nat) (h : q ≠ r) : bt (ldw x [q, r] 2) j = if j = q then bt x 0 else if j = r then bt x 1 else 0 := by
  show bt ((0 ||| bt x 0 * 2 ^ q) ||| bt x 1 * 2 ^ r) j = _
  rw [Nat.zero_or, bt_or' _ _ _ (by
    rw [bt_pow _ _ _ (bt_lt x 0), bt_pow _ _ _ (bt_lt x 1)]
    by_cases e : j = q
    . right; rw [if_neg (by omega)]
    . left; rw [if_neg e]), bt_pow _ _ _ (bt_lt x 0), bt_pow _ _ _ (bt_lt x 1)]
  by_cases e : j = q
  . rw [if_pos e, if_pos e, if_neg (by omega), Nat.add_zero]
  . rw [if_neg e, if_neg e, Nat.zero_add]
theorem on00 (a : Nat) : on 73 a = 0 := if_pos (.inl rfl)
theorem ld_mul1 (a b : P) (q : Nat) (hq : q < 64) (n : Int) (ha : a.x < 2 /\ a.z < 2) : mulP (ldP a [q] n) (ldP b [q] n) = ldP (mulP a b) [q] n := by
  refine P.ext' rfl ?_ ?_ ?_
  . refine bt_ext (fun j => ?_)
    show bt (ldw a.x [q] 1 ^^^ ldw b.x [q] 1) j = bt (ldw (a.x ^^^ b.x) [q] 1) j
    rw [bt_xor, ldw1, ldw1, ldw1, bt_xor]
    split <;> rfl
  . refine bt_ext (fun j => ?_)
    show bt (ldw a.z [q] 1 ^^^ ldw b.z [q] 1) j = bt (ldw (a.z ^^^ b.z) [q] 1) j
    rw [bt_xor, ldw1, ldw1, ldw1, bt_xor]
    split <;> rfl
  . show mulPh (ldP a [q] n) (ldP b [q] n) = mulPh a b
    rw [mulPh_eq, mulPh_eq, sm_at (q := q) 64 hq (fun j _ hne => by
      unfold onq ldP
      simp only [List.length_cons, List.length_nil]
      rw [ldw1, ldw1, if_neg hne, if_neg hne]
      exact on00 _), sm_at (f := onq a b) (q := 0) 64 (by decide) (fun j _ hne => by
      exact onq_zero (bt_small (n := 1) ha.1 (by omega)) (bt_small (n := 1) ha.2 (by omega)))]
    congr 2
    unfold onq ldP
    simp only [List.length_cons, List.length_nil]
    rw [ldw1, ldw1, ldw1, ldw1, if_pos rfl, if_pos rfl, if_pos rfl, if_pos rfl]
theorem ld_mul2 (a b : P) (q r : Nat) (h : q ≠ r) (hq : q < 64) (hr : r < 64) (n : Int) (ha : a.x < 4 /\ a.z < 4) : mulP (ldP a [q, r] n) (ldP b [q, r] n) = ldP (mulP a b) [q, r] n := by
  refine P.ext' rfl ?_ ?_ ?_
  . refine bt_ext (fun j => ?_)
    show bt (ldw a.x [q, r] 2 ^^^ ldw b.x [q, r] 2) j = bt (ldw (a.x ^^^ b.x) [q, r] 2) j
    rw [bt_xor, ldw2 _ _ _ _ h, ldw2 _ _ _ _ h, ldw2 _ _ _ _ h, bt_xor, bt_xor]
    (repeat' split) <;> rfl
  . refine bt_ext (fun j => ?_)
    show bt (ldw a.z [q, r] 2 ^^^ ldw b.z [q, r] 2) j = bt (ldw (a.z ^^^ b.z) [q, r] 2) j
    rw [bt_xor, ldw2 _ _ _ _ h, ldw2 _ _ _ _ h, ldw2 _ _ _ _ h, bt_xor, bt_xor]
    (repeat' split) <;> rfl
  . show mulPh (ldP a [q, r] n) (ldP b [q, r] n) = mulPh a b
    rw [mulPh_eq, mulPh_eq, sm_two (q := q) (r := r) h 64 hq hr (fun j _ h1 h2 => by
      unfold onq ldP
      simp only [List.length_cons, List.length_nil]
      rw [ldw2 _ _ _ _ h, ldw2 _ _ _ _ h, if_neg h1, if_neg h2, if_neg h1, if_neg h2]
      exact on00 _), sm_two (f := onq a b) (q := 0) (r := 1) (by decide) 64 (by decide) (by decide) (fun j _ h1 h2 => by
      exact onq_zero (bt_small (n := 2) ha.1 (by omega)) (bt_small (n := 2) ha.2 (by omega)))]
    congr 2
    unfold onq ldP
    simp only [List.length_cons, List.length_nil]
    have hrq : ¬ r = q := fun g => h g.symm
    simp only [ldw2 _ _ _ _ h, hrq, if_true, if_false]
end Go.Proofs.YtpehekonjdneaaaDoor.Pau
