import Derived.Test.YtoickolhekhgmaaGreatDoorEn80285c39
namespace Go.Proofs.YtoickolhekhgmaaGreatDoor.Gt
end Go.Proofs.YtoickolhekhgmaaGreatDoor.Gt
namespace Go.Proofs.YtoickolhekhgmaaGreatDoor.Oct
end Go.Proofs.YtoickolhekhgmaaGreatDoor.Oct
namespace Go.Proofs.YtoickolhekhgmaaGreatDoor.Pau
open Go.RowKit Go.Shelf Go.Proofs.YtoickolhekhgmaaGreatDoor.Oct Go.Proofs.YtoickolhekhgmaaGreatDoor.Gt
theorem hS24 : Tryz.prog.underlying 27 = some (.struct (Tryz.prog.fieldsOf 27)) := by kernel_rfl
theorem hP24 : Tryz.prog.stoodInHeld 27 = false := by kernel_rfl
theorem eqIn (a b c d a' b' c' d' : Int) (w : World) : (Op.equalIn 10000 27 (.agg #[.int .i64 a, .int .u64 b, .int .u64 c, .int .i64 d]) (.agg #[.int .i64 a', .int .u64 b', .int .u64 c', .int .i64 d'])).run Tryz.prog w = .ok (a == a' && b == b' && c == c' && d == d') w := by
  rw [show (10000 : Nat) = 9999 + 1 from rfl, run_equalIn_agg w 9999 27 _ _ hS24 hP24]
  simp only [Program.fieldsOf, Tryz.underlying27]
  go_simp
  by_cases h1 : a = a' <;> by_cases h2 : b = b' <;> by_cases h3 : c = c' <;> by_cases h4 : d = d' <;> simp [h1, h2, h3, h4]
theorem eql_pauli (a b c d a' b' c' d' : Int) (w : World) : (binOp .eql 27 (.agg #[.int .i64 a, .int .u64 b, .int .u64 c, .int .i64 d]) (.agg #[.int .i64 a', .int .u64 b', .int .u64 c', .int .i64 d'])).run Tryz.prog w = .ok (.bool (a == a' && b == b' && c == c' && d == d')) w := by
  rw [run_eql_struct, eqIn]
  rfl
theorem eql_same (a b c d : Int) (w : World) : (binOp .eql 27 (.agg #[.int .i64 a, .int .u64 b, .int .u64 c, .int .i64 d]) (.agg #[.int .i64 a, .int .u64 b, .int .u64 c, .int .i64 d])).run Tryz.prog w = .ok (.bool true) w := by
  rw [eql_pauli]
  simp
end Go.Proofs.YtoickolhekhgmaaGreatDoor.Pau
namespace Go.Proofs.YtoickolhekhgmaaGreatDoor.Pau
open Go.RowKit Go.Shelf
theorem ass_tab : ∀ u v u' v' a b : Fin 2, (on (lt u.1 v.1) (lt u'.1 v'.1) + on (lt ((u.1 + u'.1) % 2) ((v.1 + v'.1) % 2)) (lt a.1 b.1)) % 4 = (on (lt u'.1 v'.1) (lt a.1 b.1) + on (lt u.1 v.1) (lt ((u'.1 + a.1) % 2) ((v'.1 + b.1) % 2))) % 4 := by decide
theorem mul_ass (a b c : P) : mulP (mulP a b) c = mulP a (mulP b c) := by
  refine P.ext' rfl (Nat.xor_assoc _ _ _) (Nat.xor_assoc _ _ _) ?_
  show mulPh (mulP a b) c = mulPh a (mulP b c)
  have h : sm 64 (fun q => onq a b q + onq (mulP a b) c q) % 4 = sm 64 (fun q => onq b c q + onq a (mulP b c) q) % 4 := sm_mod 4 64 (fun q _ => by
    unfold onq mulP
    simp only
    rw [bt_xor, bt_xor, bt_xor, bt_xor]
    exact ass_tab ⟨bt a.x q, bt_lt _ _⟩ ⟨bt a.z q, bt_lt _ _⟩ ⟨bt b.x q, bt_lt _ _⟩ ⟨bt b.z q, bt_lt _ _⟩ ⟨bt c.x q, bt_lt _ _⟩ ⟨bt c.z q, bt_lt _ _⟩)
  rw [sm_add, sm_add] at h
  rw [mulPh_eq, mulPh_eq]
  show (mulPh a b + c.ph + _) % 4 = (a.ph + mulPh b c + _) % 4
  rw [mulPh_eq, mulPh_eq]
  omega
theorem sm_at {f : Nat -> Nat} {q : Nat} : ∀ n, q < n -> (∀ j, j < n -> j ≠ q -> f j = 0) -> sm n f = f q
  | 0, h, _ => absurd h (by omega)
  | n + 1, h, h0 => by
    rw [sm]
    by_cases e : q = n
    . subst e
      rw [sm_zero q (fun j hj => h0 j (by omega) (by omega)), Nat.zero_add]
    . rw [sm_at n (by omega) (fun j hj hne => h0 j (by omega) hne), h0 n (by omega) (fun g => e g.symm), Nat.add_zero]
theorem sm_two {f : Nat -> Nat} {q r : Nat} (hqr : q ≠ r) : ∀ n, q < n -> r < n -> (∀ j, j < n -> j ≠ q -> j ≠ r -> f j = 0) -> sm n f = f q + f r
  | 0, h, _, _ => absurd h (by omega)
  | n + 1, h, h', h0 => by
    rw [sm]
    by_cases e : q = n
    . subst e
      rw [sm_at q (q := r) (by omega) (fun j hj hne => h0 j (by omega) (by omega) hne), Nat.add_comm]
    . by_cases e' : r = n
      . subst e'
        rw [sm_at r (q := q) (by omega) (fun j hj hne => h0 j (by omega) hne (by omega))]
      . rw [sm_two hqr n (by omega) (by omega) (fun j hj h1 h2 => h0 j (by omega) h1 h2), h0 n (by omega) (fun g => e g.symm) (fun g => e' g.symm), Nat.add_zero]
theorem bt_pow (u q j : Nat) (hu : u < 2) : bt (u * 2 ^ q) j = if j = q then u else 0 := by
  unfold bt
  by_cases h : j = q
  . rw [if_pos h, h, Nat.mul_div_cancel _ (Nat.two_pow_pos q), Nat.mod_eq_of_lt hu]
  . rw [if_neg h]
    rcases Nat.lt_or_gt_of_ne h with g | g
    . obtain ⟨k, hk⟩ : ∃ k, q = j + (k + 1) := ⟨q - j - 1, by omega⟩
      rw [hk, Nat.pow_add, Nat.pow_succ, show u * (2 ^ j * (2 ^ k * 2)) = 2 ^ j * (2 * (u * 2 ^ k)) by
        rw [Nat.mul_left_comm, Nat.mul_comm (2 ^ k) 2, Nat.mul_left_comm u 2], Nat.mul_div_cancel_left _ (Nat.two_pow_pos j), Nat.mul_mod_right]
    . rw [Nat.div_eq_of_lt, Nat.zero_mod]
      have h2 : 2 ^ q * 2 <= 2 ^ j := by rw [← Nat.pow_succ]; exact Nat.pow_le_pow_right (by decide) (by omega)
      have h3 : u * 2 ^ q <= 1 * 2 ^ q := Nat.mul_le_mul_right _ (by omega)
      have := Nat.two_pow_pos q
      omega
theorem bt_or' (x y q : Nat) (h : bt x q = 0 ∨ bt y q = 0) : bt (x ||| y) q = bt x q + bt y q := by
  rw [bt_or]
  have h1 := bt_lt x q
  have h2 := bt_lt y q
  split <;> omega
theorem ldw1 (x q j : Nat) : bt (ldw x [q] 1) j = if j = q then bt x 0 else 0 := by
  show bt (0 ||| bt x 0 * 2 ^ q) j = _
  rw [Nat.zero_or]
  exact bt_pow _ q j (bt_lt x 0)
theorem ldw2 (x q r j : Nat) (h : q ≠ r) : bt (ldw x [q, r] 2) j = if j = q then bt x 0 else if j = r then bt x 1 else 0 := by
  show bt ((0 ||| bt x 0 * 2 ^ q) ||| bt x 1 * 2 ^ r) j = _
  rw [Nat.zero_or, bt_or' _ _ _ (by
    rw [bt_pow _ _ _ (bt_lt x 0), bt_pow _ _ _ (bt_lt x 1)]
    by_cases e : j = q
    . right; rw [if_neg (by omega)]
    . left; rw [if_neg e]), bt_pow _ _ _ (bt_lt x 0), bt_pow _ _ _ (bt_lt x 1)]
  by_cases e : j = q
  . rw [if_pos e, if_pos e, if_neg (by omega), Nat.add_zero]
  . rw [if_neg e, if_neg e, Nat.zero_add]
theorem on00 (a : Nat) : on 73 a = 0 := if_pos (.inl rfl)
theorem ld_mul1 (a b : P) (q : Nat) (hq : q < 64) (n : Int) (ha : a.x < 2 /\ a.z < 2) : mulP (ldP a [q] n) (ldP b [q] n) = ldP (mulP a b) [q] n := by
  refine P.ext' rfl ?_ ?_ ?_
  . refine bt_ext (fun j => ?_)
    show bt (ldw a.x [q] 1 ^^^ ldw b.x [q] 1) j = bt (ldw (a.x ^^^ b.x) [q] 1) j
    rw [bt_xor, ldw1, ldw1, ldw1, bt_xor]
    split <;> rfl
  . refine bt_ext (fun j => ?_)
    show bt (ldw a.z [q] 1 ^^^ ldw b.z [q] 1) j = bt (ldw (a.z ^^^ b.z) [q] 1) j
    rw [bt_xor, ldw1, ldw1, ldw1, bt_xor]
    split <;> rfl
  . show mulPh (ldP a [q] n) (ldP b [q] n) = mulPh a b
    rw [mulPh_eq, mulPh_eq, sm_at (q := q) 64 hq (fun j _ hne => by
      unfold onq ldP
      simp only [List.length_cons, List.length_nil]
      rw [ldw1, ldw1, if_neg hne, if_neg hne]
      exact on00 _), sm_at (f := onq a b) (q := 0) 64 (by decide) (fun j _ hne => by
      exact onq_zero (bt_small (n := 1) ha.1 (by omega)) (bt_small (n := 1) ha.2 (by omega)))]
    congr 2
    unfold onq ldP
    simp only [List.length_cons, List.length_nil]
    rw [ldw1, ldw1, ldw1, ldw1, if_pos rfl, if_pos rfl, if_pos rfl, if_pos rfl]
theorem ld_mul2 (a b : P) (q r : Nat) (h : q ≠ r) (hq : q < 64) (hr : r < 64) (n : Int) (ha : a.x < 4 /\ a.z < 4) : mulP (ldP a [q, r] n) (ldP b [q, r] n) = ldP (mulP a b) [q, r] n := by
  refine P.ext' rfl ?_ ?_ ?_
  . refine bt_ext (fun j => ?_)
    show bt (ldw a.x [q, r] 2 ^^^ ldw b.x [q, r] 2) j = bt (ldw (a.x ^^^ b.x) [q, r] 2) j
    rw [bt_xor, ldw2 _ _ _ _ h, ldw2 _ _ _ _ h, ldw2 _ _ _ _ h, bt_xor, bt_xor]
    (repeat' split) <;> rfl
  . refine bt_ext (fun j => ?_)
    show bt (ldw a.z [q, r] 2 ^^^ ldw b.z [q, r] 2) j = bt (ldw (a.z ^^^ b.z) [q, r] 2) j
    rw [bt_xor, ldw2 _ _ _ _ h, ldw2 _ _ _ _ h, ldw2 _ _ _ _ h, bt_xor, bt_xor]
    (repeat' split) <;> rfl
  . show mulPh (ldP a [q, r] n) (ldP b [q, r] n) = mulPh a b
    rw [mulPh_eq, mulPh_eq, sm_two (q := q) (r := r) h 64 hq hr (fun j _ h1 h2 => by
      unfold onq ldP
      simp only [List.length_cons, List.length_nil]
      rw [ldw2 _ _ _ _ h, ldw2 _ _ _ _ h, if_neg h1, if_neg h2, if_neg h1, if_neg h2]
      exact on00 _), sm_two (f := onq a b) (q := 0) (r := 1) (by decide) 64 (by decide) (by decide) (fun j _ h1 h2 => by
      exact onq_zero (bt_small (n := 2) ha.1 (by omega)) (bt_small (n := 2) ha.2 (by omega)))]
    congr 2
    unfold onq ldP
    simp only [List.length_cons, List.length_nil]
    have hrq : ¬ r = q := fun g => h g.symm
    simp only [ldw2 _ _ _ _ h, hrq, if_true, if_false]
end Go.Proofs.YtoickolhekhgmaaGreatDoor.Pau
namespace Go.Proofs.YtoickolhekhgmaaGreatDoor.Pau
open Go.RowKit Go.Shelf Go.Proofs.YtoickolhekhgmaaGreatDoor.Gt
def ip (k t j : Nat) : P := (parR (im k t j)).1
def ar (k : Nat) : Nat := if k <= 10 then 1 else 2
theorem ip_tab : ∀ k : Fin 18, ∀ t : Fin 2, ∀ j : Fin 3, 1 <= k.1 -> t.1 < ar k.1 -> (parR (im k.1 t.1 j.1)).2 = 0 /\ (ip k.1 t.1 j.1).n = (ar k.1 : Int) /\ (ip k.1 t.1 j.1).x < 2 ^ ar k.1 /\ (ip k.1 t.1 j.1).z < 2 ^ ar k.1 /\ 0 <= (ip k.1 t.1 j.1).ph /\ (ip k.1 t.1 j.1).ph <= 3 := by decide +kernel
theorem ip_y : ∀ k : Fin 18, ∀ t : Fin 2, 1 <= k.1 -> t.1 < ar k.1 -> (mulP (ip k.1 t.1 0) (ip k.1 t.1 2)).x = (ip k.1 t.1 1).x /\ (mulP (ip k.1 t.1 0) (ip k.1 t.1 2)).z = (ip k.1 t.1 1).z /\ ((mulP (ip k.1 t.1 0) (ip k.1 t.1 2)).ph + 1) % 4 = (ip k.1 t.1 1).ph := by decide +kernel
def up (p : P) : P := ⟨p.n, p.x, p.z, (p.ph + 1) % 4⟩
theorem mul_up (b c : P) : mulP b (up c) = up (mulP b c) := by
  refine P.ext' rfl rfl rfl ?_
  show mulPh b (up c) = (mulPh b c + 1) % 4
  rw [mulPh_eq, mulPh_eq]
  show (b.ph + (c.ph + 1) % 4 + (sm 64 (onq b c) : Int)) % 4 = _
  omega
structure Ql (k : Nat) (ns : List Nat) (n : Int) : Prop where
  k1 : 1 <= k
  k2 : k < 18
  len : ns.length = ar k
  nd : ns.Nodup
  inn : ∀ q ∈ ns, (q : Int) < n
  le : n <= 64
theorem Ql.cases {k : Nat} {ns : List Nat} {n : Int} (h : Ql k ns n) : (ar k = 1 /\ ∃ q, ns = [q] /\ q < 64 /\ (q : Int) < n) ∨ (ar k = 2 /\ ∃ q r, ns = [q, r] /\ q ≠ r /\ q < 64 /\ r < 64 /\ (q : Int) < n /\ (r : Int) < n) := by
  have hl := h.len
  have hle := h.le
  by_cases e : k <= 10
  . have ea : ar k = 1 := if_pos e
    rw [ea] at hl
    match ns, hl, h.inn with
    | [q], _, hi =>
      have := hi q (by simp)
      exact .inl ⟨ea, q, rfl, by omega, this⟩
  . have ea : ar k = 2 := if_neg e
    rw [ea] at hl
    match ns, hl, h.inn, h.nd with
    | [q, r], _, hi, hnd =>
      have h1 := hi q (by simp)
      have h2 := hi r (by simp)
      have h3 : q ≠ r := by simpa using hnd
      exact .inr ⟨ea, q, r, rfl, h3, by omega, by omega, h1, h2⟩
theorem ld_rt {k : Nat} {ns : List Nat} {n : Int} (h : Ql k ns n) (h0 : 0 <= n) (a : P) (hp : 0 <= a.ph /\ a.ph <= 3) : rt (ldP a ns n) = true := by
  have key : ∀ x, ldw x ns ns.length < 2 ^ n.toNat := fun x => by
    rcases h.cases with ⟨-, q, rfl, hq, hqn⟩ | ⟨-, q, r, rfl, hqr, hq, hr, hqn, hrn⟩
    . have h64 : ldw x [q] 1 < 18446744073709551616 := ldw_lt x [q] (by simpa using hq) 1 (by simp)
      exact (small_iff h64).2 (fun j hj _ => by rw [ldw1, if_neg (by omega)])
    . have h64 : ldw x [q, r] 2 < 18446744073709551616 := ldw_lt x [q, r] (by simpa using ⟨hq, hr⟩) 2 (by simp)
      exact (small_iff h64).2 (fun j hj _ => by rw [ldw2 _ _ _ _ hqr, if_neg (by omega), if_neg (by omega)])
  exact rt_iff.2 ⟨h0, h.le, key _, key _, hp.1, hp.2⟩
theorem ld_mul {k : Nat} {ns : List Nat} {n : Int} (h : Ql k ns n) {a : P} (b : P) (ha : a.x < 2 ^ ar k /\ a.z < 2 ^ ar k) : mulP (ldP a ns n) (ldP b ns n) = ldP (mulP a b) ns n := by
  rcases h.cases with ⟨e, q, rfl, hq, -⟩ | ⟨e, q, r, rfl, hqr, hq, hr, -, -⟩
  . rw [e] at ha
    exact ld_mul1 a b q hq n ha
  . rw [e] at ha
    exact ld_mul2 a b q r hqr hq hr n ha
theorem ld_y {k t : Nat} {ns : List Nat} {n : Int} (h : Ql k ns n) (ht : t < ar k) : up (mulP (ldP (ip k t 0) ns n) (ldP (ip k t 2) ns n)) = ldP (ip k t 1) ns n := by
  have ht2 : t < 2 := by have : ar k <= 2 := by { unfold ar; split <;> omega }; omega
  have i0 := ip_tab ⟨k, h.k2⟩ ⟨t, ht2⟩ 0 h.k1 ht
  have iy := ip_y ⟨k, h.k2⟩ ⟨t, ht2⟩ h.k1 ht
  rw [ld_mul (a := ip k t 0) h (ip k t 2) ⟨i0.2.2.1, i0.2.2.2.1⟩]
  refine P.ext' rfl ?_ ?_ ?_
  . show ldw (mulP (ip k t 0) (ip k t 2)).x ns ns.length = ldw (ip k t 1).x ns ns.length
    rw [show (mulP (ip k t 0) (ip k t 2)).x = (ip k t 1).x from iy.1]
  . show ldw (mulP (ip k t 0) (ip k t 2)).z ns ns.length = ldw (ip k t 1).z ns ns.length
    rw [show (mulP (ip k t 0) (ip k t 2)).z = (ip k t 1).z from iy.2.1]
  . exact iy.2.2
theorem img_rt {k t j : Nat} {ns : List Nat} {n : Int} (h : Ql k ns n) (h0 : 0 <= n) (ht : t < ar k) (hj : j < 3) : rt (ldP (ip k t j) ns n) = true := by
  have ht2 : t < 2 := by have : ar k <= 2 := by { unfold ar; split <;> omega }; omega
  have i0 := ip_tab ⟨k, h.k2⟩ ⟨t, ht2⟩ ⟨j, hj⟩ h.k1 ht
  exact ld_rt h h0 _ ⟨i0.2.2.2.2.1, i0.2.2.2.2.2⟩
def dst (k : Nat) (ns : List Nat) (p b : P) (t : Nat) : P :=
  let u := bt p.x (ns.getD t 0); let v := bt p.z (ns.getD t 0)
  let b1 := if u = 1 then (mulR b (ldP (ip k t 0) ns p.n)).1 else b
  let b2 := if v = 1 then (mulR b1 (ldP (ip k t 2) ns p.n)).1 else b1
  if u = 1 /\ v = 1 then up b2 else b2
theorem mulR_fit {a b : P} (h : fitP a b = true) : (mulR a b).1 = mulP a b := by unfold mulR; rw [if_pos h]
theorem dst_stp {k t : Nat} {ns : List Nat} {p b : P} (h : Ql k ns p.n) (h0 : 0 <= p.n) (ht : t < ar k) (hb : rt b = true) (hn : b.n = p.n) : dst k ns p b t = stp k ns p b t /\ rt (stp k ns p b t) = true /\ (stp k ns p b t).n = p.n := by
  have f : ∀ j, j < 3 -> fitP b (ldP (ip k t j) ns p.n) = true := fun j hj => fit_iff.2 ⟨hb, img_rt h h0 ht hj, hn⟩
  have hu := bt_lt p.x (ns.getD t 0)
  have hv := bt_lt p.z (ns.getD t 0)
  unfold dst stp
  simp only
  generalize bt p.x (ns.getD t 0) = u at *
  generalize bt p.z (ns.getD t 0) = v at *
  have h1 : u = 0 ∨ u = 1 := by omega
  have h2 : v = 0 ∨ v = 1 := by omega
  rcases h1 with rfl | rfl <;> rcases h2 with rfl | rfl
  . exact ⟨rfl, hb, hn⟩
  . refine ⟨rfl, ?_, ?_⟩
    . show rt (mulR b (ldP (ip k t 2) ns p.n)).1 = true
      rw [mulR_fit (f 2 (by decide))]; exact mul_rt (f 2 (by decide))
    . show (mulR b (ldP (ip k t 2) ns p.n)).1.n = p.n
      rw [mulR_fit (f 2 (by decide))]; exact hn
  . refine ⟨rfl, ?_, ?_⟩
    . show rt (mulR b (ldP (ip k t 0) ns p.n)).1 = true
      rw [mulR_fit (f 0 (by decide))]; exact mul_rt (f 0 (by decide))
    . show (mulR b (ldP (ip k t 0) ns p.n)).1.n = p.n
      rw [mulR_fit (f 0 (by decide))]; exact hn
  . have f0 := f 0 (by decide)
    have f1 := f 1 (by decide)
    have fz : fitP (mulP b (ldP (ip k t 0) ns p.n)) (ldP (ip k t 2) ns p.n) = true := fit_iff.2 ⟨mul_rt f0, img_rt h h0 ht (by decide), hn⟩
    refine ⟨?_, ?_, ?_⟩
    . show up (mulR (mulR b (ldP (ip k t 0) ns p.n)).1 (ldP (ip k t 2) ns p.n)).1 = (mulR b (ldP (ip k t 1) ns p.n)).1
      rw [mulR_fit f0, mulR_fit fz, mulR_fit f1, mul_ass, ← mul_up, ld_y h ht]
    . show rt (mulR b (ldP (ip k t 1) ns p.n)).1 = true
      rw [mulR_fit f1]; exact mul_rt f1
    . show (mulR b (ldP (ip k t 1) ns p.n)).1.n = p.n
      rw [mulR_fit f1]; exact hn
theorem clw_le (x : Nat) (ns : List Nat) : ∀ k, clw x ns k <= x
  | 0 => Nat.le_refl _
  | k + 1 => Nat.le_trans Nat.and_le_left (clw_le x ns k)
theorem thf_rt {k : Nat} {ns : List Nat} {p : P} (h : Ql k ns p.n) (hp : rt p = true) : ∀ t, t <= ar k -> rt (thf k ns p t) = true /\ (thf k ns p t).n = p.n
  | 0, _ => by
    obtain ⟨a1, a2, a3, a4, a5, a6⟩ := rt_iff.1 hp
    exact ⟨rt_iff.2 ⟨a1, a2, Nat.lt_of_le_of_lt (clw_le _ _ _) a3, Nat.lt_of_le_of_lt (clw_le _ _ _) a4, a5, a6⟩, rfl⟩
  | t + 1, ht => by
    obtain ⟨i1, i2⟩ := thf_rt h hp t (by omega)
    exact (dst_stp h (rt_iff.1 hp).1 (by omega) i1 i2).2
def dthf (k : Nat) (ns : List Nat) (p : P) : Nat -> P
  | 0 => ⟨p.n, clw p.x ns ns.length, clw p.z ns ns.length, p.ph⟩
  | t + 1 => dst k ns p (dthf k ns p t) t
theorem thf_same {k : Nat} {ns : List Nat} {p : P} (h : Ql k ns p.n) (hp : rt p = true) : ∀ t, t <= ar k -> dthf k ns p t = thf k ns p t
  | 0, _ => rfl
  | t + 1, ht => by
    obtain ⟨i1, i2⟩ := thf_rt h hp t (by omega)
    rw [dthf, thf, thf_same h hp t (by omega)]
    exact (dst_stp h (rt_iff.1 hp).1 (by omega) i1 i2).1
end Go.Proofs.YtoickolhekhgmaaGreatDoor.Pau
