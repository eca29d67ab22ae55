import Derived.Test.YtpehekonjdneaaaDoorK5a957c1b
namespace Go.Proofs.YtpehekonjdneaaaDoor.Pau
open Go.RowKit Go.Shelf Go.Proofs.YtpehekonjdneaaaDoor.Gt
def ip (k t j : Nat) : P := (parR (im k t j)).1
def ar (k : Nat) : Nat := if k <= 10 then 1 else 2
theorem ip_tab : ∀ k : Fin 18, ∀ t : Fin 2, ∀ j : Fin 3, 1 <= k.1 -> t.1 < ar k.1 -> (parR (im k.1 t.1 j.1)).2 = 0 /\ (ip k.1 t.1 j.1).n = (ar k.1 : Int) /\ (ip k.1 t.1 j.1).x < 2 ^ ar k.1 /\ (ip k.1 t.1 j.1).z < 2 ^ ar k.1 /\ 0 <= (ip k.1 t.1 j.1).ph /\ (ip k.1 t.1 j.1).ph <= 3 := by decide +kernel
theorem ip_y : ∀ k : Fin 18, ∀ t : Fin 2, 1 <= k.1 -> t.1 < ar k.1 -> (mulP (ip k.1 t.1 0) (ip k.1 t.1 2)).x = (ip k.1 t.1 1).x /\ (mulP (ip k.1 t.1 0) (ip k.1 t.1 2)).z = (ip k.1 t.1 1).z /\ ((mulP (ip k.1 t.1 0) (ip k.1 t.1 2)).ph + 1) % 4 = (ip k.1 t.1 1).ph := by decide +kernel
def up (p : P) : P := ⟨p.n, p.x, p.z, (p.ph + 1) % 4⟩
theorem mul_up (b c : P) : mulP b (up c) = up (mulP b c) := by
  refine P.ext' rfl rfl rfl ?_
  show mulPh b (up c) = (mulPh b c + 1) % 4
  rw [mulPh_eq, mulPh_eq]
  show (b.ph + (c.ph + 1) % 4 + (sm 64 (onq b c) : Int)) % 4 = _
  omega
structure Ql (k : Nat) (ns : List Nat) (n : Int) : Prop where
  k1 : 1 <= k
  k2 : k < 18
  len : ns.length = ar k
  nd : ns.Nodup
  inn : ∀ q ∈ ns, (q : Int) < n
  le : n <= 64
theorem Ql.cases {k : Nat} {ns : List Nat} {n : Int} (h : Ql k ns n) : (ar k = 1 /\ ∃ q, ns = [q] /\ q < 64 /\ (q : Int) < n) ∨ (ar k = 2 /\ ∃ q r, ns = [q, r] /\ q ≠ r /\ q < 64 /\ r < 64 /\ (q : Int) < n /\ (r : Int) < n) := by
  have hl := h.len
  have hle := h.le
  by_cases e : k <= 10
  . have ea : ar k = 1 := if_pos e
    rw [ea] at hl
    match ns, hl, h.inn with
    | [q], _, hi =>
      have := hi q (by simp)
      exact .inl ⟨ea, q, rfl, by omega, this⟩
  . have ea : ar k = 2 := if_neg e
    rw [ea] at hl
    match ns, hl, h.inn, h.nd with
    | [q, r], _, hi, hnd =>
      have h1 := hi q (by simp)
      have h2 := hi r (by simp)
      have h3 : q ≠ r := by simpa using hnd
      exact .inr ⟨ea, q, r, rfl, h3, by omega, by omega, h1, h2⟩
theorem ld_rt {k : Nat} {ns : List Nat} {n : Int} (h : Ql k ns n) (h0 : 0 <= n) (a : P) (hp : 0 <= a.ph /\ a.ph <= 3) : rt (ldP a ns n) = true := by
  have key : ∀ x, ldw x ns ns.length < 2 ^ n.toNat := fun x => by
    rcases h.cases with ⟨-, q, rfl, hq, hqn⟩ | ⟨-, q, r, rfl, hqr, hq, hr, hqn, hrn⟩
    . have h64 : ldw x [q] 1 < 18446744073709551616 := ldw_lt x [q] (by simpa using hq) 1 (by simp)
      exact (small_iff h64).2 (fun j hj _ => by rw [ldw1, if_neg (by omega)])
    . have h64 : ldw x [q, r] 2 < 18446744073709551616 := ldw_lt x [q, r] (by simpa using ⟨hq, hr⟩) 2 (by simp)
      exact (small_iff h64).2 (fun j hj _ => by rw [ldw2 _ _ _ _ hqr, if_neg (by omega), if_neg (by omega)])
  exact rt_iff.2 ⟨h0, h.le, key _, key _, hp.1, hp.2⟩
theorem ld_mul {k : Nat} {ns : List Nat} {n : Int} (h : Ql k ns n) {a : P} (b : P) (ha : a.x < 2 ^ ar k /\ a.z < 2 ^ ar k) : mulP (ldP a ns n) (ldP b ns n) = ldP (mulP a b) ns n := by
  rcases h.cases with ⟨e, q, rfl, hq, -⟩ | ⟨e, q, r, rfl, hqr, hq, hr, -, -⟩
  . rw [e] at ha
    exact ld_mul1 a b q hq n ha
  . rw [e] at ha
    exact ld_mul2 a b q r hqr hq hr n ha
theorem ld_y {k t : Nat} {ns : List Nat} {n : Int} (h : Ql k ns n) (ht : t < ar k) : up (mulP (ldP (ip k t 0) ns n) (ldP (ip k t 2) ns n)) = ldP (ip k t 1) ns n := by
  have ht2 : t < 2 := by have : ar k <= 2 := by { unfold ar; split <;> omega }; omega
  have i0 := ip_tab ⟨k, h.k2⟩ ⟨t, ht2⟩ 0 h.k1 ht
  have iy := ip_y ⟨k, h.k2⟩ ⟨t, ht2⟩ h.k1 ht
  rw [ld_mul (a := ip k t 0) h (ip k t 2) ⟨i0.2.2.1, i0.2.2.2.1⟩]
  refine P.ext' rfl ?_ ?_ ?_
  . show ldw (mulP (ip k t 0) (ip k t 2)).x ns ns.length = ldw (ip k t 1).x ns ns.length
    rw [show (mulP (ip k t 0) (ip k t 2)).x = (ip k t 1).x from iy.1]
  . show ldw (mulP (ip k t 0) (ip k t 2)).z ns ns.length = ldw (ip k t 1).z ns ns.length
    rw [show (mulP (ip k t 0) (ip k t 2)).z = (ip k t 1).z from iy.2.1]
  . exact iy.2.2
theorem img_rt {k t j : Nat} {ns : List Nat} {n : Int} (h : Ql k ns n) (h0 : 0 <= n) (ht : t < ar k) (hj : j < 3) : rt (ldP (ip k t j) ns n) = true := by
  have ht2 : t < 2 := by have : ar k <= 2 := by { unfold ar; split <;> omega }; omega
  have i0 := ip_tab ⟨k, h.k2⟩ ⟨t, ht2⟩ ⟨j, hj⟩ h.k1 ht
  exact ld_rt h h0 _ ⟨i0.2.2.2.2.1, i0.2.2.2.2.2⟩
def dst (k : Nat) (ns : List Nat) (p b : P) (t : Nat) : P :=
  let u := bt p.x (ns.getD t 0); let v := bt p.z (ns.getD t 0)
  let b1 := if u = 1 then (mulR b (ldP (ip k t 0) ns p.n)).1 else b
  let b2 := if v = 1 then (mulR b1 (ldP (ip k t 2) ns p.n)).1 else b1
  if u = 1 /\ v = 1 then up b2 else b2
theorem mulR_fit {a b : P} (h : fitP a b = true) : (mulR a b).1 = mulP a b := by unfold mulR; rw [if_pos h]
theorem dst_stp {k t : Nat} {ns : List Nat} {p b : P} (h : Ql k ns p.n) (h0 : 0 <= p.n) (ht : t < ar k) (hb : rt b = true) (hn : b.n = p.n) : dst k ns p b t = stp k ns p b t /\ rt (stp k ns p b t) = true /\ (stp k ns p b t).n = p.n := by
  have f : ∀ j, j < 3 -> fitP b (ldP (ip k t j) ns p.n) = true := fun j hj => fit_iff.2 ⟨hb, img_rt h h0 ht hj, hn⟩
  have hu := bt_lt p.x (ns.getD t 0)
  have hv := bt_lt p.z (ns.getD t 0)
  unfold dst stp
  simp only
  generalize bt p.x (ns.getD t 0) = u at *
  generalize bt p.z (ns.getD t 0) = v at *
  have h1 : u = 0 ∨ u = 1 := by omega
  have h2 : v = 0 ∨ v = 1 := by omega
  rcases h1 with rfl | rfl <;> rcases h2 with rfl | rfl
  . exact ⟨rfl, hb, hn⟩
  . refine ⟨rfl, ?_, ?_⟩
    . show rt (mulR b (ldP (ip k t 2) ns p.n)).1 = true
      rw [mulR_fit (f 2 (by decide))]; exact mul_rt (f 2 (by decide))
    . show (mulR b (ldP (ip k t 2) ns p.n)).1.n = p.n
      rw [mulR_fit (f 2 (by decide))]; exact hn
  . refine ⟨rfl, ?_, ?_⟩
    . show rt (mulR b (ldP (ip k t 0) ns p.n)).1 = true
      rw [mulR_fit (f 0 (by decide))]; exact mul_rt (f 0 (by decide))
    . show (mulR b (ldP (ip k t 0) ns p.n)).1.n = p.n
      rw [mulR_fit (f 0 (by decide))]; exact hn
  . have f0 := f 0 (by decide)
    have f1 := f 1 (by decide)
    have fz : fitP (mulP b (ldP (ip k t 0) ns p.n)) (ldP (ip k t 2) ns p.n) = true := fit_iff.2 ⟨mul_rt f0, img_rt h h0 ht (by decide), hn⟩
    refine ⟨?_, ?_, ?_⟩
    . show up (mulR (mulR b (ldP (ip k t 0) ns p.n)).1 (ldP (ip k t 2) ns p.n)).1 = (mulR b (ldP (ip k t 1) ns p.n)).1
      rw [mulR_fit f0, mulR_fit fz, mulR_fit f1, mul_ass, ← mul_up, ld_y h ht]
    . show rt (mulR b (ldP (ip k t 1) ns p.n)).1 = true
      rw [mulR_fit f1]; exact mul_rt f1
    . show (mulR b (ldP (ip k t 1) ns p.n)).1.n = p.n
      rw [mulR_fit f1]; exact hn
theorem clw_le (x : Nat) (ns : List Nat) : ∀ k, clw x ns k <= x
  | 0 => Nat.le_refl _
  | k + 1 => Nat.le_trans Nat.and_le_left (clw_le x ns k)
theorem thf_rt {k : Nat} {ns : List Nat} {p : P} (h : Ql k ns p.n) (hp : rt p = true) : ∀ t, t <= ar k -> rt (thf k ns p t) = true /\ (thf k ns p t).n = p.n
  | 0, _ => by
    obtain ⟨a1, a2, a3, a4, a5, a6⟩ := rt_iff.1 hp
    exact ⟨rt_iff.2 ⟨a1, a2, Nat.lt_of_le_of_lt (clw_le _ _ _) a3, Nat.lt_of_le_of_lt (clw_le _ _ _) a4, a5, a6⟩, rfl⟩
  | t + 1, ht => by
    obtain ⟨i1, i2⟩ := thf_rt h hp t (by omega)
    exact (dst_stp h (rt_iff.1 hp).1 (by omega) i1 i2).2
end Go.Proofs.YtpehekonjdneaaaDoor.Pau
