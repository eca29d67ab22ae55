import Derived.Test.YtpehekonjdneaaaDoorK3480258a
namespace Go.Proofs.YtpehekonjdneaaaDoor.Pau
open Go.RowKit Go.Shelf Go.Proofs.YtpehekonjdneaaaDoor.Gt
theorem bt_clr {q : Nat} (hq : q < 64) (j : Nat) : bt (18446744073709551615 - 2 ^ q) j = if j < 64 /\ j ≠ q then 1 else 0 := by
  have hlt : 2 ^ q < 2 ^ 64 := Nat.pow_lt_pow_right (by decide) hq
  have e : 18446744073709551615 - 2 ^ q = 2 ^ 64 - (2 ^ q + 1) := by
    have h64 : (2 : Nat) ^ 64 = 18446744073709551616 := by decide
    rw [h64]
    omega
  rw [bt_tb, e, Nat.testBit_two_pow_sub_succ hlt, Nat.testBit_two_pow]
  by_cases h1 : j < 64 <;> by_cases h2 : q = j
  . subst h2; simp [h1]
  . have h3 : ¬ j = q := fun e => h2 e.symm
    simp [h1, h2, h3]
  . subst h2; simp
  . simp [h1]
theorem clw1 {x q : Nat} (hx : x < 18446744073709551616) (hq : q < 64) (j : Nat) : bt (clw x [q] 1) j = if j = q then 0 else bt x j := by
  show bt (x &&& (18446744073709551615 - 2 ^ q)) j = _
  rw [bt_and, bt_clr hq]
  by_cases h : j = q
  . rw [if_neg (by omega), if_pos h, Nat.mul_zero]
  . rw [if_neg h]
    by_cases h1 : j < 64
    . rw [if_pos ⟨h1, h⟩, Nat.mul_one]
    . rw [if_neg (by omega), Nat.mul_zero, bt_small (n := 64) hx (by omega)]
theorem clw2 {x q r : Nat} (hx : x < 18446744073709551616) (hq : q < 64) (hr : r < 64) (j : Nat) : bt (clw x [q, r] 2) j = if j = q ∨ j = r then 0 else bt x j := by
  show bt (clw x [q] 1 &&& (18446744073709551615 - 2 ^ r)) j = _
  rw [bt_and, bt_clr hr, clw1 hx hq]
  by_cases h : j = q
  . rw [if_pos h, Nat.zero_mul, if_pos (show j = q ∨ j = r from .inl h)]
  . rw [if_neg h]
    by_cases h2 : j = r
    . rw [if_neg (show ¬ (j < 64 /\ j ≠ r) by omega), Nat.mul_zero, if_pos (show j = q ∨ j = r from .inr h2)]
    . rw [if_neg (show ¬ (j = q ∨ j = r) by omega)]
      by_cases h1 : j < 64
      . rw [if_pos ⟨h1, h2⟩, Nat.mul_one]
      . rw [if_neg (by omega), Nat.mul_zero, bt_small (n := 64) hx (by omega)]
def rs (ns : List Nat) (p : P) : P := ⟨p.n, clw p.x ns ns.length, clw p.z ns ns.length, p.ph⟩
def gx (x : Nat) (ns : List Nat) : Nat -> Nat
  | 0 => 0
  | t + 1 => gx x ns t + bt x (ns.getD t 0) * 2 ^ t
def Lc (ns : List Nat) (p : P) : P := ⟨(ns.length : Int), gx p.x ns ns.length, gx p.z ns ns.length, 0⟩
def Dj (ns : List Nat) (r : P) : Prop := ∀ q ∈ ns, bt r.x q = 0 /\ bt r.z q = 0
theorem clw_in {k : Nat} {ns : List Nat} {n : Int} (h : Ql k ns n) {x : Nat} (hx : x < 18446744073709551616) (j : Nat) : bt (clw x ns ns.length) j = if j ∈ ns then 0 else bt x j := by
  rcases h.cases with ⟨-, q, rfl, hq, -⟩ | ⟨-, q, r, rfl, hqr, hq, hr, -, -⟩
  . show bt (clw x [q] 1) j = _
    rw [clw1 hx hq]; simp
  . show bt (clw x [q, r] 2) j = _
    rw [clw2 hx hq hr]; simp
theorem ld_out {k : Nat} {ns : List Nat} {n : Int} (h : Ql k ns n) (x : Nat) {j : Nat} (hj : j ∉ ns) : bt (ldw x ns ns.length) j = 0 := by
  rcases h.cases with ⟨-, q, rfl, hq, -⟩ | ⟨-, q, r, rfl, hqr, hq, hr, -, -⟩
  . show bt (ldw x [q] 1) j = _
    rw [ldw1, if_neg (by simpa using hj)]
  . show bt (ldw x [q, r] 2) j = _
    have : ¬ j = q /\ ¬ j = r := by simpa using hj
    rw [ldw2 _ _ _ _ hqr, if_neg this.1, if_neg this.2]
theorem rs_dj {k : Nat} {ns : List Nat} {n : Int} (h : Ql k ns n) {p : P} (hp : Wd p) : Dj ns (rs ns p) := fun q hq => ⟨(clw_in h hp.1 q).trans (if_pos hq), (clw_in h hp.2 q).trans (if_pos hq)⟩
theorem sm_z {f : Nat -> Nat} (h : ∀ j, f j = 0) : sm 64 f = 0 := sm_zero 64 (fun j _ => h j)
theorem on_l (a : Nat) : on a 73 = 0 := if_pos (.inr (.inl rfl))
theorem lt00 : lt 0 0 = 73 := by decide
theorem dis_l {k : Nat} {ns : List Nat} {n : Int} (h : Ql k ns n) {r : P} (hr : Dj ns r) (A : P) (m : Int) (j : Nat) : onq r (ldP A ns m) j = 0 /\ onq (ldP A ns m) r j = 0 := by
  by_cases hj : j ∈ ns
  . obtain ⟨h1, h2⟩ := hr j hj
    refine ⟨onq_zero h1 h2, ?_⟩
    unfold onq
    rw [h1, h2, lt00]
    exact on_l _
  . have h1 : bt (ldP A ns m).x j = 0 := ld_out h A.x hj
    have h2 : bt (ldP A ns m).z j = 0 := ld_out h A.z hj
    refine ⟨?_, onq_zero h1 h2⟩
    unfold onq
    rw [h1, h2, lt00]
    exact on_l _
theorem ph_l {k : Nat} {ns : List Nat} {n : Int} (h : Ql k ns n) {r : P} (hr : Dj ns r) (A : P) (m : Int) : mulPh r (ldP A ns m) = (r.ph + A.ph) % 4 /\ mulPh (ldP A ns m) r = (r.ph + A.ph) % 4 := by
  constructor
  . rw [mulPh_eq, sm_z (fun j => (dis_l h hr A m j).1)]
    show (r.ph + A.ph + 0) % 4 = _
    rw [Int.add_zero]
  . rw [mulPh_eq, sm_z (fun j => (dis_l h hr A m j).2)]
    show (A.ph + r.ph + 0) % 4 = _
    rw [Int.add_zero, Int.add_comm]
theorem ld_swap {k : Nat} {ns : List Nat} {n : Int} (h : Ql k ns n) {r : P} (hr : Dj ns r) (A : P) : mulP (ldP A ns r.n) r = mulP r (ldP A ns r.n) := by
  refine P.ext' rfl (Nat.xor_comm _ _) (Nat.xor_comm _ _) ?_
  show mulPh (ldP A ns r.n) r = mulPh r (ldP A ns r.n)
  rw [(ph_l h hr A _).1, (ph_l h hr A _).2]
theorem two_mul {k : Nat} {ns : List Nat} {n : Int} (h : Ql k ns n) {r s : P} (hs : Dj ns s) (hn : r.n = s.n) {A : P} (B : P) (hA : A.x < 2 ^ ar k /\ A.z < 2 ^ ar k) (hsn : s.n = n) : mulP (mulP r (ldP A ns r.n)) (mulP s (ldP B ns s.n)) = mulP (mulP r s) (ldP (mulP A B) ns r.n) := by
  rw [hn, mul_ass, ← mul_ass (ldP A ns s.n) s, ld_swap h hs, mul_ass s, hsn, ld_mul (a := A) h B hA, mul_ass]
def sh (p : P) (d : Int) : P := ⟨p.n, p.x, p.z, (p.ph + d) % 4⟩
theorem mulPh_sh (a b : P) (d : Int) : mulPh (sh a d) b = (mulPh a b + d) % 4 /\ mulPh a (sh b d) = (mulPh a b + d) % 4 := by
  constructor
  . rw [mulPh_eq, mulPh_eq]
    show ((a.ph + d) % 4 + b.ph + (sm 64 (onq a b) : Int)) % 4 = _
    omega
  . rw [mulPh_eq, mulPh_eq]
    show (a.ph + (b.ph + d) % 4 + (sm 64 (onq a b) : Int)) % 4 = _
    omega
theorem sh_l (a b : P) (d : Int) : mulP (sh a d) b = sh (mulP a b) d := P.ext' rfl rfl rfl (mulPh_sh a b d).1
theorem sh_r (a b : P) (d : Int) : mulP a (sh b d) = sh (mulP a b) d := P.ext' rfl rfl rfl (mulPh_sh a b d).2
theorem rs_lc {k : Nat} {ns : List Nat} {p : P} (h : Ql k ns p.n) (hp : rt p = true) : mulP (rs ns p) (ldP (Lc ns p) ns p.n) = p := by
  have hw := rt_wd hp
  obtain ⟨-, -, -, -, h5, h6⟩ := rt_iff.1 hp
  have key : ∀ x, x < 18446744073709551616 -> clw x ns ns.length ^^^ ldw (gx x ns ns.length) ns ns.length = x := fun x hx => by
    refine bt_ext (fun j => ?_)
    rw [bt_xor, clw_in h hx]
    rcases h.cases with ⟨-, q, rfl, hq, -⟩ | ⟨-, q, r, rfl, hqr, hq, hr, -, -⟩
    . show (_ + bt (ldw (0 + bt x q * 1) [q] 1) j) % 2 = _
      have e : bt (0 + bt x q * 1) 0 = bt x q := by
        rw [Nat.zero_add, Nat.mul_one]; show bt x q / 1 % 2 = _
        have := bt_lt x q; omega
      rw [ldw1, e]
      have := bt_lt x j
      by_cases hj : j = q
      . subst hj; simp; omega
      . simp [hj]; omega
    . show (_ + bt (ldw (0 + bt x q * 1 + bt x r * 2) [q, r] 2) j) % 2 = _
      have b1 := bt_lt x q
      have b2 := bt_lt x r
      have e : bt (0 + bt x q * 1 + bt x r * 2) 0 = bt x q := by
        show (0 + bt x q * 1 + bt x r * 2) / 1 % 2 = _
        omega
      have e' : bt (0 + bt x q * 1 + bt x r * 2) 1 = bt x r := by
        show (0 + bt x q * 1 + bt x r * 2) / 2 % 2 = _
        omega
      rw [ldw2 _ _ _ _ hqr, e, e']
      have := bt_lt x j
      by_cases hj : j = q
      . subst hj; simp; omega
      . by_cases hj2 : j = r
        . subst hj2; simp [hj]; omega
        . simp [hj, hj2]; omega
  refine P.ext' rfl (key _ hw.1) (key _ hw.2) ?_
  show mulPh (rs ns p) (ldP (Lc ns p) ns p.n) = p.ph
  rw [(ph_l h (rs_dj h hw) _ _).1]
  show (p.ph + 0) % 4 = p.ph
  omega
end Go.Proofs.YtpehekonjdneaaaDoor.Pau
