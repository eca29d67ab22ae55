import Derived.Test.YtllfplkefbhnfaaDoorKd89381a9
namespace Go.Proofs.YtllfplkefbhnfaaDoor.Pau
open Go.RowKit
theorem bt_tb (x q : Nat) : bt x q = (x.testBit q).toNat := by
  unfold bt
  rw [Nat.testBit_eq_decide_div_mod_eq]
  rcases Nat.mod_two_eq_zero_or_one (x / 2 ^ q) with h | h <;> rw [h] <;> rfl
theorem bt_and (x y q : Nat) : bt (x &&& y) q = bt x q * bt y q := by
  rw [bt_tb, bt_tb, bt_tb, Nat.testBit_and]
  cases x.testBit q <;> cases y.testBit q <;> rfl
theorem bt_xor (x y q : Nat) : bt (x ^^^ y) q = (bt x q + bt y q) % 2 := by
  rw [bt_tb, bt_tb, bt_tb, Nat.testBit_xor]
  cases x.testBit q <;> cases y.testBit q <;> rfl
theorem bt_small {x n : Nat} (h : x < 2 ^ n) {q : Nat} (hq : n <= q) : bt x q = 0 := by
  unfold bt
  rw [Nat.div_eq_of_lt (Nat.lt_of_lt_of_le h (Nat.pow_le_pow_right (by decide) hq))]
theorem small_iff {x n : Nat} (hx : x < 18446744073709551616) : x < 2 ^ n ↔ ∀ j, n <= j -> j < 64 -> bt x j = 0 := by
  refine ⟨fun h j hj _ => bt_small h hj, fun h => Nat.lt_pow_two_of_testBit _ (fun i hi => ?_)⟩
  by_cases h64 : i < 64
  . have := h i hi h64
    rw [bt_tb] at this
    cases hb : x.testBit i
    . rfl
    . rw [hb] at this; cases this
  . exact Nat.testBit_lt_two_pow (Nat.lt_of_lt_of_le hx (by rw [show (18446744073709551616 : Nat) = 2 ^ 64 from rfl]; exact Nat.pow_le_pow_right (by decide) (by omega)))
theorem sm_mod {f g : Nat -> Nat} (m : Nat) : ∀ n, (∀ q, q < n -> f q % m = g q % m) -> sm n f % m = sm n g % m
  | 0, _ => rfl
  | n + 1, h => by
    rw [sm, sm, Nat.add_mod, sm_mod m n (fun q hq => h q (by omega)), h n (by omega), ← Nat.add_mod]
def on (a b : Nat) : Nat := if a = 73 ∨ b = 73 ∨ a = b then 0 else if a = 88 /\ b = 89 ∨ a = 89 /\ b = 90 ∨ a = 90 /\ b = 88 then 1 else 3
theorem rt_iff {p : P} : rt p = true ↔ 0 <= p.n /\ p.n <= 64 /\ p.x < 2 ^ p.n.toNat /\ p.z < 2 ^ p.n.toNat /\ 0 <= p.ph /\ p.ph <= 3 := by
  unfold rt
  rw [decide_eq_true_eq]
theorem fit_iff {a b : P} : fitP a b = true ↔ rt a = true /\ rt b = true /\ a.n = b.n := by
  unfold fitP
  simp only [Bool.and_eq_true, decide_eq_true_eq, and_assoc]
theorem mul_rt {a b : P} (h : fitP a b = true) : rt (mulP a b) = true := by
  obtain ⟨h1, h2, h3⟩ := fit_iff.1 h
  obtain ⟨a1, a2, a3, a4, -⟩ := rt_iff.1 h1
  obtain ⟨b1, b2, b3, b4, -⟩ := rt_iff.1 h2
  rw [← h3] at b3 b4
  refine rt_iff.2 ⟨a1, a2, Nat.xor_lt_two_pow a3 b3, Nat.xor_lt_two_pow a4 b4, ?_, ?_⟩
  . show 0 <= mulPh a b
    unfold mulPh
    omega
  . show mulPh a b <= 3
    unfold mulPh
    omega
theorem P.ext' {a b : P} (h1 : a.n = b.n) (h2 : a.x = b.x) (h3 : a.z = b.z) (h4 : a.ph = b.ph) : a = b := by
  cases a; cases b; simp only at *; subst h1; subst h2; subst h3; subst h4; rfl
end Go.Proofs.YtllfplkefbhnfaaDoor.Pau
