import Derived.Test.YtpehekonjdneaaaDoorK1255b1c2
namespace Go.Proofs.YtpehekonjdneaaaDoor.Pau
open Go.RowKit
theorem bt_tb (x q : Nat) : bt x q = (x.testBit q).toNat := by
  unfold bt
  rw [Nat.testBit_eq_decide_div_mod_eq]
  rcases Nat.mod_two_eq_zero_or_one (x / 2 ^ q) with h | h <;> rw [h] <;> rfl
theorem bt_and (x y q : Nat) : bt (x &&& y) q = bt x q * bt y q := by
  rw [bt_tb, bt_tb, bt_tb, Nat.testBit_and]
  cases x.testBit q <;> cases y.testBit q <;> rfl
theorem bt_or (x y q : Nat) : bt (x ||| y) q = if bt x q = 0 /\ bt y q = 0 then 0 else 1 := by
  rw [bt_tb, bt_tb, bt_tb, Nat.testBit_or]
  cases x.testBit q <;> cases y.testBit q <;> rfl
theorem bt_xor (x y q : Nat) : bt (x ^^^ y) q = (bt x q + bt y q) % 2 := by
  rw [bt_tb, bt_tb, bt_tb, Nat.testBit_xor]
  cases x.testBit q <;> cases y.testBit q <;> rfl
theorem bt_small {x n : Nat} (h : x < 2 ^ n) {q : Nat} (hq : n <= q) : bt x q = 0 := by
  unfold bt
  rw [Nat.div_eq_of_lt (Nat.lt_of_lt_of_le h (Nat.pow_le_pow_right (by decide) hq))]
theorem small_iff {x n : Nat} (hx : x < 18446744073709551616) : x < 2 ^ n ↔ ∀ j, n <= j -> j < 64 -> bt x j = 0 := by
  refine ⟨fun h j hj _ => bt_small h hj, fun h => Nat.lt_pow_two_of_testBit _ (fun i hi => ?_)⟩
  by_cases h64 : i < 64
  . have := h i hi h64
    rw [bt_tb] at this
    cases hb : x.testBit i
    . rfl
    . rw [hb] at this; cases this
  . exact Nat.testBit_lt_two_pow (Nat.lt_of_lt_of_le hx (by rw [show (18446744073709551616 : Nat) = 2 ^ 64 from rfl]; exact Nat.pow_le_pow_right (by decide) (by omega)))
theorem bt_ext {x y : Nat} (h : ∀ q, bt x q = bt y q) : x = y := by
  refine Nat.eq_of_testBit_eq (fun i => ?_)
  have := h i
  rw [bt_tb, bt_tb] at this
  cases hx : x.testBit i <;> cases hy : y.testBit i <;> rw [hx, hy] at this <;> first | rfl | cases this
theorem sm_mod {f g : Nat -> Nat} (m : Nat) : ∀ n, (∀ q, q < n -> f q % m = g q % m) -> sm n f % m = sm n g % m
  | 0, _ => rfl
  | n + 1, h => by
    rw [sm, sm, Nat.add_mod, sm_mod m n (fun q hq => h q (by omega)), h n (by omega), ← Nat.add_mod]
def on (a b : Nat) : Nat := if a = 73 ∨ b = 73 ∨ a = b then 0 else if a = 88 /\ b = 89 ∨ a = 89 /\ b = 90 ∨ a = 90 /\ b = 88 then 1 else 3
def onq (a b : P) (q : Nat) : Nat := on (lt (bt a.x q) (bt a.z q)) (lt (bt b.x q) (bt b.z q))
theorem on_tab : ∀ u v u' v' : Fin 2, (2 * (v.1 * u'.1) + u.1 * v.1 + u'.1 * v'.1) % 4 = (on (lt u.1 v.1) (lt u'.1 v'.1) + (u.1 + u'.1) % 2 * ((v.1 + v'.1) % 2)) % 4 := by decide
theorem on_bits (a b : P) (q : Nat) : (2 * bt (a.z &&& b.x) q + bt (a.x &&& a.z) q + bt (b.x &&& b.z) q) % 4 = (onq a b q + bt ((a.x ^^^ b.x) &&& (a.z ^^^ b.z)) q) % 4 := by
  rw [bt_and, bt_and, bt_and, bt_and, bt_xor, bt_xor]
  exact on_tab ⟨bt a.x q, bt_lt _ _⟩ ⟨bt a.z q, bt_lt _ _⟩ ⟨bt b.x q, bt_lt _ _⟩ ⟨bt b.z q, bt_lt _ _⟩
theorem mulPh_eq (a b : P) : mulPh a b = (a.ph + b.ph + (sm 64 (onq a b) : Int)) % 4 := by
  have h := sm_mod 4 64 (fun q _ => on_bits a b q)
  rw [sm_add, sm_add, sm_add, sm_mul] at h
  unfold mulPh
  unfold pc
  omega
theorem onq_zero {a b : P} {q : Nat} (h1 : bt a.x q = 0) (h2 : bt a.z q = 0) : onq a b q = 0 := by
  unfold onq
  rw [h1, h2]
  rfl
theorem rt_iff {p : P} : rt p = true ↔ 0 <= p.n /\ p.n <= 64 /\ p.x < 2 ^ p.n.toNat /\ p.z < 2 ^ p.n.toNat /\ 0 <= p.ph /\ p.ph <= 3 := by
  unfold rt
  rw [decide_eq_true_eq]
theorem rt_wd {p : P} (h : rt p = true) : Wd p := by
  obtain ⟨h1, h2, h3, h4, -⟩ := rt_iff.1 h
  have e : 2 ^ p.n.toNat <= 2 ^ 64 := Nat.pow_le_pow_right (by decide) (by omega)
  exact ⟨Nat.lt_of_lt_of_le h3 e, Nat.lt_of_lt_of_le h4 e⟩
theorem fit_iff {a b : P} : fitP a b = true ↔ rt a = true /\ rt b = true /\ a.n = b.n := by
  unfold fitP
  simp only [Bool.and_eq_true, decide_eq_true_eq, and_assoc]
theorem mul_rt {a b : P} (h : fitP a b = true) : rt (mulP a b) = true := by
  obtain ⟨h1, h2, h3⟩ := fit_iff.1 h
  obtain ⟨a1, a2, a3, a4, -⟩ := rt_iff.1 h1
  obtain ⟨b1, b2, b3, b4, -⟩ := rt_iff.1 h2
  rw [← h3] at b3 b4
  refine rt_iff.2 ⟨a1, a2, Nat.xor_lt_two_pow a3 b3, Nat.xor_lt_two_pow a4 b4, ?_, ?_⟩
  . show 0 <= mulPh a b
    unfold mulPh
    omega
  . show mulPh a b <= 3
    unfold mulPh
    omega
theorem com_tab : ∀ u v u' v' : Fin 2, on (lt u.1 v.1) (lt u'.1 v'.1) % 4 = (on (lt u'.1 v'.1) (lt u.1 v.1) + 2 * (u.1 * v'.1 + v.1 * u'.1)) % 4 := by decide
theorem com_mul (a b : P) : mulPh a b = (mulPh b a + 2 * ((pc (a.x &&& b.z) + pc (a.z &&& b.x) : Nat) : Int)) % 4 := by
  have h : sm 64 (onq a b) % 4 = sm 64 (fun q => onq b a q + 2 * (bt (a.x &&& b.z) q + bt (a.z &&& b.x) q)) % 4 := sm_mod 4 64 (fun q _ => by
    rw [bt_and, bt_and]
    exact com_tab ⟨bt a.x q, bt_lt _ _⟩ ⟨bt a.z q, bt_lt _ _⟩ ⟨bt b.x q, bt_lt _ _⟩ ⟨bt b.z q, bt_lt _ _⟩)
  rw [sm_add, sm_mul, sm_add] at h
  rw [mulPh_eq, mulPh_eq]
  unfold pc
  omega
theorem P.ext' {a b : P} (h1 : a.n = b.n) (h2 : a.x = b.x) (h3 : a.z = b.z) (h4 : a.ph = b.ph) : a = b := by
  cases a; cases b; simp only at *; subst h1; subst h2; subst h3; subst h4; rfl
theorem com_iff {a b : P} (h : fitP a b = true) : comB a b = true ↔ mulP a b = mulP b a := by
  obtain ⟨h1, h2, h3⟩ := fit_iff.1 h
  have e := com_mul a b
  have r1 : 0 <= mulPh a b /\ mulPh a b < 4 := by unfold mulPh; omega
  have r2 : 0 <= mulPh b a /\ mulPh b a < 4 := by unfold mulPh; omega
  unfold comB
  rw [decide_eq_true_eq]
  constructor
  . intro hp
    refine P.ext' h3 (Nat.xor_comm _ _) (Nat.xor_comm _ _) ?_
    show mulPh a b = mulPh b a
    omega
  . intro hm
    have : mulPh a b = mulPh b a := congrArg P.ph hm
    omega
end Go.Proofs.YtpehekonjdneaaaDoor.Pau
namespace Go.Proofs.YtpehekonjdneaaaDoor.Pau
open Go.RowKit Go.Proofs.YtpehekonjdneaaaDoor.Gt
theorem letP_in {p : P} (h : rt p = true) {q : Nat} (hq : (q : Int) < p.n) : letP p (q : Int) = lt (bt p.x q) (bt p.z q) := by
  unfold letP
  rw [if_pos ⟨h, by omega, hq⟩, Int.toNat_natCast]
end Go.Proofs.YtpehekonjdneaaaDoor.Pau
