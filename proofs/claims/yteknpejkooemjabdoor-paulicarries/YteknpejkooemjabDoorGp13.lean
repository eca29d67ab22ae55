/- Pure: strings are a group. -/
import Derived.Test.YteknpejkooemjabDoorZp13
namespace Go.Proofs.YteknpejkooemjabDoor.Pau
open Go.RowKit Go.Shelf

theorem ass_tab : ∀ u v u' v' a b : Fin 2, (on (lt u.1 v.1) (lt u'.1 v'.1) + on (lt ((u.1 + u'.1) % 2) ((v.1 + v'.1) % 2)) (lt a.1 b.1)) % 4 = (on (lt u'.1 v'.1) (lt a.1 b.1) + on (lt u.1 v.1) (lt ((u'.1 + a.1) % 2) ((v'.1 + b.1) % 2))) % 4 := by decide
theorem mul_ass (a b c : P) : mulP (mulP a b) c = mulP a (mulP b c) := by
  refine P.ext' rfl (Nat.xor_assoc _ _ _) (Nat.xor_assoc _ _ _) ?_
  show mulPh (mulP a b) c = mulPh a (mulP b c)
  have h : sm 64 (fun q => onq a b q + onq (mulP a b) c q) % 4 = sm 64 (fun q => onq b c q + onq a (mulP b c) q) % 4 := sm_mod 4 64 (fun q _ => by
    unfold onq mulP
    simp only
    rw [bt_xor, bt_xor, bt_xor, bt_xor]
    exact ass_tab ⟨bt a.x q, bt_lt _ _⟩ ⟨bt a.z q, bt_lt _ _⟩ ⟨bt b.x q, bt_lt _ _⟩ ⟨bt b.z q, bt_lt _ _⟩ ⟨bt c.x q, bt_lt _ _⟩ ⟨bt c.z q, bt_lt _ _⟩)
  rw [sm_add, sm_add] at h
  rw [mulPh_eq, mulPh_eq]
  show (mulPh a b + c.ph + _) % 4 = (a.ph + mulPh b c + _) % 4
  rw [mulPh_eq, mulPh_eq]
  omega
theorem mul_inv {a : P} : mulP a (invP a) = ⟨a.n, 0, 0, 0⟩ := by
  refine P.ext' rfl (Nat.xor_self _) (Nat.xor_self _) ?_
  show mulPh a (invP a) = 0
  rw [mulPh_eq, sm_zero 64 (fun q _ => by
    unfold onq invP on
    simp only
    exact if_pos (.inr (.inr trivial)))]
  show (a.ph + (-a.ph) % 4 + 0) % 4 = 0
  omega
theorem inv_rt {a : P} (h : rt a = true) : rt (invP a) = true := by
  obtain ⟨h1, h2, h3, h4, -⟩ := rt_iff.1 h
  exact rt_iff.2 ⟨h1, h2, h3, h4, by show 0 ≤ (-a.ph) % 4; omega, by show (-a.ph) % 4 ≤ 3; omega⟩
/-- What a product turned round has more. -/
theorem mul_back {a b : P} (h : fitP a b = true) : (comB a b = true → mulP a b = mulP b a) ∧ (comB a b = false → mulP a b = ⟨(mulP b a).n, (mulP b a).x, (mulP b a).z, ((mulP b a).ph + 2) % 4⟩) := by
  refine ⟨fun g => (com_iff h).1 g, fun g => ?_⟩
  obtain ⟨-, -, h3⟩ := fit_iff.1 h
  unfold comB at g
  have g' := of_decide_eq_false g
  refine P.ext' h3 (Nat.xor_comm _ _) (Nat.xor_comm _ _) ?_
  show mulPh a b = (mulPh b a + 2) % 4
  have e := com_mul a b
  have r2 : 0 ≤ mulPh b a ∧ mulPh b a < 4 := by unfold mulPh; omega
  omega
theorem rd_ltr {f : UInt8 → Nat} (hf : ∀ b, f b ≤ 1) (p : P) (y m : Nat) (hy : y < 2 ^ m) (he : ∀ q, f (UInt8.ofNat (lt (bt p.x q) (bt p.z q))) = bt y q) : rd f (ltr p m) m = y := by
  refine bt_ext (fun q => ?_)
  by_cases hq : q < m
  · rw [bt_rd hf _ m q hq, ← he q]
    congr 1
    unfold ltr
    rw [List.getD_eq_getElem?_getD, List.getElem?_map, List.getElem?_range hq]
    rfl
  · rw [bt_small (rd_lt hf _ m) (by omega), bt_small hy (by omega)]
/-- Texts there and back. -/
theorem par_prt {a : P} (h : rt a = true) : parR (prt a) = (a, 0) := by
  obtain ⟨h1, h2, h3, h4, h5, h6⟩ := rt_iff.1 h
  have hok := ltr_ok a a.n.toNat
  have hc := cut_sg (k := a.ph.toNat) (by omega) (head_ok hok)
  unfold parR
  rw [show prt a = sg a.ph.toNat ++ ltr a a.n.toNat from rfl, hc]
  simp only
  rw [if_neg (by
    rintro (g | g | g)
    · omega
    · rw [ltr_len] at g; omega
    · rw [hok] at g; cases g)]
  congr 1
  rw [ltr_len]
  refine P.ext' (by show ((a.n.toNat : Nat) : Int) = a.n; omega) ?_ ?_ (by show ((a.ph.toNat : Nat) : Int) = a.ph; omega)
  · exact rd_ltr cx_le a a.x _ h3 (fun q => (lt_is _ _ (bt_lt _ _) (bt_lt _ _)).2.1)
  · exact rd_ltr cz_le a a.z _ h4 (fun q => (lt_is _ _ (bt_lt _ _) (bt_lt _ _)).2.2)
theorem fit_ass {a b c : P} (h1 : fitP a b = true) (h2 : fitP b c = true) : fitP (mulP a b) c = true ∧ fitP a (mulP b c) = true := by
  obtain ⟨a1, a2, a3⟩ := fit_iff.1 h1
  obtain ⟨b1, b2, b3⟩ := fit_iff.1 h2
  exact ⟨fit_iff.2 ⟨mul_rt h1, b2, a3.trans b3⟩, fit_iff.2 ⟨a1, mul_rt h2, a3⟩⟩
theorem fit_inv {a : P} (h : rt a = true) : fitP a (invP a) = true := fit_iff.2 ⟨h, inv_rt h, rfl⟩
theorem inv_wd {a : P} (h : Wd a) : Wd (invP a) := h
theorem mulP_wd {a b : P} (ha : Wd a) (hb : Wd b) : Wd (mulP a b) := ⟨Nat.xor_lt_two_pow (n := 64) ha.1 hb.1, Nat.xor_lt_two_pow (n := 64) ha.2 hb.2⟩
end Go.Proofs.YteknpejkooemjabDoor.Pau
