import Derived.Test.YtpehekonjdneaaaDoorK60636dd1
namespace Go.Proofs.YtpehekonjdneaaaDoor.Pau
open Go.RowKit Go.Shelf
theorem ass_tab : ∀ u v u' v' a b : Fin 2, (on (lt u.1 v.1) (lt u'.1 v'.1) + on (lt ((u.1 + u'.1) % 2) ((v.1 + v'.1) % 2)) (lt a.1 b.1)) % 4 = (on (lt u'.1 v'.1) (lt a.1 b.1) + on (lt u.1 v.1) (lt ((u'.1 + a.1) % 2) ((v'.1 + b.1) % 2))) % 4 := by decide
theorem mul_ass (a b c : P) : mulP (mulP a b) c = mulP a (mulP b c) := by
  refine P.ext' rfl (Nat.xor_assoc _ _ _) (Nat.xor_assoc _ _ _) ?_
  show mulPh (mulP a b) c = mulPh a (mulP b c)
  have h : sm 64 (fun q => onq a b q + onq (mulP a b) c q) % 4 = sm 64 (fun q => onq b c q + onq a (mulP b c) q) % 4 := sm_mod 4 64 (fun q _ => by
    unfold onq mulP
    simp only
    rw [bt_xor, bt_xor, bt_xor, bt_xor]
    exact ass_tab ⟨bt a.x q, bt_lt _ _⟩ ⟨bt a.z q, bt_lt _ _⟩ ⟨bt b.x q, bt_lt _ _⟩ ⟨bt b.z q, bt_lt _ _⟩ ⟨bt c.x q, bt_lt _ _⟩ ⟨bt c.z q, bt_lt _ _⟩)
  rw [sm_add, sm_add] at h
  rw [mulPh_eq, mulPh_eq]
  show (mulPh a b + c.ph + _) % 4 = (a.ph + mulPh b c + _) % 4
  rw [mulPh_eq, mulPh_eq]
  omega
end Go.Proofs.YtpehekonjdneaaaDoor.Pau
