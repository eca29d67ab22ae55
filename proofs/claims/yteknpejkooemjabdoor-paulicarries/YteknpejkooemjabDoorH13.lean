/- The document's Weight, Inverse, Mul, as they are walked. -/
import Derived.Test.YteknpejkooemjabDoorG13
namespace Go.Proofs.YteknpejkooemjabDoor.Pau
open Go.RowKit Go.Proofs.YteknpejkooemjabDoor.Gt

def nz (p : P) (j : Nat) : Nat := if letP p (j : Int) = 0 ∨ letP p (j : Int) = 73 then 0 else 1
theorem lt_ne (u v : Nat) : lt u v ≠ 0 := by unfold lt; (repeat' split) <;> decide
theorem letP_in {p : P} (h : rt p = true) {q : Nat} (hq : (q : Int) < p.n) : letP p (q : Int) = lt (bt p.x q) (bt p.z q) := by
  unfold letP
  rw [if_pos ⟨h, by omega, hq⟩, Int.toNat_natCast]
theorem letP_out {p : P} {q : Nat} (hq : ¬ (rt p = true ∧ (q : Int) < p.n)) : letP p (q : Int) = 0 := by
  unfold letP
  rw [if_neg (fun g => hq ⟨g.1, g.2.2⟩)]
theorem nz_sum (p : P) : sm 64 (nz p) = if rt p = true then pc (p.x ||| p.z) else 0 := by
  by_cases h : rt p = true
  · rw [if_pos h]
    obtain ⟨a1, a2, a3, a4, -⟩ := rt_iff.1 h
    refine sm_congr 64 (fun q _ => ?_)
    rw [weight_cut]
    unfold nz
    by_cases hq : (q : Int) < p.n
    · rw [letP_in h hq]
      have := lt_ne (bt p.x q) (bt p.z q)
      by_cases e : lt (bt p.x q) (bt p.z q) = 73
      · rw [if_pos e, if_pos (.inr e)]
      · rw [if_neg e, if_neg (by omega)]
    · rw [letP_out (fun g => hq g.2), if_pos (.inl rfl), bt_small a3 (by omega), bt_small a4 (by omega)]
      rfl
  · rw [if_neg h]
    refine sm_zero 64 (fun q _ => ?_)
    unfold nz
    rw [letP_out (fun g => h g.1), if_pos (.inl rfl)]
end Go.Proofs.YteknpejkooemjabDoor.Pau
