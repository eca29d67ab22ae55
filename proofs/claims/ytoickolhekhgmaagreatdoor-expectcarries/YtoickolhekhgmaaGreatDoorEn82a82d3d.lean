import Derived.Test.YtoickolhekhgmaaGreatDoorEn61845900
import Derived.Test.YtoickolhekhgmaaGreatDoorEn80285c39
namespace Go.Proofs.YtoickolhekhgmaaGreatDoor.Gt
end Go.Proofs.YtoickolhekhgmaaGreatDoor.Gt
namespace Go.Proofs.YtoickolhekhgmaaGreatDoor.Pau
end Go.Proofs.YtoickolhekhgmaaGreatDoor.Pau
namespace Go.Proofs.YtoickolhekhgmaaGreatDoor.Tbl
open Go.RowKit Go.Shelf Go.Proofs.YtoickolhekhgmaaGreatDoor.Pau Go.Proofs.YtoickolhekhgmaaGreatDoor.Gt
structure Tg (w : World) : Prop where
  tb : Tb w
  ts : Ts w
  ti : Ti w
theorem Tg.below {w w' : World} (h : Tg w) (hb : Below w.heap.size w w') : Tg w' := ⟨h.tb.below hb, h.ts.below hb, h.ti.below hb⟩
theorem wd_thr (k : Int) (l : List Int) {p : P} (hp : Wd p) : Wd (thrR k l p).1 := by
  unfold thrR
  split
  . rename_i hf
    unfold thrOk at hf
    rw [Bool.and_eq_true, Bool.and_eq_true, decide_eq_true_eq] at hf
    obtain ⟨⟨h1, h2⟩, h3⟩ := hf
    obtain ⟨k1, k2, k3⟩ := cl_rng h2
    have hn := (rt_iff.1 h1).2.1
    obtain ⟨e1, e2⟩ := chk_qs h3 (by rw [k3]; split <;> omega) hn (by rw [k3]; split <;> omega)
    exact thf_wd _ _ e2.1 hp _
  . exact wd_o
def Rr (N : Nat) (p : P) : Prop := rt p = true /\ p.n = (N : Int)
theorem Rr.wd {N : Nat} {p : P} (h : Rr N p) : Wd p := by
  obtain ⟨h1, h2⟩ := h
  obtain ⟨a, b, c, d, -⟩ := rt_iff.1 h1
  have hp : 2 ^ p.n.toNat <= 2 ^ 64 := Nat.pow_le_pow_right (by decide) (by omega)
  have e : (2 : Nat) ^ 64 = 18446744073709551616 := by decide
  exact ⟨by omega, by omega⟩
theorem Rr.fit {N : Nat} {a b : P} (ha : Rr N a) (hb : Rr N b) : fitP a b = true := fit_iff.2 ⟨ha.1, hb.1, ha.2.trans hb.2.symm⟩
theorem Rr.pd {N : Nat} {a b : P} (ha : Rr N a) (hb : Rr N b) : pdP a b = mulP a b /\ Rr N (pdP a b) := by
  have hf := ha.fit hb
  have e : pdP a b = mulP a b := by unfold pdP mulR; rw [if_pos hf]
  rw [e]
  exact ⟨rfl, mul_rt hf, ha.2⟩
end Go.Proofs.YtoickolhekhgmaaGreatDoor.Tbl
