import Derived.Test.YtpehekonjdneaaaDoorK5156c1b6
namespace Go.Proofs.YtpehekonjdneaaaDoor.Tbl
open Go.RowKit Go.Shelf Go.Proofs.YtpehekonjdneaaaDoor.Pau Go.Proofs.YtpehekonjdneaaaDoor.Gt
def prB' (t : TT) (i j : Nat) : Bool := comB (t.s.getD i oP) (t.s.getD j oP) && comB (t.d.getD i oP) (t.d.getD j oP) && (comB (t.d.getD i oP) (t.s.getD j oP) == decide (i ≠ j))
theorem sg_rr {t : TT} {N k : Nat} (hN : t.n = (N : Int)) (h : sg2 t k = true) : Rr N (t.s.getD k oP) /\ Rr N (t.d.getD k oP) := by
  unfold sg2 sgB at h
  simp only [Bool.and_eq_true, decide_eq_true_eq] at h
  exact ⟨⟨h.1.2.1, h.1.1.trans hN⟩, ⟨h.2.2.1, h.2.1.trans hN⟩⟩
theorem cm_eq {N : Nat} {a b : P} (ha : Rr N a) (hb : Rr N b) : cmB a b = comB a b := by
  unfold cmB
  rw [ha.fit hb, Bool.true_and]
theorem pr_same {t : TT} {N i j : Nat} (hN : t.n = (N : Int)) (hi : sg2 t i = true) (hj : sg2 t j = true) : prB t i j = prB' t i j := by
  obtain ⟨s1, d1⟩ := sg_rr hN hi
  obtain ⟨s2, d2⟩ := sg_rr hN hj
  unfold prB prB'
  rw [cm_eq s1 s2, cm_eq d1 d2, cm_eq d1 s2]
end Go.Proofs.YtpehekonjdneaaaDoor.Tbl
