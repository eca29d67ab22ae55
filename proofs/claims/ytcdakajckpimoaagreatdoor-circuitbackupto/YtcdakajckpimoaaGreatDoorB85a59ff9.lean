import Derived.Test.YtcdakajckpimoaaGreatDoorB1a5b74a7
namespace Go.Proofs.YtcdakajckpimoaaGreatDoor.Tok
open Go.RowKit Go.Shelf Go.Proofs.YtcdakajckpimoaaGreatDoor.Oct
theorem flat_at : ∀ (ts : List TA) (j : Nat) (t : TA), ts[j]? = some t -> ∀ i v, t.cells[i]? = some v -> (ts.flatMap TA.cells)[j * 6 + i]? = some v
  | [], j, t, h, _, _, _ => by simp at h
  | a :: r, 0, t, h, i, v, hv => by
    simp at h
    subst h
    rw [List.flatMap_cons, Nat.zero_mul, Nat.zero_add, List.getElem?_append_left ((List.getElem?_eq_some_iff.1 hv).1)]
    exact hv
  | a :: r, j + 1, t, h, i, v, hv => by
    simp only [List.getElem?_cons_succ] at h
    have hl : a.cells.length = 6 := rfl
    rw [List.flatMap_cons, List.getElem?_append_right (by omega), hl, show (j + 1) * 6 + i - 6 = j * 6 + i by omega]
    exact flat_at r j t h i v hv
end Go.Proofs.YtcdakajckpimoaaGreatDoor.Tok
