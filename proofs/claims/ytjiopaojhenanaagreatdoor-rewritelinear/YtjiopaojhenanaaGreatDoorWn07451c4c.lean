import Derived.Test.YtjiopaojhenanaaGreatDoorWnf9577ff7
import Derived.Lib.AppendIntMem
import Derived.Lib.ItoaLen
namespace Go.Proofs.YtjiopaojhenanaaGreatDoor.Gt
end Go.Proofs.YtjiopaojhenanaaGreatDoor.Gt
namespace Go.Proofs.YtjiopaojhenanaaGreatDoor.Oct
end Go.Proofs.YtjiopaojhenanaaGreatDoor.Oct
namespace Go.Proofs.YtjiopaojhenanaaGreatDoor.Tok
end Go.Proofs.YtjiopaojhenanaaGreatDoor.Tok
namespace Go.Proofs.YtjiopaojhenanaaGreatDoor.Cir
open Go.RowKit Go.Shelf Go.Proofs.YtjiopaojhenanaaGreatDoor.Oct Go.Proofs.YtjiopaojhenanaaGreatDoor.Tok Go.Proofs.YtjiopaojhenanaaGreatDoor.Gt
theorem wi_in {x n : Int} (h : wiP x n = true) : 0 <= x /\ x < n := by
  unfold wiP at h
  simpa using h
theorem badI_may (q b : Int) : ∀ (i : Nat) (l : List COp), badI q b i l = none -> ∀ o ∈ l, mayP q b o = true
  | _, [], _, o, ho => by cases ho
  | i, a :: r, h, o, ho => by
    rw [badI] at h
    split at h
    . rename_i ha
      rcases List.mem_cons.1 ho with rfl | ho
      . exact ha
      . exact badI_may q b (i + 1) r h o ho
    . cases h
theorem chkC_ok {c : Circ} (h : (chkC c).2 = 0) : 0 <= c.q /\ c.q <= 64 /\ 0 <= c.b /\ c.b <= 64 /\ c.ops.length <= 4096 /\ ∀ o ∈ c.ops, mayP c.q c.b o = true := by
  unfold chkC at h
  split at h
  . cases h
  . rename_i hn
    simp only [Bool.or_eq_true, Bool.not_eq_eq_eq_not, Bool.not_true, decide_eq_true_eq, not_or, Bool.not_eq_false] at hn
    unfold cntP at hn
    rw [Bool.and_eq_true] at hn
    have h1 := wi_in hn.1.1
    have h2 := wi_in hn.1.2
    split at h
    . cases h
    . rename_i hb
      exact ⟨h1.1, by omega, h2.1, by omega, by omega, badI_may _ _ _ _ hb⟩
theorem mxG_bd (l : List Int) (n : Int) : ∀ m, ¬ n <= mxG l m -> ∀ j, j <= m -> l.getD j 0 < n
  | 0, h, j, hj => by
    obtain rfl : j = 0 := by omega
    rw [mxG] at h
    omega
  | m + 1, h, j, hj => by
    rw [mxG] at h
    split at h
    . rename_i hlt
      by_cases e : j = m + 1
      . subst e
        omega
      . have := mxG_bd l (mxG l m + 1) m (by omega) j (by omega)
        omega
    . rename_i hge
      by_cases e : j = m + 1
      . subst e
        omega
      . exact mxG_bd l n m h j (by omega)
theorem apG_pos (l : List Int) : ∀ m i, apG l m i = true -> ∀ j, i <= j -> j < i + m -> 0 <= l.getD j 0
  | 0, i, _, j, h1, h2 => by omega
  | m + 1, i, h, j, h1, h2 => by
    rw [apG, Bool.and_eq_true, Bool.and_eq_true] at h
    by_cases e : j = i
    . subst e
      exact of_decide_eq_true h.1.1
    . exact apG_pos l m (i + 1) h.2 j (by omega) (by omega)
end Go.Proofs.YtjiopaojhenanaaGreatDoor.Cir
