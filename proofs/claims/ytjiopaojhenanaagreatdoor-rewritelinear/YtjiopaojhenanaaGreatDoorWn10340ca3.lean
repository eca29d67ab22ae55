import Derived.Test.YtjiopaojhenanaaGreatDoorWn3ad591bb
import Derived.Stop.Asserts
import Derived.StillTail
import Derived.Test.YtjiopaojhenanaaGreatDoorWn07451c4c
namespace Go.Proofs.YtjiopaojhenanaaGreatDoor.Gt
end Go.Proofs.YtjiopaojhenanaaGreatDoor.Gt
namespace Go.Proofs.YtjiopaojhenanaaGreatDoor.Oct
end Go.Proofs.YtjiopaojhenanaaGreatDoor.Oct
namespace Go.Proofs.YtjiopaojhenanaaGreatDoor.Tok
end Go.Proofs.YtjiopaojhenanaaGreatDoor.Tok
namespace Go.Proofs.YtjiopaojhenanaaGreatDoor.Cir
open Go.RowKit Go.Shelf Go.Proofs.YtjiopaojhenanaaGreatDoor.Oct Go.Proofs.YtjiopaojhenanaaGreatDoor.Tok Go.Proofs.YtjiopaojhenanaaGreatDoor.Gt
theorem chk_rng (k : Int) (l : List Int) (n : Int) (h : chkP k l n = 0) : ∀ z ∈ l, 0 <= z /\ z < n := by
  unfold chkP at h
  split at h
  . cases h
  . split at h
    . cases h
    . rename_i ha
      split at h
      . cases h
      . rename_i hm
        have ha' : apP (rw' k).q l = true := by simpa using ha
        unfold apP at ha'
        rw [Bool.and_eq_true, decide_eq_true_eq] at ha'
        intro z hz
        obtain ⟨j, hj, rfl⟩ := List.getElem_of_mem hz
        have e : l[j] = l.getD j 0 := by simp [List.getD, List.getElem?_eq_getElem hj]
        have a1 := apG_pos l l.length 0 ha'.2 j (by omega) (by omega)
        have a2 := mxG_bd l n _ hm j (by omega)
        rw [e]
        exact ⟨a1, a2⟩
theorem may_rng {q b : Int} {o : COp} (h : mayP q b o = true) : (∀ z ∈ o.qs, 0 <= z /\ z < q) /\ (o.kind = 2 -> 0 <= o.bit /\ o.bit < b) /\ (o.cond ≠ -1 -> 0 <= o.cond /\ o.cond < b) := by
  have hap : apaP o.qs q = true -> ∀ z ∈ o.qs, 0 <= z /\ z < q := fun h z hz => by
    unfold apaP at h
    rw [Bool.and_eq_true, List.all_eq_true] at h
    exact wi_in (h.2 z hz)
  have hng : noGP o = true -> o.cond = -1 := fun h => by
    unfold noGP freeP at h
    simp only [Bool.and_eq_true, decide_eq_true_eq] at h
    exact h.2.1
  unfold mayP at h
  split at h
  . rename_i hk
    simp only [Bool.and_eq_true, decide_eq_true_eq, Bool.or_eq_true] at h
    obtain ⟨⟨h1, h2⟩, h3⟩ := h
    refine ⟨chk_rng _ _ _ h1, fun e => by omega, fun e => ?_⟩
    rcases h3 with h3 | h3
    . unfold freeP at h3
      simp only [Bool.and_eq_true, decide_eq_true_eq] at h3
      exact absurd h3.1 e
    . unfold askP at h3
      rw [Bool.and_eq_true] at h3
      exact wi_in h3.1
  . split at h
    . simp only [Bool.and_eq_true, decide_eq_true_eq] at h
      obtain ⟨⟨⟨h1, h2⟩, h3⟩, h4⟩ := h
      exact ⟨hap h3, fun _ => wi_in h4, fun e => absurd (hng h1) e⟩
    . rename_i hk2
      split at h
      . simp only [Bool.and_eq_true, decide_eq_true_eq] at h
        obtain ⟨⟨⟨h1, h2⟩, h3⟩, h4⟩ := h
        exact ⟨hap h3, fun e => absurd e hk2, fun e => absurd (hng h1) e⟩
      . split at h
        . simp only [Bool.and_eq_true, decide_eq_true_eq] at h
          obtain ⟨⟨⟨h1, h2⟩, h3⟩, h4⟩ := h
          exact ⟨hap h3, fun e => absurd e hk2, fun e => absurd (hng h1) e⟩
        . cases h
end Go.Proofs.YtjiopaojhenanaaGreatDoor.Cir
