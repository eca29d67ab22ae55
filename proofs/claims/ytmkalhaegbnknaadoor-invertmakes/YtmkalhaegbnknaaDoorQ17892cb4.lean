import Derived.Test.YtmkalhaegbnknaaDoorQ2d9e8923
namespace Go.Proofs.YtmkalhaegbnknaaDoor.Cir
open Go.RowKit Go.Shelf Go.Proofs.YtmkalhaegbnknaaDoor.Oct Go.Proofs.YtmkalhaegbnknaaDoor.Tok Go.Proofs.YtmkalhaegbnknaaDoor.Gt
theorem rw_iv {k : Int} (h : 1 <= k /\ k <= 20) : knB (rw' (rw' k).v) = true /\ knB (rw' k) = true /\ (rw' (rw' k).v).q = (rw' k).q := by
  rcases k_twenty h with rfl | rfl | rfl | rfl | rfl | rfl | rfl | rfl | rfl | rfl | rfl | rfl | rfl | rfl | rfl | rfl | rfl | rfl | rfl | rfl <;> decide +kernel
theorem chk_kind {k k' : Int} (l : List Int) (n : Int) (h1 : knB (rw' k') = knB (rw' k)) (h2 : (rw' k').q = (rw' k).q) : chkP k' l n = chkP k l n := by
  unfold chkP
  rw [h1, h2]
theorem iv_zero : (rw' 0).v = 0 := by decide +kernel
theorem iv_may {q b : Int} {o : COp} (h : mayP q b o = true) : mayP q b (ivO o) = true := by
  rcases may_gt h with ⟨hk, h1, h2, -⟩ | ⟨hk, hg⟩
  . have e := rw_iv ⟨h1, h2⟩
    have : chkP (ivO o).gate (ivO o).qs q = chkP o.gate o.qs q := chk_kind (k := o.gate) (k' := (rw' o.gate).v) o.qs q (by rw [e.1, e.2.1]) e.2.2
    unfold mayP at h ⊢
    rw [if_pos hk] at h
    rw [if_pos (show (ivO o).kind = 1 from hk), this]
    exact h
  . have : ivO o = o := by
      unfold ivO
      rw [hg, iv_zero, ← hg]
    rw [this]
    exact h
theorem chk_of {c : Circ} (h1 : cntP c.q c.b = true) (h2 : c.ops.length <= 4096) (h3 : ∀ o ∈ c.ops, mayP c.q c.b o = true) : (chkC c).2 = 0 := by
  unfold chkC
  rw [h1, decide_eq_false (by omega), badI_none _ _ _ _ h3]
  rfl
theorem cnt_of {c : Circ} (h : (chkC c).2 = 0) : cntP c.q c.b = true := by
  unfold chkC at h
  cases hc : cntP c.q c.b with
  | true => rfl
  | false =>
    rw [hc] at h
    simp at h
theorem iv_chk {c : Circ} (h : (chkC c).2 = 0) : (chkC ⟨c.q, c.b, c.ops.reverse.map ivO⟩).2 = 0 := by
  have hk := chkC_ok h
  refine chk_of (c := ⟨c.q, c.b, c.ops.reverse.map ivO⟩) (cnt_of (c := c) h) (by simpa using hk.2.2.2.2.1) (fun o ho => ?_)
  simp only [List.mem_map, List.mem_reverse] at ho
  obtain ⟨o', ho', rfl⟩ := ho
  exact iv_may (hk.2.2.2.2.2 o' ho')
theorem mi_app (c : Circ) : miP c = if (ivP c).2 ≠ 0 then (nulC, (ivP c).2) else if (appP c (ivP c).1).2 ≠ 0 then (nulC, 170) else appP c (ivP c).1 := by
  unfold miP
  by_cases h : (ivP c).2 ≠ 0
  . rw [if_pos h, if_pos h]
  . rw [if_neg h, if_neg h]
    have hc : (chkC c).2 = 0 /\ c.ops.any unO = false := by
      unfold ivP at h
      split at h
      . simp at h
      . rename_i h1
        split at h
        . simp at h
        . rename_i h2
          exact ⟨by simpa using h1, by simpa using h2⟩
    have he : ivP c = (⟨c.q, c.b, c.ops.reverse.map ivO⟩, 0) := by
      unfold ivP
      rw [if_neg (by simp [hc.1]), if_neg (by simp [hc.2])]
    unfold appP
    rw [he]
    simp only [List.length_map, List.length_reverse, hc.1, iv_chk hc.1, true_and]
    by_cases hl : c.ops.length + c.ops.length <= 4096
    . rw [if_pos hl, if_neg (by omega)]
      simp [Int.max_self]
    . rw [if_neg hl, if_pos (by omega)]
      simp
end Go.Proofs.YtmkalhaegbnknaaDoor.Cir
