import Derived.Test.YtbdphifecjigmaaGreatDoorRn874d2ee3
namespace Go.Proofs.YtbdphifecjigmaaGreatDoor.Gt
end Go.Proofs.YtbdphifecjigmaaGreatDoor.Gt
namespace Go.Proofs.YtbdphifecjigmaaGreatDoor.Oct
end Go.Proofs.YtbdphifecjigmaaGreatDoor.Oct
namespace Go.Proofs.YtbdphifecjigmaaGreatDoor.Tok
end Go.Proofs.YtbdphifecjigmaaGreatDoor.Tok
namespace Go.Proofs.YtbdphifecjigmaaGreatDoor.Cir
open Go.RowKit Go.Shelf Go.Proofs.YtbdphifecjigmaaGreatDoor.Oct Go.Proofs.YtbdphifecjigmaaGreatDoor.Tok Go.Proofs.YtbdphifecjigmaaGreatDoor.Gt
theorem wi_in {x n : Int} (h : wiP x n = true) : 0 <= x /\ x < n := by
  unfold wiP at h
  simpa using h
theorem badI_may (q b : Int) : ∀ (i : Nat) (l : List COp), badI q b i l = none -> ∀ o ∈ l, mayP q b o = true
  | _, [], _, o, ho => by cases ho
  | i, a :: r, h, o, ho => by
    rw [badI] at h
    split at h
    . rename_i ha
      rcases List.mem_cons.1 ho with rfl | ho
      . exact ha
      . exact badI_may q b (i + 1) r h o ho
    . cases h
theorem chkC_ok {c : Circ} (h : (chkC c).2 = 0) : 0 <= c.q /\ c.q <= 64 /\ 0 <= c.b /\ c.b <= 64 /\ c.ops.length <= 4096 /\ ∀ o ∈ c.ops, mayP c.q c.b o = true := by
  unfold chkC at h
  split at h
  . cases h
  . rename_i hn
    simp only [Bool.or_eq_true, Bool.not_eq_eq_eq_not, Bool.not_true, decide_eq_true_eq, not_or, Bool.not_eq_false] at hn
    unfold cntP at hn
    rw [Bool.and_eq_true] at hn
    have h1 := wi_in hn.1.1
    have h2 := wi_in hn.1.2
    split at h
    . cases h
    . rename_i hb
      exact ⟨h1.1, by omega, h2.1, by omega, by omega, badI_may _ _ _ _ hb⟩
theorem nodup_len : ∀ (n : Nat) (l : List Int), l.Nodup -> (∀ x ∈ l, 0 <= x /\ x < (n : Int)) -> l.length <= n
  | 0, [], _, _ => Nat.le_refl _
  | 0, a :: r, _, h => by have := h a (by simp); omega
  | n + 1, l, hd, h => by
    have h1 := nodup_len n (l.erase (n : Int)) (hd.erase _) (fun x hx => by
      have hm := (hd.mem_erase_iff).1 hx
      have := h x hm.2
      have hne := hm.1
      omega)
    have h2 := List.length_erase (a := (n : Int)) (l := l)
    split at h2 <;> omega
theorem mxG_bd (l : List Int) (n : Int) : ∀ m, ¬ n <= mxG l m -> ∀ j, j <= m -> l.getD j 0 < n
  | 0, h, j, hj => by
    obtain rfl : j = 0 := by omega
    rw [mxG] at h
    omega
  | m + 1, h, j, hj => by
    rw [mxG] at h
    split at h
    . rename_i hlt
      by_cases e : j = m + 1
      . subst e
        omega
      . have := mxG_bd l (mxG l m + 1) m (by omega) j (by omega)
        omega
    . rename_i hge
      by_cases e : j = m + 1
      . subst e
        omega
      . exact mxG_bd l n m h j (by omega)
theorem apG_pos (l : List Int) : ∀ m i, apG l m i = true -> ∀ j, i <= j -> j < i + m -> 0 <= l.getD j 0
  | 0, i, _, j, h1, h2 => by omega
  | m + 1, i, h, j, h1, h2 => by
    rw [apG, Bool.and_eq_true, Bool.and_eq_true] at h
    by_cases e : j = i
    . subst e
      exact of_decide_eq_true h.1.1
    . exact apG_pos l m (i + 1) h.2 j (by omega) (by omega)
theorem rw_q3 (g : Int) : (rw' g).q <= 3 := by
  unfold rw'
  split
  . rename_i h
    have key : ∀ j : Fin 21, (tab.getD j.1 r0).q <= 3 := by decide +kernel
    have := key ⟨g.toNat, by omega⟩
    simpa using this
  . decide
theorem chk_ok64 (k : Int) (l : List Int) (n : Int) (h0 : 0 <= n) (hn : n <= 64) (h : chkP k l n = 0) : l.length <= 64 /\ ∀ z ∈ l, In64 z := by
  unfold chkP at h
  split at h
  . cases h
  . split at h
    . cases h
    . rename_i ha
      split at h
      . cases h
      . rename_i hm
        have ha' : apP (rw' k).q l = true := by simpa using ha
        unfold apP at ha'
        rw [Bool.and_eq_true, decide_eq_true_eq] at ha'
        have hq := rw_q3 k
        refine ⟨by omega, fun z hz => ?_⟩
        obtain ⟨j, hj, rfl⟩ := List.getElem_of_mem hz
        have e : l[j] = l.getD j 0 := by simp [List.getD, List.getElem?_eq_getElem hj]
        have a1 := apG_pos l l.length 0 ha'.2 j (by omega) (by omega)
        have a2 := mxG_bd l n _ hm j (by omega)
        rw [e]
        unfold In64
        omega
theorem may_in {q b : Int} {o : COp} (hq0 : 0 <= q) (hq : q <= 64) (hb : b <= 64) (h : mayP q b o = true) : o.qs.length <= 64 /\ (∀ z ∈ o.qs, In64 z) /\ In64 o.bit /\ In64 o.cond /\ In64 o.whn := by
  have hap : apaP o.qs q = true -> o.qs.length <= 64 /\ ∀ z ∈ o.qs, In64 z := fun h => by
    unfold apaP at h
    rw [Bool.and_eq_true, decide_eq_true_eq, List.all_eq_true] at h
    refine ⟨nodup_len 64 _ h.1 (fun x hx => ?_), fun z hz => ?_⟩
    . have := wi_in (h.2 x hx); omega
    . have := wi_in (h.2 z hz); unfold In64; omega
  have hfr : freeP o = true -> In64 o.cond /\ In64 o.whn := fun h => by
    unfold freeP at h
    simp only [Bool.and_eq_true, decide_eq_true_eq] at h
    unfold In64
    omega
  have hng : noGP o = true -> In64 o.cond /\ In64 o.whn := fun h => by
    unfold noGP at h
    rw [Bool.and_eq_true] at h
    exact hfr h.2
  have z64 : In64 0 := by unfold In64; omega
  unfold mayP at h
  split at h
  . simp only [Bool.and_eq_true, decide_eq_true_eq, Bool.or_eq_true] at h
    obtain ⟨⟨h1, h2⟩, h3⟩ := h
    have h4 : o.qs.length <= 64 /\ ∀ z ∈ o.qs, In64 z := by
      have := chk_ok64 o.gate o.qs q hq0 hq h1
      exact this
    refine ⟨h4.1, h4.2, by rw [h2]; exact z64, ?_⟩
    rcases h3 with h3 | h3
    . exact hfr h3
    . unfold askP at h3
      rw [Bool.and_eq_true] at h3
      have a1 := wi_in h3.1
      have a2 := wi_in h3.2
      unfold In64
      omega
  . split at h
    . simp only [Bool.and_eq_true] at h
      have h4 := hap h.1.2
      have h5 := wi_in h.2
      exact ⟨h4.1, h4.2, by unfold In64; omega, hng h.1.1.1⟩
    . split at h
      . simp only [Bool.and_eq_true, decide_eq_true_eq] at h
        have h4 := hap h.1.2
        exact ⟨h4.1, h4.2, by rw [h.2]; exact z64, hng h.1.1.1⟩
      . split at h
        . simp only [Bool.and_eq_true, decide_eq_true_eq] at h
          have h4 := hap h.1.2
          exact ⟨h4.1, h4.2, by rw [h.2]; exact z64, hng h.1.1.1⟩
        . cases h
end Go.Proofs.YtbdphifecjigmaaGreatDoor.Cir
