/- Layer 20, pure: both reckonings of how far places are away come to the same. -/
import Derived.Test.YtipceoeihiaieaaDoorAi20
namespace Go.Proofs.YtipceoeihiaieaaDoor.Rou

theorem st1_wk {N s a b f : Nat} {ps : List Pr} {r : List Int} (hl : r.length = N) (hb : b < N) (ha : a < N) (he : Ed ps a b) (h : ∀ k, k < N → 0 ≤ r.getD k 0 → Wk ps f (r.getD k 0).toNat k) : ∀ k, k < N → 0 ≤ (st1 s a b r).getD k 0 → Wk ps f ((st1 s a b r).getD k 0).toNat k := by
  intro k hk h0
  unfold st1 at *
  split at h0
  · next hc =>
    rw [if_pos hc]
    rw [gset _ _ _ _ (by rw [hl]; exact hb)] at h0 ⊢
    split
    · next e =>
      subst e
      have h1 := h a ha (by omega)
      rw [hc.1] at h1
      rw [show ((s : Int) + 1).toNat = s + 1 by omega]
      rw [show ((s : Int)).toNat = s by omega] at h1
      exact .succ h1 he
    · next e =>
      rw [if_neg e] at h0
      exact h k hk h0
  · next hc =>
    rw [if_neg hc]
    exact h k hk h0
theorem stI_wk {N s f : Nat} {ps : List Pr} {r : List Int} (hv : Vl N ps) (hl : r.length = N) (h : ∀ k, k < N → 0 ≤ r.getD k 0 → Wk ps f (r.getD k 0).toNat k) : ∀ t, t ≤ ps.length → ∀ k, k < N → 0 ≤ (stI s ps r t).getD k 0 → Wk ps f ((stI s ps r t).getD k 0).toNat k
  | 0, _ => h
  | t + 1, ht => by
    have hp : ps[t]? = some (ps.getD t (0, 0)) := by simp [List.getD, List.getElem?_eq_getElem (show t < ps.length by omega)]
    have hm := List.mem_of_getElem? hp
    obtain ⟨h1, h2, h3, h4⟩ := hv _ hm
    have e1 : (((ps.getD t (0, 0)).1.toNat : Nat) : Int) = (ps.getD t (0, 0)).1 := Int.toNat_of_nonneg h1
    have e2 : (((ps.getD t (0, 0)).2.toNat : Nat) : Int) = (ps.getD t (0, 0)).2 := Int.toNat_of_nonneg h3
    have hab : Ed ps (ps.getD t (0, 0)).1.toNat (ps.getD t (0, 0)).2.toNat := .inl (by rw [e1, e2]; exact hm)
    have hba : Ed ps (ps.getD t (0, 0)).2.toNat (ps.getD t (0, 0)).1.toNat := .inr (by rw [e1, e2]; exact hm)
    have ih := stI_wk hv hl h t (by omega) (s := s)
    have hl2 : (stI s ps r t).length = N := by rw [stI_len, hl]
    simp only [stI, stP]
    exact st1_wk (by rw [st1_len]; exact hl2) (by omega) (by omega) hba (st1_wk hl2 (by omega) (by omega) hab ih)
theorem dS_zero {N f : Nat} {ps : List Pr} (hf : f < N) (k : Nat) (hk : k < N) : (dS N ps f 0).getD k 0 = if k = f then 0 else -1 := by
  show ((List.replicate N (-1 : Int)).set f 0).getD k 0 = _
  rw [gset _ _ _ _ (by simpa using hf)]
  split
  · rfl
  · simp [List.getD, hk]
theorem dS_wk {N f : Nat} {ps : List Pr} (hv : Vl N ps) (hf : f < N) : ∀ s, ∀ k, k < N → 0 ≤ (dS N ps f s).getD k 0 → Wk ps f ((dS N ps f s).getD k 0).toNat k
  | 0 => fun k hk h0 => by
    rw [dS_zero hf k hk] at h0 ⊢
    split
    · next e => subst e; exact .zero
    · next e => rw [if_neg e] at h0; omega
  | s + 1 => fun k hk h0 => stI_wk hv (dS_len N ps f s) (dS_wk hv hf s) ps.length (Nat.le_refl _) k hk h0
theorem DI.ri {N s : Nat} {ps : List Pr} {f : Nat} {r : List Int} (hv : Vl N ps) (h : DI N s ps f r) : RI N s ps f r (stI s ps r ps.length) :=
  (RI.all hv ⟨h.len, fun _ _ _ => rfl, fun k hk h0 => .inl ((h.val k hk).resolve_right (by omega)), h.snd, .inl rfl⟩ ps.length (Nat.le_refl _)).1
theorem dS_org {N f : Nat} {ps : List Pr} (hv : Vl N ps) (hf : f < N) : ∀ s, (dS N ps f s).getD f 0 = 0
  | 0 => by rw [dS_zero hf f hf, if_pos rfl]
  | s + 1 => by
    have h := (DI.all hv hf s).ri hv
    have ih := dS_org hv hf s
    exact (h.keep f hf (by rw [ih]; exact Int.le_refl _)).trans ih
theorem dS_cov {N f : Nat} {ps : List Pr} (hv : Vl N ps) (hf : f < N) : ∀ s, ∀ a b, a < N → b < N → Ed ps a b → 0 ≤ (dS N ps f s).getD a 0 → (dS N ps f s).getD a 0 < (s : Int) → (dS N ps f s).getD b 0 ≤ (dS N ps f s).getD a 0 + 1
  | 0 => fun a b ha hb he h0 h1 => by omega
  | s + 1 => fun a b ha hb he h0 h1 => by
    have hD := DI.all hv hf s (N := N) (ps := ps) (f := f)
    have hD' := DI.all hv hf (s + 1) (N := N) (ps := ps) (f := f)
    have hR := hD.ri hv
    have ih := dS_cov hv hf s a b ha hb he
    change RI N s ps f (dS N ps f s) (dS N ps f (s + 1)) at hR
    have hb2 := hD'.val b hb
    generalize dS N ps f (s + 1) = r' at *
    generalize dS N ps f s = r at *
    have hpa : 0 ≤ r.getD a 0 ∧ r'.getD a 0 = r.getD a 0 := by
      rcases Int.lt_or_le (r.getD a 0) 0 with h3 | h3
      · rcases hR.new a ha h3 with e | e <;> omega
      · exact ⟨h3, hR.keep a ha h3⟩
    by_cases e : r.getD a 0 = (s : Int)
    · rcases hb2 with h4 | h4 <;> omega
    · have h5 := hD.cov a b ha hb he hpa.1 (by omega)
      have h6 := hR.keep b hb h5
      have h7 := ih hpa.1 (by omega)
      omega
/-- No walk is shorter than what the document's row tells. -/
theorem dRow_least {N f : Nat} {ps : List Pr} (hv : Vl N ps) (hf : f < N) : ∀ {m k : Nat}, Wk ps f m k → k < N ∧ 0 ≤ (dRow N ps f).getD k 0 ∧ (dRow N ps f).getD k 0 ≤ (m : Int) := by
  have h := DI.all hv hf N (N := N) (ps := ps) (f := f)
  have hp : ∀ k, k < N → 0 ≤ (dS N ps f N).getD k 0 → (dS N ps f N).getD k 0 < (N : Int) := by
    rcases h.prg with e | e
    · exact e
    · have := cn_le (dS N ps f N)
      rw [h.len] at this
      omega
  intro m k hw
  show k < N ∧ 0 ≤ (dS N ps f N).getD k 0 ∧ (dS N ps f N).getD k 0 ≤ (m : Int)
  induction hw with
  | zero => rw [dS_org hv hf N]; exact ⟨hf, Int.le_refl _, Int.le_refl _⟩
  | @succ n a b hw e ih =>
    have hb : b < N := by
      rcases e with e | e
      · have := hv _ e; simp only at this; omega
      · have := hv _ e; simp only at this; omega
    have h1 := hp a ih.1 ih.2.1
    have h2 := h.cov a b ih.1 hb e ih.2.1 h1
    have h3 := dS_cov hv hf N a b ih.1 hb e ih.2.1 h1
    exact ⟨hb, h2, by have := ih.2.2; omega⟩
theorem dRow_wk {N f : Nat} {ps : List Pr} (hv : Vl N ps) (hf : f < N) (k : Nat) (hk : k < N) (h : 0 ≤ (dRow N ps f).getD k 0) : Wk ps f ((dRow N ps f).getD k 0).toNat k := dS_wk hv hf N k hk h
/-- Program and document reckon alike. -/
theorem far_eq {N f : Nat} {ps : List Pr} {L : Nat → List Pr} {far : List Int} {q : List Nat} (hN : N ≤ 64) (hf : f < N) (hv : Vl N ps) (hL : LP N ps L) (h : BI N ps L f q.length far q) : far.take N = dRow N ps f := by
  have hld : (dRow N ps f).length = N := dS_len N ps f N
  have key : ∀ k, k < N → far.getD k 0 = (dRow N ps f).getD k 0 := fun k hk => by
    by_cases hq : k ∈ q
    · obtain ⟨j, hj⟩ := List.getElem?_of_mem hq
      have h1 := (h.val j k hj).1
      have h2 := dRow_least hv hf (h.wk k hq)
      have h3 := (h.least hL rfl (dRow_wk hv hf k hk h2.2.1)).2
      omega
    · have h1 : far.getD k 0 = -1 := Classical.byContradiction fun e => hq ((h.dom k (by omega)).1 e)
      have h2 : ¬ 0 ≤ (dRow N ps f).getD k 0 := fun e => hq ((BI.end hL h rfl k).2 ((dRow_iff hv hf k hk).1 e))
      have h3 := (DI.all hv hf N (N := N) (ps := ps) (f := f)).val k hk
      change (dRow N ps f).getD k 0 = -1 ∨ _ at h3
      rw [h1]
      rcases h3 with h3 | h3
      · exact h3.symm
      · exact absurd h3.1 h2
  apply List.ext_getElem?
  intro k
  by_cases hk : k < N
  · have hkf : k < far.length := by rw [h.len]; omega
    have := key k hk
    rw [List.getElem?_take, if_pos hk, List.getElem?_eq_getElem hkf, List.getElem?_eq_getElem (by rw [hld]; exact hk)]
    simp only [List.getD, List.getElem?_eq_getElem hkf, List.getElem?_eq_getElem (show k < (dRow N ps f).length by rw [hld]; exact hk), Option.getD_some] at this
    rw [this]
  · rw [List.getElem?_eq_none (by rw [List.length_take]; omega), List.getElem?_eq_none (by rw [hld]; omega)]
end Go.Proofs.YtipceoeihiaieaaDoor.Rou
