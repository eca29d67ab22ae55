/- Layer 20, pure: what is reached from a place. -/
import Derived.Test.YtipceoeihiaieaaDoorAg20
namespace Go.Proofs.YtipceoeihiaieaaDoor.Rou

theorem nd_le : ∀ (n : Nat) (l : List Nat), l.Nodup → (∀ x ∈ l, x < n) → l.length ≤ n
  | 0, [], _, _ => Nat.le_refl _
  | 0, a :: l, _, h => by have := h a (List.mem_cons_self ..); omega
  | n + 1, l, hn, h => by
    by_cases hm : n ∈ l
    · have h1 := nd_le n (l.erase n) (hn.erase n) (fun x hx => by
        have h2 := (hn.mem_erase_iff.1 hx)
        have := h x h2.2
        have := h2.1
        omega)
      rw [List.length_erase_of_mem hm] at h1
      omega
    · have := nd_le n l hn (fun x hx => by
        have h2 := h x hx
        have : x ≠ n := fun e => hm (e ▸ hx)
        omega)
      omega
/-- Two places are neighbours. -/
def Ed (ps : List Pr) (a b : Nat) : Prop := ((a : Int), (b : Int)) ∈ ps ∨ ((b : Int), (a : Int)) ∈ ps
/-- What is reached. -/
inductive Rc (ps : List Pr) (f : Nat) : Nat → Prop
  | refl : Rc ps f f
  | step {a b : Nat} (h : Rc ps f a) (e : Ed ps a b) : Rc ps f b
theorem gset (r : List Int) (b k : Nat) (v : Int) (hb : b < r.length) : (r.set b v).getD k 0 = if k = b then v else r.getD k 0 := by
  rw [List.getD_eq_getElem?_getD, List.getD_eq_getElem?_getD, List.getElem?_set]
  by_cases e : b = k
  · subst e
    simp [hb]
  · simp [e, Ne.symm e]
/-- The document's step from one place to another. -/
def st1 (s a b : Nat) (r : List Int) : List Int := if r.getD a 0 = (s : Int) ∧ r.getD b 0 < 0 then r.set b ((s : Int) + 1) else r
def stP (s : Nat) (r : List Int) (p : Pr) : List Int := st1 s p.2.toNat p.1.toNat (st1 s p.1.toNat p.2.toNat r)
/-- The first pairs of a round. -/
def stI (s : Nat) (ps : List Pr) (r : List Int) : Nat → List Int
  | 0 => r
  | t + 1 => stP s (stI s ps r t) (ps.getD t (0, 0))
/-- The first rounds. -/
def dS (N : Nat) (ps : List Pr) (f : Nat) : Nat → List Int
  | 0 => (List.replicate N (-1)).set f 0
  | s + 1 => stI s ps (dS N ps f s) ps.length
def dRow (N : Nat) (ps : List Pr) (f : Nat) : List Int := dS N ps f N
def cn (r : List Int) : Nat := r.countP fun x => decide (0 ≤ x)
theorem st1_len (s a b : Nat) (r : List Int) : (st1 s a b r).length = r.length := by
  unfold st1
  split <;> simp
theorem stI_len (s : Nat) (ps : List Pr) (r : List Int) : ∀ t, (stI s ps r t).length = r.length
  | 0 => rfl
  | t + 1 => by
    unfold stI stP
    rw [st1_len, st1_len, stI_len s ps r t]
theorem dS_len (N : Nat) (ps : List Pr) (f : Nat) : ∀ s, (dS N ps f s).length = N
  | 0 => by simp [dS]
  | s + 1 => by
    unfold dS
    rw [stI_len, dS_len N ps f s]
/-- A map's pairs may stand there. -/
def Vl (N : Nat) (ps : List Pr) : Prop := ∀ p ∈ ps, 0 ≤ p.1 ∧ p.1 < (N : Int) ∧ 0 ≤ p.2 ∧ p.2 < (N : Int)
/-- What holds within a round. -/
structure RI (N s : Nat) (ps : List Pr) (f : Nat) (r0 r : List Int) : Prop where
  len : r.length = N
  keep : ∀ k, k < N → 0 ≤ r0.getD k 0 → r.getD k 0 = r0.getD k 0
  new : ∀ k, k < N → r0.getD k 0 < 0 → r.getD k 0 = -1 ∨ r.getD k 0 = (s : Int) + 1
  snd : ∀ k, k < N → 0 ≤ r.getD k 0 → Rc ps f k
  cnt : r = r0 ∨ cn r0 + 1 ≤ cn r
theorem cn_set {r : List Int} {b : Nat} {v : Int} (hb : b < r.length) (h0 : r.getD b 0 < 0) (hv : 0 ≤ v) : cn (r.set b v) = cn r + 1 := by
  unfold cn
  rw [List.countP_set hb]
  have e : r[b] = r.getD b 0 := by simp [List.getD, hb]
  have h1 : decide (0 ≤ r[b]) = false := by rw [e]; exact decide_eq_false (by omega)
  rw [h1, decide_eq_true hv]
  simp
theorem RI.one {N s : Nat} {ps : List Pr} {f : Nat} {r0 r : List Int} (h : RI N s ps f r0 r) {a b : Nat} (ha : a < N) (hb : b < N) (he : Ed ps a b) : RI N s ps f r0 (st1 s a b r) ∧ (r0.getD a 0 = (s : Int) → 0 ≤ (st1 s a b r).getD b 0) ∧ ∀ k, k < N → 0 ≤ r.getD k 0 → 0 ≤ (st1 s a b r).getD k 0 := by
  have hlb : b < r.length := by rw [h.len]; exact hb
  unfold st1
  split
  · next hc =>
    have hr0 : r0.getD b 0 < 0 := by
      rcases Int.lt_or_le (r0.getD b 0) 0 with h1 | h1
      · exact h1
      · have := h.keep b hb h1
        omega
    refine ⟨⟨by rw [List.length_set]; exact h.len, fun k hk h0 => ?_, fun k hk h0 => ?_, fun k hk h0 => ?_, .inr ?_⟩, fun _ => ?_, fun k hk h0 => ?_⟩
    · rw [gset _ _ _ _ hlb, if_neg (fun e => by rw [e] at h0; omega)]
      exact h.keep k hk h0
    · rw [gset _ _ _ _ hlb]
      split
      · exact .inr rfl
      · exact h.new k hk h0
    · rw [gset _ _ _ _ hlb] at h0
      split at h0
      · next e =>
        subst e
        exact .step (h.snd a ha (by omega)) he
      · exact h.snd k hk h0
    · have h1 := cn_set hlb hc.2 (v := (s : Int) + 1) (by omega)
      rcases h.cnt with e | e
      · rw [h1, e]; exact Nat.le_refl _
      · omega
    · rw [gset _ _ _ _ hlb, if_pos rfl]
      omega
    · rw [gset _ _ _ _ hlb]
      split
      · omega
      · exact h0
  · next hc =>
    refine ⟨h, fun h0 => ?_, fun k _ h0 => h0⟩
    have := h.keep a ha (by omega)
    rcases Int.lt_or_le (r.getD b 0) 0 with h1 | h1
    · exact absurd ⟨by omega, h1⟩ hc
    · exact h1
theorem RI.pair {N s : Nat} {ps : List Pr} {f : Nat} {r0 r : List Int} (hv : Vl N ps) (h : RI N s ps f r0 r) {p : Pr} (hp : p ∈ ps) : RI N s ps f r0 (stP s r p) ∧ ((r0.getD p.1.toNat 0 = (s : Int) → 0 ≤ (stP s r p).getD p.2.toNat 0) ∧ (r0.getD p.2.toNat 0 = (s : Int) → 0 ≤ (stP s r p).getD p.1.toNat 0)) ∧ ∀ k, k < N → 0 ≤ r.getD k 0 → 0 ≤ (stP s r p).getD k 0 := by
  obtain ⟨h1, h2, h3, h4⟩ := hv p hp
  have e1 : ((p.1.toNat : Nat) : Int) = p.1 := Int.toNat_of_nonneg h1
  have e2 : ((p.2.toNat : Nat) : Int) = p.2 := Int.toNat_of_nonneg h3
  have hab : Ed ps p.1.toNat p.2.toNat := .inl (by rw [e1, e2]; exact hp)
  have hba : Ed ps p.2.toNat p.1.toNat := .inr (by rw [e1, e2]; exact hp)
  obtain ⟨q1, q2, q3⟩ := h.one (a := p.1.toNat) (b := p.2.toNat) (by omega) (by omega) hab
  obtain ⟨k1, k2, k3⟩ := q1.one (a := p.2.toNat) (b := p.1.toNat) (by omega) (by omega) hba
  exact ⟨k1, ⟨fun h => k3 _ (by omega) (q2 h), k2⟩, fun k hk h0 => k3 k hk (q3 k hk h0)⟩
theorem RI.all {N s : Nat} {ps : List Pr} {f : Nat} {r0 : List Int} (hv : Vl N ps) (h : RI N s ps f r0 r0) : ∀ t, t ≤ ps.length → RI N s ps f r0 (stI s ps r0 t) ∧ ∀ j, j < t → ∀ p, ps[j]? = some p → (r0.getD p.1.toNat 0 = (s : Int) → 0 ≤ (stI s ps r0 t).getD p.2.toNat 0) ∧ (r0.getD p.2.toNat 0 = (s : Int) → 0 ≤ (stI s ps r0 t).getD p.1.toNat 0)
  | 0, _ => ⟨h, fun j hj => by omega⟩
  | t + 1, ht => by
    obtain ⟨q1, q2⟩ := RI.all hv h t (by omega)
    have hp : ps[t]? = some (ps.getD t (0, 0)) := by simp [List.getD, List.getElem?_eq_getElem (show t < ps.length by omega)]
    obtain ⟨k1, k2, k3⟩ := q1.pair hv (List.mem_of_getElem? hp)
    refine ⟨k1, fun j hj p hjp => ?_⟩
    by_cases e : j = t
    · subst e
      rw [hp] at hjp
      cases hjp
      exact k2
    · have h2 := q2 j (by omega) p hjp
      obtain ⟨v1, v2, v3, v4⟩ := hv p (List.mem_of_getElem? hjp)
      exact ⟨fun h => k3 _ (by omega) (h2.1 h), fun h => k3 _ (by omega) (h2.2 h)⟩
/-- What holds behind rounds. -/
structure DI (N s : Nat) (ps : List Pr) (f : Nat) (r : List Int) : Prop where
  len : r.length = N
  val : ∀ k, k < N → r.getD k 0 = -1 ∨ (0 ≤ r.getD k 0 ∧ r.getD k 0 ≤ (s : Int))
  snd : ∀ k, k < N → 0 ≤ r.getD k 0 → Rc ps f k
  cov : ∀ a b, a < N → b < N → Ed ps a b → 0 ≤ r.getD a 0 → r.getD a 0 < (s : Int) → 0 ≤ r.getD b 0
  prg : (∀ k, k < N → 0 ≤ r.getD k 0 → r.getD k 0 < (s : Int)) ∨ s + 1 ≤ cn r
  beg : 0 ≤ r.getD f 0
theorem stI_still {N s : Nat} {ps : List Pr} {r : List Int} (hv : Vl N ps) (h : ∀ k, k < N → r.getD k 0 ≠ (s : Int)) : ∀ t, t ≤ ps.length → stI s ps r t = r
  | 0, _ => rfl
  | t + 1, ht => by
    have hp : ps[t]? = some (ps.getD t (0, 0)) := by simp [List.getD, List.getElem?_eq_getElem (show t < ps.length by omega)]
    obtain ⟨v1, v2, v3, v4⟩ := hv _ (List.mem_of_getElem? hp)
    simp only [stI, stI_still hv h t (by omega), stP]
    have e1 : st1 s (ps.getD t (0, 0)).1.toNat (ps.getD t (0, 0)).2.toNat r = r := if_neg fun e => h _ (by omega) e.1
    rw [e1]
    exact if_neg fun e => h _ (by omega) e.1
theorem DI.next {N s : Nat} {ps : List Pr} {f : Nat} {r : List Int} (hv : Vl N ps) (hf : f < N) (h : DI N s ps f r) : DI N (s + 1) ps f (stI s ps r ps.length) := by
  rcases h.prg with hp | hp
  · rw [stI_still hv (fun k hk e => by have := hp k hk (by omega); omega) _ (Nat.le_refl _)]
    refine ⟨h.len, fun k hk => (h.val k hk).imp id fun e => by omega, h.snd, fun a b ha hb he h1 _ => h.cov a b ha hb he h1 (hp a ha h1), .inl fun k hk h1 => ?_, h.beg⟩
    have := hp k hk h1
    omega
  have h0 : RI N s ps f r r := ⟨h.len, fun _ _ _ => rfl, fun k hk h0 => .inl ((h.val k hk).resolve_right (by omega)), h.snd, .inl rfl⟩
  obtain ⟨q1, q2⟩ := RI.all hv h0 ps.length (Nat.le_refl _)
  generalize stI s ps r ps.length = r' at *
  have hge : ∀ k, k < N → 0 ≤ r.getD k 0 → 0 ≤ r'.getD k 0 := fun k hk h1 => by rw [q1.keep k hk h1]; exact h1
  have hpre : ∀ k, k < N → 0 ≤ r'.getD k 0 → r'.getD k 0 < (s : Int) + 1 → 0 ≤ r.getD k 0 ∧ r'.getD k 0 = r.getD k 0 := fun k hk h1 h2 => by
    rcases Int.lt_or_le (r.getD k 0) 0 with h3 | h3
    · rcases q1.new k hk h3 with e | e <;> omega
    · exact ⟨h3, q1.keep k hk h3⟩
  refine ⟨q1.len, fun k hk => ?_, q1.snd, fun a b ha hb he h1 h2 => ?_, ?_, hge f hf h.beg⟩
  · rcases Int.lt_or_le (r.getD k 0) 0 with h1 | h1
    · rcases q1.new k hk h1 with e | e
      · exact .inl e
      · exact .inr (by omega)
    · have := q1.keep k hk h1
      have := (h.val k hk).resolve_left (by omega)
      exact .inr (by omega)
  · obtain ⟨h3, h4⟩ := hpre a ha h1 (by omega)
    have h5 := (h.val a ha).resolve_left (by omega)
    by_cases e : r.getD a 0 = (s : Int)
    · rcases he with he | he
      · obtain ⟨j, hj⟩ := List.getElem?_of_mem he
        have := (q2 j (List.getElem?_eq_some_iff.1 hj).1 _ hj).1
        simp only [Int.toNat_natCast] at this
        exact this e
      · obtain ⟨j, hj⟩ := List.getElem?_of_mem he
        have := (q2 j (List.getElem?_eq_some_iff.1 hj).1 _ hj).2
        simp only [Int.toNat_natCast] at this
        exact this e
    · exact hge b hb (h.cov a b ha hb he h3 (by omega))
  · rcases q1.cnt with e | e
    · subst e
      refine .inl fun k hk h1 => ?_
      have := (h.val k hk).resolve_left (by omega)
      omega
    · exact .inr (by omega)
theorem cn_le (r : List Int) : cn r ≤ r.length := List.countP_le_length
theorem DI.all {N : Nat} {ps : List Pr} {f : Nat} (hv : Vl N ps) (hf : f < N) : ∀ s, DI N s ps f (dS N ps f s)
  | 0 => by
    have hl : f < (List.replicate N (-1 : Int)).length := by simpa using hf
    have hg : ∀ k, k < N → k ≠ f → ((List.replicate N (-1 : Int)).set f 0).getD k 0 = -1 := fun k hk e => by
      rw [gset _ _ _ _ hl, if_neg e]
      simp [List.getD, hk]
    have hg0 : ((List.replicate N (-1 : Int)).set f 0).getD f 0 = 0 := by rw [gset _ _ _ _ hl, if_pos rfl]
    refine ⟨by simp [dS], fun k hk => ?_, fun k hk h => ?_, fun a b ha _ _ h1 h2 => ?_, .inr ?_, by show 0 ≤ ((List.replicate N (-1 : Int)).set f 0).getD f 0; rw [hg0]; exact Int.le_refl _⟩
    · show ((List.replicate N (-1 : Int)).set f 0).getD k 0 = -1 ∨ _
      by_cases e : k = f
      · subst e
        exact .inr (by show 0 ≤ ((List.replicate N (-1 : Int)).set k 0).getD k 0 ∧ ((List.replicate N (-1 : Int)).set k 0).getD k 0 ≤ _; rw [hg0]; omega)
      · exact .inl (hg k hk e)
    · by_cases e : k = f
      · subst e; exact .refl
      · have h : 0 ≤ ((List.replicate N (-1 : Int)).set f 0).getD k 0 := h
        rw [hg k hk e] at h
        omega
    · omega
    · show 0 + 1 ≤ cn ((List.replicate N (-1 : Int)).set f 0)
      rw [cn_set hl (by simp [List.getD, hf]) (by decide)]
      omega
  | s + 1 => (DI.all hv hf s).next hv hf
/-- The document's row tells what is reached. -/
theorem dRow_iff {N : Nat} {ps : List Pr} {f : Nat} (hv : Vl N ps) (hf : f < N) (k : Nat) (hk : k < N) : 0 ≤ (dRow N ps f).getD k 0 ↔ Rc ps f k := by
  have h := DI.all hv hf (N := N) (ps := ps) (f := f) N
  refine ⟨h.snd k hk, fun hr => ?_⟩
  have hp : ∀ k, k < N → 0 ≤ (dS N ps f N).getD k 0 → (dS N ps f N).getD k 0 < (N : Int) := by
    rcases h.prg with e | e
    · exact e
    · have := cn_le (dS N ps f N)
      rw [h.len] at this
      omega
  have key : ∀ k, Rc ps f k → k < N ∧ 0 ≤ (dS N ps f N).getD k 0 := by
    intro k hr
    induction hr with
    | refl => exact ⟨hf, h.beg⟩
    | @step a b _ e ih =>
      have hb : b < N := by
        rcases e with e | e
        · have := hv _ e; simp only at this; omega
        · have := hv _ e; simp only at this; omega
      exact ⟨hb, h.cov a b ih.1 hb e ih.2 (hp a ih.1 ih.2)⟩
  exact (key k hr).2
end Go.Proofs.YtipceoeihiaieaaDoor.Rou
