/- Layer 20, pure: paths. -/
import Derived.Test.YtipceoeihiaieaaDoorBa20
import Derived.Test.YtipceoeihiaieaaDoorAp20
namespace Go.Proofs.YtipceoeihiaieaaDoor.Rou

theorem Ed.symm {ps : List Pr} {a b : Nat} (h : Ed ps a b) : Ed ps b a := Or.symm h
theorem Wk.trans {ps : List Pr} {f a : Nat} {n : Nat} (h : Wk ps f n a) : ∀ {m b : Nat}, Wk ps a m b → Wk ps f (n + m) b := by
  intro m b h2
  induction h2 with
  | zero => exact h
  | succ _ e ih => exact .succ ih e
theorem Wk.rev {ps : List Pr} {f n a : Nat} (h : Wk ps f n a) : Wk ps a n f := by
  induction h with
  | zero => exact .zero
  | @succ n a b _ e ih =>
    have := (Wk.succ Wk.zero e.symm).trans ih
    rwa [show 0 + 1 + n = n + 1 by omega] at this
/-- How far. -/
def Dd (N : Nat) (ps : List Pr) (a b : Nat) : Int := (dRow N ps a).getD b 0
section
variable {N : Nat} {ps : List Pr}
theorem Rt.vl (h : RtP (N : Int) ps) : Vl N ps := fun p hp => by have := h.2.2.1 p hp; omega
theorem Dd_sym (hv : Vl N ps) {a b : Nat} (ha : a < N) (hb : b < N) : Dd N ps a b = Dd N ps b a := by
  have key : ∀ {x y : Nat}, x < N → y < N → 0 ≤ Dd N ps x y → 0 ≤ Dd N ps y x ∧ Dd N ps y x ≤ Dd N ps x y := fun {x y} hx hy h => by
    have h1 := dRow_least hv hy (dRow_wk hv hx y hy h).rev
    change 0 ≤ Dd N ps x y at h
    have h2 := h1.2
    change 0 ≤ Dd N ps y x ∧ Dd N ps y x ≤ (((Dd N ps x y).toNat : Nat) : Int) at h2
    exact ⟨h2.1, by omega⟩
  have v1 := (DI.all hv ha N (N := N) (ps := ps)).val b hb
  have v2 := (DI.all hv hb N (N := N) (ps := ps)).val a ha
  change Dd N ps a b = -1 ∨ (0 ≤ Dd N ps a b ∧ _) at v1
  change Dd N ps b a = -1 ∨ (0 ≤ Dd N ps b a ∧ _) at v2
  rcases v1 with v1 | ⟨v1, -⟩
  · rcases v2 with v2 | ⟨v2, -⟩
    · omega
    · have := key hb ha v2; omega
  · have h1 := key ha hb v1
    have h2 := key hb ha h1.1
    omega
theorem Dd_pos (h : RtP (N : Int) ps) {a b : Nat} (ha : a < N) (hb : b < N) : 0 ≤ Dd N ps a b := by
  have hv := Rt.vl h
  have hp : ∀ k, k < N → 0 ≤ (dRow N ps 0).getD k 0 := fun k hk => by
    have := h.2.2.2 k (by simpa using hk)
    rwa [Int.toNat_natCast] at this
  have h1 := dRow_wk hv (by omega) a ha (hp a ha)
  have h2 := dRow_wk hv (by omega) b hb (hp b hb)
  exact (dRow_least hv ha (h1.rev.trans h2)).2.1
theorem Dd_wk (h : RtP (N : Int) ps) {a b : Nat} (ha : a < N) (hb : b < N) : Wk ps a (Dd N ps a b).toNat b := dRow_wk (Rt.vl h) ha b hb (Dd_pos h ha hb)
theorem Dd_le (h : RtP (N : Int) ps) {a b m : Nat} (ha : a < N) (hw : Wk ps a m b) : b < N ∧ Dd N ps a b ≤ (m : Int) := by
  have := dRow_least (Rt.vl h) ha hw
  exact ⟨this.1, this.2.2⟩
theorem Dd_hi (h : RtP (N : Int) ps) {a b : Nat} (ha : a < N) (hb : b < N) : Dd N ps a b ≤ (N : Int) := by
  have v1 := (DI.all (Rt.vl h) ha N (N := N) (ps := ps)).val b hb
  change Dd N ps a b = -1 ∨ (0 ≤ Dd N ps a b ∧ Dd N ps a b ≤ (N : Int)) at v1
  omega
theorem Ed.lt (h : RtP (N : Int) ps) {a b : Nat} (he : Ed ps a b) : a < N ∧ b < N ∧ a ≠ b := by
  rcases he with he | he
  · have := h.2.2.1 _ he; simp only at this; omega
  · have := h.2.2.1 _ he; simp only at this; omega
theorem Dd_zero (h : RtP (N : Int) ps) {a b : Nat} (ha : a < N) (hb : b < N) : Dd N ps a b = 0 ↔ a = b := by
  constructor
  · intro e
    have := Dd_wk h ha hb
    rw [e] at this
    cases this
    rfl
  · intro e
    subst e
    have h1 := (Dd_le h ha (Wk.zero (ps := ps) (f := a))).2
    have h2 := Dd_pos h ha ha
    omega
theorem Dd_one (h : RtP (N : Int) ps) {a b : Nat} (ha : a < N) (hb : b < N) : Dd N ps a b = 1 ↔ Ed ps a b := by
  constructor
  · intro e
    have h1 := Dd_wk h ha hb
    rw [e] at h1
    change Wk ps a 1 b at h1
    cases h1 with
    | succ h2 e2 =>
      cases h2
      exact e2
  · intro e
    have h1 := (Dd_le h ha (Wk.succ Wk.zero e)).2
    have h2 := Dd_pos h ha hb
    have h3 : Dd N ps a b ≠ 0 := fun e2 => (Ed.lt h e).2.2 ((Dd_zero h ha hb).1 e2)
    omega
theorem Dd_tri (h : RtP (N : Int) ps) {a b c : Nat} (ha : a < N) (hb : b < N) (hc : c < N) : Dd N ps a b ≤ Dd N ps a c + Dd N ps c b := by
  have h1 := (Dd_le h ha ((Dd_wk h ha hc).trans (Dd_wk h hc hb))).2
  have h2 := Dd_pos h ha hc
  have h3 := Dd_pos h hc hb
  omega
/-- The document's test of a step. -/
def nxt (N : Nat) (ps : List Pr) (a b k : Nat) : Bool := decide (Dd N ps a k = 1) && decide (Dd N ps k b = Dd N ps a b - 1)
/-- The document's step. -/
def nx (N : Nat) (ps : List Pr) (a b : Nat) : Nat := ((List.range N).find? (nxt N ps a b)).getD a
theorem nx_ex (h : RtP (N : Int) ps) {a b : Nat} (ha : a < N) (hb : b < N) (hab : a ≠ b) : ∃ k, k < N ∧ nxt N ps a b k = true := by
  have hp := Dd_pos h ha hb
  have hz : Dd N ps a b ≠ 0 := fun e => hab ((Dd_zero h ha hb).1 e)
  obtain ⟨d, hd⟩ : ∃ d : Nat, (Dd N ps a b).toNat = d + 1 := ⟨(Dd N ps a b).toNat - 1, by omega⟩
  have hw := (Dd_wk h ha hb).rev
  rw [hd] at hw
  cases hw with
  | @succ _ k _ h2 e2 =>
    have hl := Ed.lt h e2
    have h3 := (Dd_le h hl.1 h2.rev).2
    have h4 := (Dd_one h hl.2.1 hl.1).2 e2.symm
    have h5 := Dd_tri h hl.2.1 hb hl.1
    refine ⟨k, hl.1, ?_⟩
    unfold nxt
    rw [h4, decide_eq_true rfl, Bool.true_and]
    exact decide_eq_true (by omega)
theorem nx_spec (h : RtP (N : Int) ps) {a b : Nat} (ha : a < N) (hb : b < N) (hab : a ≠ b) : nx N ps a b < N ∧ Dd N ps (nx N ps a b) b = Dd N ps a b - 1 := by
  obtain ⟨k, hk, hn⟩ := nx_ex h ha hb hab
  unfold nx
  cases hf : (List.range N).find? (nxt N ps a b) with
  | none =>
    have := List.find?_eq_none.1 hf k (List.mem_range.2 hk)
    exact absurd hn this
  | some j =>
    have h1 := List.find?_some hf
    have h2 := List.mem_range.1 (List.mem_of_find?_eq_some hf)
    unfold nxt at h1
    rw [Bool.and_eq_true] at h1
    exact ⟨h2, of_decide_eq_true h1.2⟩
/-- What the program's step answers. -/
def near (far : List Int) (l : List Pr) (a : Nat) : Int := match l.find? (fun p => decide (far.getD p.2.toNat 0 = far.getD a 0 - 1)) with
  | some p => p.2
  | none => (a : Int)
theorem near_eq (h : RtP (N : Int) ps) {L : Nat → List Pr} (hL : LP N ps L) {a b : Nat} (hA : Asc (L a)) (ha : a < N) (hb : b < N) {far : List Int} (hf : ∀ k, k < N → far.getD k 0 = Dd N ps b k) : near far (L a) a = (nx N ps a b : Nat) := by
  have hc : ∀ p, p ∈ L a → (decide (far.getD p.2.toNat 0 = far.getD a 0 - 1) = nxt N ps a b p.2.toNat) := fun p hp => by
    obtain ⟨h1, h2, h3⟩ := hL.sub a p hp
    have hk : p.2.toNat < N := by omega
    unfold nxt
    rw [(Dd_one h ha hk).2 h3, decide_eq_true rfl, Bool.true_and, hf _ hk, hf a ha, Dd_sym (Rt.vl h) hb hk, Dd_sym (Rt.vl h) hb ha]
  have hm : ∀ k, k < N → nxt N ps a b k = true → ((a : Int), (k : Int)) ∈ L a := fun k hk hn => by
    unfold nxt at hn
    rw [Bool.and_eq_true] at hn
    exact hL.all a k ((Dd_one h ha hk).1 (of_decide_eq_true hn.1))
  unfold near nx
  cases hff : (L a).find? (fun p => decide (far.getD p.2.toNat 0 = far.getD a 0 - 1)) with
  | none =>
    have hn : (List.range N).find? (nxt N ps a b) = none := List.find?_eq_none.2 fun k hk e => by
      have h1 := hm k (List.mem_range.1 hk) e
      have h2 := List.find?_eq_none.1 hff _ h1
      have h3 := hc _ h1
      simp only [Int.toNat_natCast] at h2 h3
      rw [h3, e] at h2
      exact h2 rfl
    rw [hn]
    rfl
  | some p =>
    have hp := List.mem_of_find?_eq_some hff
    obtain ⟨h1, h2, h3⟩ := hL.sub a p hp
    have hk : p.2.toNat < N := by omega
    have hn : (List.range N).find? (nxt N ps a b) = some p.2.toNat := by
      have h4 := List.find?_some hff
      rw [hc p hp] at h4
      obtain ⟨j, hj⟩ : ∃ j, (List.range N).find? (nxt N ps a b) = some j := by
        cases e : (List.range N).find? (nxt N ps a b) with
        | none => exact absurd h4 (List.find?_eq_none.1 e _ (List.mem_range.2 hk))
        | some j => exact ⟨j, rfl⟩
      rw [hj]
      have h5 := List.find?_some hj
      have h6 := List.mem_range.1 (List.mem_of_find?_eq_some hj)
      have hle : j ≤ p.2.toNat := by
        rcases Nat.lt_or_ge p.2.toNat j with h7 | h7
        · have h8 := List.find?_range_eq_some.1 hj
          have h9 := h8.2.2 _ h7
          rw [h4] at h9
          cases h9
        · exact h7
      have h7 := hm j h6 h5
      obtain ⟨i, hi1, hi2⟩ := List.mem_iff_getElem.1 hp
      rw [List.find?_eq_some_iff_getElem] at hff
      obtain ⟨-, i, hi, e, hbf⟩ := hff
      obtain ⟨i', hi'⟩ := List.getElem?_of_mem h7
      have hge : i ≤ i' := by
        rcases Nat.lt_or_ge i' i with h8 | h8
        · have h9 := hbf i' h8
          have hl := (List.getElem?_eq_some_iff.1 hi').2
          have h10 := hc _ h7
          simp only [Int.toNat_natCast] at h10
          rw [hl] at h9
          simp only [Int.toNat_natCast] at h9
          rw [h10, h5] at h9
          cases h9
        · exact h8
      have hle2 : p.2 ≤ (j : Int) := by
        rcases Nat.lt_or_ge i i' with h8 | h8
        · exact hA i i' p _ h8 (by rw [List.getElem?_eq_getElem hi, e]) hi'
        · have h9 : i = i' := by omega
          subst h9
          rw [List.getElem?_eq_getElem hi, e] at hi'
          cases hi'
          exact Int.le_refl _
      congr 1
      omega
    rw [hn]
    show p.2 = ((p.2.toNat : Nat) : Int)
    omega
/-- The places of a path behind its first. -/
def pt (N : Nat) (ps : List Pr) (b : Nat) : Nat → Nat → List Nat
  | 0, _ => []
  | d + 1, a => nx N ps a b :: pt N ps b d (nx N ps a b)
def pth (N : Nat) (ps : List Pr) (a b : Nat) : List Nat := a :: pt N ps b (Dd N ps a b).toNat a
theorem pt_len (b : Nat) : ∀ d a, (pt N ps b d a).length = d
  | 0, _ => rfl
  | d + 1, a => by rw [pt, List.length_cons, pt_len b d]
theorem pt_next (h : RtP (N : Int) ps) {a b : Nat} (ha : a < N) (hb : b < N) (hab : a ≠ b) : pt N ps b (Dd N ps a b).toNat a = nx N ps a b :: pt N ps b (Dd N ps (nx N ps a b) b).toNat (nx N ps a b) := by
  have h1 := nx_spec h ha hb hab
  have h2 := Dd_pos h h1.1 hb
  obtain ⟨d, hd⟩ : ∃ d : Nat, (Dd N ps a b).toNat = d + 1 := ⟨(Dd N ps a b).toNat - 1, by omega⟩
  rw [hd, pt, show (Dd N ps (nx N ps a b) b).toNat = d by omega]
theorem pt_last (h : RtP (N : Int) ps) {b : Nat} (hb : b < N) : ∀ d a, a < N → (Dd N ps a b).toNat = d → (a :: pt N ps b d a).getLast? = some b
  | 0, a, ha, e => by
    have := Dd_pos h ha hb
    have e2 := (Dd_zero h ha hb).1 (by omega)
    subst e2
    rfl
  | d + 1, a, ha, e => by
    have hab : a ≠ b := fun e2 => by rw [(Dd_zero h ha hb).2 e2] at e; simp at e
    have h1 := nx_spec h ha hb hab
    rw [pt]
    have := pt_last h hb d (nx N ps a b) h1.1 (by omega)
    rw [List.getLast?_cons_cons]
    exact this
end
end Go.Proofs.YtipceoeihiaieaaDoor.Rou
