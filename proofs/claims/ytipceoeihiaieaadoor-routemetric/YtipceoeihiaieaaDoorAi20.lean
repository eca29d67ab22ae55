/- Layer 20, pure: a chart's pairs, and what is reached by going through them. -/
import Derived.Test.YtipceoeihiaieaaDoorAh20
namespace Go.Proofs.YtipceoeihiaieaaDoor.Rou

/-- A walk of so many steps. -/
inductive Wk (ps : List Pr) (f : Nat) : Nat → Nat → Prop
  | zero : Wk ps f 0 f
  | succ {n a b : Nat} (h : Wk ps f n a) (e : Ed ps a b) : Wk ps f (n + 1) b
/-- The pairs of the first of a map's. -/
def lks (ps : List Pr) : Nat → Nat → List Pr
  | 0 => fun _ => []
  | t + 1 => lnk (lnk (lks ps t) (ps.getD t (0, 0)).1.toNat (ps.getD t (0, 0)).2) (ps.getD t (0, 0)).2.toNat (ps.getD t (0, 0)).1
/-- A chart's rows are those of the first pairs. -/
structure LI (N t : Nat) (ps : List Pr) (L : Nat → List Pr) : Prop where
  sub : ∀ a p, p ∈ L a → p.1 = (a : Int) ∧ 0 ≤ p.2 ∧ p.2 < (N : Int) ∧ ∃ j, j < t ∧ (ps[j]? = some p ∨ ps[j]? = some (p.2, p.1))
  all : ∀ j p, j < t → ps[j]? = some p → p ∈ L p.1.toNat ∧ (p.2, p.1) ∈ L p.2.toNat
  nd : ∀ a, (L a).Nodup
theorem mem_lnk {L : Nat → List Pr} {i a : Nat} {y : Int} {p : Pr} : p ∈ lnk L i y a ↔ p ∈ L a ∨ (a = i ∧ p = ((i : Int), y)) := by
  unfold lnk upd
  by_cases e : a = i
  · subst e
    simp only [if_true]
    split
    · next h => exact ⟨.inl, fun h2 => h2.elim id fun h2 => by rw [h2.2]; exact h⟩
    · simp
  · simp [e]
theorem nd_snoc {l : List Pr} {p : Pr} (h : l.Nodup) (hp : p ∉ l) : (l ++ [p]).Nodup := by
  rw [List.nodup_append]
  refine ⟨h, by simp, fun a ha b hb => ?_⟩
  have := List.mem_singleton.1 hb
  subst this
  exact fun e => hp (e ▸ ha)
theorem nd_lnk {L : Nat → List Pr} {i : Nat} {y : Int} (h : ∀ a, (L a).Nodup) (a : Nat) : (lnk L i y a).Nodup := by
  unfold lnk upd
  split
  · split
    · exact h i
    · next hm => exact nd_snoc (h i) hm
  · exact h a
theorem LI.start (N : Nat) (ps : List Pr) : LI N 0 ps (lks ps 0) := ⟨fun _ _ h => (by cases h), fun _ _ h => by omega, fun _ => List.nodup_nil⟩
theorem LI.next {N t : Nat} {ps : List Pr} (hv : Vl N ps) (ht : t < ps.length) (h : LI N t ps (lks ps t)) : LI N (t + 1) ps (lks ps (t + 1)) := by
  have hp : ps[t]? = some (ps.getD t (0, 0)) := by simp [List.getD, List.getElem?_eq_getElem ht]
  unfold lks
  generalize ps.getD t (0, 0) = q at *
  obtain ⟨v1, v2, v3, v4⟩ := hv _ (List.mem_of_getElem? hp)
  have e1 : ((q.1.toNat : Nat) : Int) = q.1 := Int.toNat_of_nonneg v1
  have e2 : ((q.2.toNat : Nat) : Int) = q.2 := Int.toNat_of_nonneg v3
  refine ⟨fun a p hm => ?_, fun j p hj hjp => ?_, nd_lnk (nd_lnk h.nd)⟩
  · rw [mem_lnk, mem_lnk, e1, e2] at hm
    rcases hm with (hm | ⟨rfl, rfl⟩) | ⟨rfl, rfl⟩
    · obtain ⟨h1, h2, h3, j, hj, h4⟩ := h.sub a p hm
      exact ⟨h1, h2, h3, j, by omega, h4⟩
    · exact ⟨e1.symm, v3, v4, t, by omega, .inl hp⟩
    · exact ⟨e2.symm, v1, v2, t, by omega, .inr hp⟩
  · rw [mem_lnk, mem_lnk, mem_lnk, mem_lnk, e1, e2]
    by_cases e : j = t
    · subst e
      rw [hp] at hjp
      cases hjp
      exact ⟨.inl (.inr ⟨rfl, rfl⟩), .inr ⟨rfl, rfl⟩⟩
    · have := h.all j p (by omega) hjp
      exact ⟨.inl (.inl this.1), .inl (.inl this.2)⟩
theorem LI.all_rows {N : Nat} {ps : List Pr} (hv : Vl N ps) : ∀ t, t ≤ ps.length → LI N t ps (lks ps t)
  | 0, _ => LI.start N ps
  | t + 1, ht => (LI.all_rows hv t (by omega)).next hv (by omega)
theorem LI.short {N t : Nat} {ps : List Pr} {L : Nat → List Pr} (h : LI N t ps L) (a : Nat) : (L a).length ≤ N := by
  have : ((L a).map fun p => p.2.toNat).Nodup := by
    rw [List.nodup_iff_pairwise_ne, List.pairwise_map]
    refine List.Pairwise.imp_of_mem (fun {p q} hp hq hne e => hne ?_) (List.nodup_iff_pairwise_ne.1 (h.nd a))
    obtain ⟨h1, h2, -, -⟩ := h.sub a p hp
    obtain ⟨h3, h4, -, -⟩ := h.sub a q hq
    obtain ⟨p1, p2⟩ := p
    obtain ⟨q1, q2⟩ := q
    simp only at *
    have : p2 = q2 := by omega
    rw [h1, h3, this]
  have h2 := nd_le N _ this (fun x hx => by
    obtain ⟨p, hp, rfl⟩ := List.mem_map.1 hx
    obtain ⟨-, h2, h3, -⟩ := h.sub a p hp
    omega)
  rwa [List.length_map] at h2
/-- A chart's rows hold a map's neighbours, whatever their order. -/
structure LP (N : Nat) (ps : List Pr) (L : Nat → List Pr) : Prop where
  sub : ∀ a p, p ∈ L a → 0 ≤ p.2 ∧ p.2 < (N : Int) ∧ Ed ps a p.2.toNat
  all : ∀ a b, Ed ps a b → ((a : Int), (b : Int)) ∈ L a
theorem LI.lp {N : Nat} {ps : List Pr} {L : Nat → List Pr} (h : LI N ps.length ps L) : LP N ps L := by
  refine ⟨fun a p hp => ?_, fun a b he => ?_⟩
  · obtain ⟨h1, h2, h3, j, -, h4⟩ := h.sub a p hp
    refine ⟨h2, h3, ?_⟩
    have e2 : ((p.2.toNat : Nat) : Int) = p.2 := Int.toNat_of_nonneg h2
    unfold Ed
    rw [e2, ← h1]
    exact h4.imp (fun h => List.mem_of_getElem? h) (fun h => List.mem_of_getElem? h)
  · rcases he with he | he
    · obtain ⟨j, hj⟩ := List.getElem?_of_mem he
      simpa using (h.all j _ (List.getElem?_eq_some_iff.1 hj).1 hj).1
    · obtain ⟨j, hj⟩ := List.getElem?_of_mem he
      simpa using (h.all j _ (List.getElem?_eq_some_iff.1 hj).1 hj).2
theorem LP.perm {N : Nat} {ps : List Pr} {L L' : Nat → List Pr} (h : LP N ps L) (hp : ∀ a p, p ∈ L' a ↔ p ∈ L a) : LP N ps L' :=
  ⟨fun a p hm => h.sub a p ((hp a p).1 hm), fun a b he => (hp a _).2 (h.all a b he)⟩
/-- What holds while places are reached: how far, and in which order. -/
structure BI (N : Nat) (ps : List Pr) (L : Nat → List Pr) (f i : Nat) (far : List Int) (q : List Nat) : Prop where
  len : far.length = 64
  dom : ∀ k, k < 64 → (far.getD k 0 ≠ -1 ↔ k ∈ q)
  nd : q.Nodup
  rng : ∀ k, k ∈ q → k < N
  rch : ∀ k, k ∈ q → Rc ps f k
  val : ∀ (j k : Nat), q[j]? = some k → 0 ≤ far.getD k 0 ∧ far.getD k 0 ≤ (j : Int)
  done : ∀ (j : Nat), j < i → ∀ k, q[j]? = some k → ∀ p, p ∈ L k → p.2.toNat ∈ q
  beg : f ∈ q
  wk : ∀ k, k ∈ q → Wk ps f (far.getD k 0).toNat k
  mono : ∀ (j j' a a' : Nat), j ≤ j' → q[j]? = some a → q[j']? = some a' → far.getD a 0 ≤ far.getD a' 0
  hi : ∀ a, q[i]? = some a → ∀ k, k ∈ q → far.getD k 0 ≤ far.getD a 0 + 1
  dst : ∀ (j : Nat), j < i → ∀ k, q[j]? = some k → ∀ p, p ∈ L k → far.getD p.2.toNat 0 ≤ far.getD k 0 + 1
  org : far.getD f 0 = 0
theorem BI.short {N : Nat} {ps : List Pr} {L : Nat → List Pr} {f i : Nat} {far : List Int} {q : List Nat} (h : BI N ps L f i far q) : q.length ≤ N := nd_le N q h.nd h.rng
theorem nd_snocN {l : List Nat} {p : Nat} (h : l.Nodup) (hp : p ∉ l) : (l ++ [p]).Nodup := by
  rw [List.nodup_append]
  refine ⟨h, by simp, fun a ha b hb => ?_⟩
  have := List.mem_singleton.1 hb
  subst this
  exact fun e => hp (e ▸ ha)
theorem BI.start {N : Nat} {ps : List Pr} {L : Nat → List Pr} {f : Nat} (hN : N ≤ 64) (hf : f < N) : BI N ps L f 0 ((List.replicate 64 (-1)).set f 0) [f] := by
  have hl : f < (List.replicate 64 (-1 : Int)).length := by simp; omega
  have hg : ∀ k, k < 64 → k ≠ f → ((List.replicate 64 (-1 : Int)).set f 0).getD k 0 = -1 := fun k hk e => by
    rw [gset _ _ _ _ hl, if_neg e, List.getD_eq_getElem?_getD, List.getElem?_replicate, if_pos hk]
    rfl
  have hg0 : ((List.replicate 64 (-1 : Int)).set f 0).getD f 0 = 0 := by rw [gset _ _ _ _ hl, if_pos rfl]
  refine ⟨by simp, fun k hk => ?_, by simp, fun k hk => ?_, fun k hk => ?_, fun j k hj => ?_, fun j hj => by omega, by simp, fun k hk => ?_, fun j j' a a' _ hj hj' => ?_, fun a _ k hk => ?_, fun j hj => by omega, hg0⟩
  · by_cases e : k = f
    · subst e; rw [hg0]; simp
    · rw [hg k hk e]; simp [e]
  · rw [List.mem_singleton] at hk; omega
  · rw [List.mem_singleton] at hk; rw [hk]; exact .refl
  · match j, hj with
    | 0, hj => cases hj; rw [hg0]; exact ⟨Int.le_refl _, Int.le_refl _⟩
    | j + 1, hj => simp at hj
  · rw [List.mem_singleton] at hk; subst hk; rw [hg0]; exact .zero
  · have h1 := List.mem_singleton.1 (List.mem_of_getElem? hj)
    have h2 := List.mem_singleton.1 (List.mem_of_getElem? hj')
    rw [h1, h2]
    exact Int.le_refl _
  · next ha =>
    have h1 := List.mem_singleton.1 (List.mem_of_getElem? ha)
    rw [List.mem_singleton] at hk
    rw [h1, hk]
    omega
/-- One place is reached anew. -/
theorem BI.vis {N : Nat} {ps : List Pr} {L : Nat → List Pr} {f i : Nat} {far : List Int} {q : List Nat} (hN : N ≤ 64) (h : BI N ps L f i far q) {a b : Nat} (ha : q[i]? = some a) (hb : b < N) (he : Ed ps a b) (hn : far.getD b 0 = -1) :
    BI N ps L f i (far.set b (far.getD a 0 + 1)) (q ++ [b]) := by
  have hlb : b < far.length := by rw [h.len]; omega
  have hbq : b ∉ q := fun hm => ((h.dom b (by omega)).2 hm) hn
  have hva := h.val i a ha
  have hil := (List.getElem?_eq_some_iff.1 ha).1
  refine ⟨by rw [List.length_set]; exact h.len, fun k hk => ?_, nd_snocN h.nd hbq, fun k hk => ?_, fun k hk => ?_, fun j k hj => ?_, fun j hj k hjk p hp => ?_, by simp [h.beg], fun k hk => ?_, fun j j' c c' hjj hj hj' => ?_, fun c hc k hk => ?_, fun j hj k hjk p hp => ?_, by rw [gset _ _ _ _ hlb, if_neg (fun e => hbq (by rw [← e]; exact h.beg))]; exact h.org⟩
  · rw [gset _ _ _ _ hlb]
    by_cases e : k = b
    · subst e
      rw [if_pos rfl]
      exact ⟨fun _ => by simp, fun _ => by omega⟩
    · rw [if_neg e]
      simp only [List.mem_append, List.mem_singleton, e, or_false]
      exact h.dom k hk
  · rcases List.mem_append.1 hk with hk | hk
    · exact h.rng k hk
    · rw [List.mem_singleton] at hk; omega
  · rcases List.mem_append.1 hk with hk | hk
    · exact h.rch k hk
    · rw [List.mem_singleton] at hk
      subst hk
      exact .step (h.rch a (List.mem_of_getElem? ha)) he
  · rw [gset _ _ _ _ hlb]
    rw [List.getElem?_append] at hj
    split at hj
    · split
      · next e => subst e; exact absurd (List.mem_of_getElem? hj) hbq
      · exact h.val j k hj
    · next hjl =>
      have hk : k = b := by
        have := List.mem_of_getElem? hj
        exact List.mem_singleton.1 this
      rw [if_pos hk]
      omega
  · rw [List.getElem?_append, if_pos (by omega)] at hjk
    exact List.mem_append_left _ (h.done j hj k hjk p hp)
  · rw [gset _ _ _ _ hlb]
    rcases List.mem_append.1 hk with hk | hk
    · rw [if_neg (fun e => hbq (by rw [← e]; exact hk))]
      exact h.wk k hk
    · rw [List.mem_singleton] at hk
      subst hk
      rw [if_pos rfl, show (far.getD a 0 + 1).toNat = (far.getD a 0).toNat + 1 by omega]
      exact .succ (h.wk a (List.mem_of_getElem? ha)) he
  · rw [gset _ _ _ _ hlb, gset _ _ _ _ hlb]
    have key : ∀ (x y : Nat), (q ++ [b])[x]? = some y → (q[x]? = some y ∧ y ≠ b) ∨ (x = q.length ∧ y = b) := fun x y hx => by
      rw [List.getElem?_append] at hx
      split at hx
      · exact .inl ⟨hx, fun e => hbq (e ▸ List.mem_of_getElem? hx)⟩
      · next hxl =>
        have h1 := List.mem_singleton.1 (List.mem_of_getElem? hx)
        have h2 := (List.getElem?_eq_some_iff.1 hx).1
        simp at h2
        exact .inr ⟨by omega, h1⟩
    rcases key j c hj with ⟨h1, h2⟩ | ⟨h1, h2⟩
    · rw [if_neg h2]
      rcases key j' c' hj' with ⟨h3, h4⟩ | ⟨h3, h4⟩
      · rw [if_neg h4]
        exact h.mono j j' c c' hjj h1 h3
      · rw [if_pos h4]
        exact h.hi a ha c (List.mem_of_getElem? h1)
    · rw [if_pos h2]
      rcases key j' c' hj' with ⟨h3, h4⟩ | ⟨h3, h4⟩
      · have := (List.getElem?_eq_some_iff.1 h3).1
        omega
      · rw [if_pos h4]
        exact Int.le_refl _
  · rw [List.getElem?_append, if_pos hil, ha] at hc
    cases hc
    have hab : a ≠ b := fun e => hbq (e ▸ List.mem_of_getElem? ha)
    rw [gset _ _ _ _ hlb, gset _ _ _ _ hlb, if_neg hab]
    split
    · exact Int.le_refl _
    · next hkb =>
      rcases List.mem_append.1 hk with hk | hk
      · exact h.hi a ha k hk
      · exact absurd (List.mem_singleton.1 hk) hkb
  · rw [List.getElem?_append, if_pos (by omega)] at hjk
    have h1 := h.done j hj k hjk p hp
    rw [gset _ _ _ _ hlb, gset _ _ _ _ hlb, if_neg (fun e => hbq (by rw [← e]; exact h1)), if_neg (fun e => hbq (by rw [← e]; exact List.mem_of_getElem? hjk))]
    exact h.dst j hj k hjk p hp
theorem BI.step {N : Nat} {ps : List Pr} {L : Nat → List Pr} {f i : Nat} {far : List Int} {q : List Nat} (h : BI N ps L f i far q) {a : Nat} (ha : q[i]? = some a) (hd : ∀ p, p ∈ L a → p.2.toNat ∈ q) : BI N ps L f (i + 1) far q :=
  ⟨h.len, h.dom, h.nd, h.rng, h.rch, h.val, fun j hj k hk p hp => by
    by_cases e : j = i
    · subst e
      rw [ha] at hk
      cases hk
      exact hd p hp
    · exact h.done j (by omega) k hk p hp, h.beg, h.wk, h.mono, fun a' ha' k hk => by
    have h1 := h.hi a ha k hk
    have h2 := h.mono i (i + 1) a a' (by omega) ha ha'
    omega, fun j hj k hk p hp => by
    by_cases e : j = i
    · subst e
      rw [ha] at hk
      cases hk
      exact h.hi a ha _ (hd p hp)
    · exact h.dst j (by omega) k hk p hp, h.org⟩
/-- All has been gone through: no walk is shorter. -/
theorem BI.least {N : Nat} {ps : List Pr} {L : Nat → List Pr} {f i : Nat} {far : List Int} {q : List Nat} (hL : LP N ps L) (h : BI N ps L f i far q) (hi : i = q.length) : ∀ {m k : Nat}, Wk ps f m k → k ∈ q ∧ far.getD k 0 ≤ (m : Int) := by
  intro m k hw
  induction hw with
  | zero => exact ⟨h.beg, by rw [h.org]; exact Int.le_refl _⟩
  | @succ n a b hw e ih =>
    obtain ⟨j, hj⟩ := List.getElem?_of_mem ih.1
    have hjl : j < i := by rw [hi]; exact (List.getElem?_eq_some_iff.1 hj).1
    have h1 := h.done j hjl a hj _ (hL.all a b e)
    have h2 := h.dst j hjl a hj _ (hL.all a b e)
    simp only [Int.toNat_natCast] at h1 h2
    exact ⟨h1, by have := ih.2; omega⟩
/-- All has been gone through: what is listed is what is reached. -/
theorem BI.end {N : Nat} {ps : List Pr} {L : Nat → List Pr} {f i : Nat} {far : List Int} {q : List Nat} (hL : LP N ps L) (h : BI N ps L f i far q) (hi : i = q.length) (k : Nat) : k ∈ q ↔ Rc ps f k := by
  refine ⟨h.rch k, fun hr => ?_⟩
  induction hr with
  | refl => exact h.beg
  | @step a b _ e ih =>
    obtain ⟨j, hj⟩ := List.getElem?_of_mem ih
    have := h.done j (by rw [hi]; exact (List.getElem?_eq_some_iff.1 hj).1) a hj _ (hL.all a b e)
    simpa using this
end Go.Proofs.YtipceoeihiaieaaDoor.Rou
