/- Which qubits two gates have in common: their names do not matter. -/
import Derived.Test.YtnhdgellckcnbaaDoorXm
import Derived.Test.YtnhdgellckcnbaaDoorAw
namespace Go.Proofs.YtnhdgellckcnbaaDoor.Gt

theorem ixP_get : ∀ {l : List Int} {v : Int} {i : Nat}, ixP l v = some i → l[i]? = some v
  | [], v, i, h => by simp [ixP] at h
  | a :: r, v, i, h => by
    rw [ixP] at h
    by_cases e : v = a
    · rw [if_pos e] at h; cases h; simp [e]
    · rw [if_neg e] at h
      cases hr : ixP r v with
      | none => simp [hr] at h
      | some m =>
        have := ixP_get hr
        simp [hr] at h
        subst h
        simpa using this
theorem ixP_map (f : Int → Int) : ∀ (l : List Int) (v : Int), (∀ a ∈ l, f v = f a → v = a) → ixP (l.map f) (f v) = ixP l v
  | [], _, _ => rfl
  | a :: r, v, h => by
    rw [List.map_cons, ixP, ixP, ixP_map f r v (fun b hb => h b (List.mem_cons_of_mem _ hb))]
    by_cases e : v = a
    · rw [if_pos e, if_pos (by rw [e])]
    · rw [if_neg e, if_neg (fun h' => e (h a (by simp) h'))]
theorem posP_map (f : Int → Int) (l m : List Int) (h : ∀ v ∈ m, ∀ a ∈ l, f v = f a → v = a) : posP (l.map f) (m.map f) = posP l m := by
  unfold posP
  rw [List.map_map]
  refine List.map_congr_left (fun v hv => ?_)
  show (ixP (l.map f) (f v)).getD 0 = _
  rw [ixP_map f l v (h v hv)]
theorem allP_map (f : Int → Int) (la lb : List Int) (h : ∀ v ∈ lb, ∀ a ∈ la, f v = f a → v = a) : allP (la.map f) (lb.map f) = (allP la lb).map f := by
  unfold allP
  rw [List.map_append, List.filter_map]
  congr 2
  refine List.filter_congr (fun v hv => ?_)
  show (!decide (f v ∈ la.map f)) = !decide (v ∈ la)
  congr 1
  rw [decide_eq_decide, List.mem_map]
  constructor
  · rintro ⟨a, ha, e⟩
    rw [h v hv a ha e.symm]
    exact ha
  · intro hm
    exact ⟨v, hm, rfl⟩
theorem ix_range : ∀ l : List Int, l.Nodup → l.map (fun q => (ixP l q).getD 0) = List.range l.length
  | [], _ => rfl
  | a :: r, h => by
    rw [List.nodup_cons] at h
    have ih := ix_range r h.2
    rw [List.map_cons, List.length_cons, List.range_succ_eq_map, ← ih, List.map_map]
    congr 1
    · simp [ixP]
    · refine List.map_congr_left (fun q hq => ?_)
      have hne : ¬ q = a := fun e => h.1 (e ▸ hq)
      rw [ixP, if_neg hne]
      cases e : ixP r q with
      | none => exact absurd hq (ixP_none.1 e)
      | some m => simp [e]
theorem apG_at {l : List Int} : ∀ (m i : Nat), apG l m i = true → ∀ j, i ≤ j → j < i + m → l.getD j 0 ∉ l.take j
  | 0, i, _, j, h1, h2 => by omega
  | m + 1, i, h, j, h1, h2 => by
    rw [apG, Bool.and_eq_true, Bool.and_eq_true] at h
    by_cases e : j = i
    · subst e
      simpa using h.1.2
    · exact apG_at m (i + 1) h.2 j (by omega) (by omega)
theorem ap_nodup {q : Int} {l : List Int} (h : apP q l = true) : l.Nodup := by
  unfold apP at h
  rw [Bool.and_eq_true] at h
  rw [List.Nodup, List.pairwise_iff_getElem]
  intro i j hi hj hij e
  refine apG_at l.length 0 h.2 j (by omega) (by omega) ?_
  rw [List.getD_eq_getElem?_getD, List.getElem?_eq_getElem hj, Option.getD_some, ← e]
  rw [List.mem_take_iff_getElem]
  exact ⟨i, by omega, rfl⟩
theorem allP_nodup {la lb : List Int} (ha : la.Nodup) (hb : lb.Nodup) : (allP la lb).Nodup := by
  unfold allP
  rw [List.nodup_append]
  refine ⟨ha, hb.filter _, fun a h1 b h2 e => ?_⟩
  rw [List.mem_filter] at h2
  subst e
  simp [h1] at h2
theorem mem_allP {la lb : List Int} {q : Int} : q ∈ allP la lb ↔ q ∈ la ∨ q ∈ lb := by
  unfold allP
  rw [List.mem_append, List.mem_filter]
  by_cases h : q ∈ la <;> simp [h]
def iota (n : Nat) : List Int := (List.range n).map Int.ofNat
/-- All lists of so many numbers below N. -/
def lsts (N : Nat) : Nat → List (List Int)
  | 0 => [[]]
  | m + 1 => (List.range N).flatMap fun (i : Nat) => (lsts N m).map fun r => (i : Int) :: r
theorem mem_lsts {N : Nat} : ∀ (p : List Int), (∀ x ∈ p, ∃ i : Nat, i < N ∧ x = (i : Int)) → p ∈ lsts N p.length
  | [], _ => by simp [lsts]
  | x :: r, h => by
    rw [List.length_cons, lsts, List.mem_flatMap]
    obtain ⟨i, hi, rfl⟩ := h x (by simp)
    exact ⟨i, List.mem_range.2 hi, List.mem_map.2 ⟨r, mem_lsts r (fun y hy => h y (List.mem_cons_of_mem _ hy)), rfl⟩⟩
/-- Do they commute, by the lists? -/
def alc (a b : Nat) (la lb : List Int) : Bool := alkL (2 ^ (allP la lb).length) a (posP (allP la lb) la) b (posP (allP la lb) lb) (2 ^ (allP la lb).length) 0
theorem alc_map (f : Int → Int) (a b : Nat) (la lb : List Int) (h : ∀ v w, v ∈ la ∨ v ∈ lb → w ∈ la ∨ w ∈ lb → f v = f w → v = w) : alc a b (la.map f) (lb.map f) = alc a b la lb := by
  unfold alc
  rw [allP_map f la lb (fun v hv w hw => h v w (.inr hv) (.inl hw)), List.length_map, posP_map f _ la (fun v hv w hw => h v w (.inl hv) (mem_allP.1 hw)), posP_map f _ lb (fun v hv w hw => h v w (.inr hv) (mem_allP.1 hw))]
def dgN (k : Nat) : Bool := k == 1 || k == 4 || k == 5 || k == 6 || k == 13 || k == 19
def symB (a b : Nat) (la lb : List Int) : Bool := (alc a b la lb == alc b a lb la) && (!(dgN a && dgN b) || alc a b la lb)
def tabB (na nb : Nat) (ka kb : List Nat) : Bool := (lsts (na + nb) nb).all fun p => !decide p.Nodup || !decide (allP (iota na) p = iota (allP (iota na) p).length) || (allP (iota na) p).length == na + nb || ka.all fun a => kb.all fun b => symB a b (iota na) p
/-- By a table of the qubits as they may lie, all of them are told. -/
theorem tab_sym {na nb : Nat} {ka kb : List Nat} (ht : tabB na nb ka kb = true) {la lb : List Int} (ha : la.length = na) (hb : lb.length = nb) (da : la.Nodup) (db : lb.Nodup) (hc : (allP la lb).length ≠ na + nb) {a b : Nat} (ka' : a ∈ ka) (kb' : b ∈ kb) : symB a b la lb = true := by
  obtain ⟨f, hf⟩ : ∃ f : Int → Int, f = fun q => (((ixP (allP la lb) q).getD 0 : Nat) : Int) := ⟨_, rfl⟩
  have dA := allP_nodup da db
  have inj : ∀ v w, v ∈ la ∨ v ∈ lb → w ∈ la ∨ w ∈ lb → f v = f w → v = w := by
    intro v w hv hw e
    rw [hf] at e
    simp only [Int.natCast_inj] at e
    cases hv' : ixP (allP la lb) v with
    | none => exact absurd (mem_allP.2 hv) (ixP_none.1 hv')
    | some i =>
      cases hw' : ixP (allP la lb) w with
      | none => exact absurd (mem_allP.2 hw) (ixP_none.1 hw')
      | some j =>
        rw [hv', hw'] at e
        simp only [Option.getD_some] at e
        subst e
        have h1 := ixP_get hv'
        rw [ixP_get hw'] at h1
        exact (Option.some.inj h1).symm
  have hA : (allP la lb).map f = iota (allP la lb).length := by
    rw [iota, ← ix_range _ dA, List.map_map, hf]
    rfl
  have hna : na ≤ (allP la lb).length := by
    rw [← ha]; unfold allP; rw [List.length_append]; omega
  have hle : (allP la lb).length ≤ na + nb := by
    unfold allP
    rw [List.length_append]
    have := List.length_filter_le (fun q => !decide (q ∈ la)) lb
    omega
  have hla : la.map f = iota na := by
    have h1 : ((allP la lb).map f).take na = la.map f := by
      rw [← List.map_take]
      congr 1
      unfold allP
      rw [← ha, List.take_left]
    rw [← h1, hA, iota, ← List.map_take, List.take_range, Nat.min_eq_left hna, iota]
  have hp : lb.map f ∈ lsts (na + nb) nb := by
    have := mem_lsts (N := na + nb) (lb.map f) (fun x hx => by
      rw [List.mem_map] at hx
      obtain ⟨q, hq, rfl⟩ := hx
      refine ⟨(ixP (allP la lb) q).getD 0, ?_, by rw [hf]⟩
      cases e : ixP (allP la lb) q with
      | none => exact absurd (mem_allP.2 (.inr hq)) (ixP_none.1 e)
      | some i => have := ixP_lt e; simp; omega)
    rw [List.length_map, hb] at this
    exact this
  have hal : allP (iota na) (lb.map f) = iota (allP la lb).length := by
    rw [← hla, allP_map f la lb (fun v hv w hw => inj v w (.inr hv) (.inl hw)), hA]
  have hlen : (iota (allP la lb).length).length = (allP la lb).length := by simp [iota]
  have hnd : (lb.map f).Nodup := by
    rw [List.Nodup, List.pairwise_map]
    refine db.imp_of_mem (fun h1 h2 h3 e => h3 (inj _ _ (.inr h1) (.inr h2) e))
  unfold tabB at ht
  rw [List.all_eq_true] at ht
  have h1 := ht _ hp
  rw [hal, hlen, decide_eq_true hnd, decide_eq_true rfl] at h1
  simp only [Bool.not_true, Bool.false_or, Bool.or_eq_true, beq_iff_eq] at h1
  have h2 := h1.resolve_left hc
  rw [List.all_eq_true] at h2
  have h3 := h2 a ka'
  rw [List.all_eq_true] at h3
  have h4 := h3 b kb'
  unfold symB at h4 ⊢
  rw [← hla, alc_map f a b la lb inj, alc_map f b a lb la (fun v w hv hw => inj v w hv.symm hw.symm)] at h4
  exact h4
end Go.Proofs.YtnhdgellckcnbaaDoor.Gt
