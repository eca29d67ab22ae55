/- What Commute answers of two gates, both ways; GateApart. -/
import Derived.Test.YtnhdgellckcnbaaDoorXn1
import Derived.Test.YtnhdgellckcnbaaDoorXn2
import Derived.Test.YtnhdgellckcnbaaDoorXn3
import Derived.Test.YtnhdgellckcnbaaDoorAy
namespace Go.Proofs.YtnhdgellckcnbaaDoor.Gt
open Go.RowKit Go.Proofs.YtnhdgellckcnbaaDoor.Oct

theorem all_len (la lb : List Int) : (allP la lb).length = la.length + lb.length ↔ ∀ q ∈ lb, q ∉ la := by
  unfold allP
  rw [List.length_append, Nat.add_left_cancel_iff, List.length_filter_eq_length_iff]
  simp
theorem all_comm (la lb : List Int) : (allP la lb).length = la.length + lb.length ↔ (allP lb la).length = lb.length + la.length := by
  rw [all_len, all_len]
  exact ⟨fun h q hq hq' => h q hq' hq, fun h q hq hq' => h q hq' hq⟩
theorem ks_of : ∀ k : Fin 21, 1 ≤ k.1 → ((rw' (k.1 : Int)).q = 1 → k.1 ∈ ks1) ∧ ((rw' (k.1 : Int)).q = 2 → k.1 ∈ ks2) ∧ ((rw' (k.1 : Int)).q = 3 → k.1 ∈ ks3) ∧ ((rw' (k.1 : Int)).q = 1 ∨ (rw' (k.1 : Int)).q = 2 ∨ (rw' (k.1 : Int)).q = 3) ∧ dgB (rw' (k.1 : Int)) = dgN k.1 := by decide +kernel
theorem alc_is {a b : Nat} (ha1 : 1 ≤ a) (ha : a ≤ 20) (hb1 : 1 ≤ b) (hb : b ≤ 20) {la lb : List Int} (pa : (la.length : Int) = (rw' (a : Int)).q) (pb : (lb.length : Int) = (rw' (b : Int)).q) :
    alkG (2 ^ (allP la lb).length) a (rowsN a) (posP (allP la lb) la) b (rowsN b) (posP (allP la lb) lb) (2 ^ (allP la lb).length) 0 = alc a b la lb :=
  alkL_eq ha1 ha hb1 hb (by rw [← pa]; simp [posP]) (by rw [← pb]; simp [posP]) _ _
theorem tab_flip {a b : Nat} {la lb : List Int} (h : symB a b la lb = true) : symB b a lb la = true := by
  unfold symB at h ⊢
  rw [Bool.and_eq_true, beq_iff_eq] at h
  rw [← h.1, Bool.and_eq_true, beq_iff_eq, Bool.and_comm (dgN b)]
  exact ⟨rfl, h.2⟩
theorem sym_all {a b : Nat} (ha1 : 1 ≤ a) (ha : a ≤ 20) (hb1 : 1 ≤ b) (hb : b ≤ 20) {la lb : List Int} (pa : (la.length : Int) = (rw' (a : Int)).q) (pb : (lb.length : Int) = (rw' (b : Int)).q) (da : la.Nodup) (db : lb.Nodup) (hc : (allP la lb).length ≠ la.length + lb.length) : symB a b la lb = true := by
  have xa := ks_of ⟨a, by omega⟩ ha1
  have xb := ks_of ⟨b, by omega⟩ hb1
  dsimp only at xa xb
  have hc' : (allP lb la).length ≠ lb.length + la.length := fun h => hc ((all_comm la lb).2 h)
  obtain ⟨a1, a2, a3, aq, _⟩ := xa
  obtain ⟨b1, b2, b3, bq, _⟩ := xb
  rcases aq with qa | qa | qa <;> rcases bq with qb | qb | qb <;> rw [qa] at pa <;> rw [qb] at pb
  · exact tab_sym tab11 (na := 1) (nb := 1) (by omega) (by omega) da db (by omega) (a1 qa) (b1 qb)
  · exact tab_sym tab12 (na := 1) (nb := 2) (by omega) (by omega) da db (by omega) (a1 qa) (b2 qb)
  · exact tab_sym tab13 (na := 1) (nb := 3) (by omega) (by omega) da db (by omega) (a1 qa) (b3 qb)
  · exact tab_flip (tab_sym tab12 (na := 1) (nb := 2) (by omega) (by omega) db da (by omega) (b1 qb) (a2 qa))
  · exact tab_sym tab22 (na := 2) (nb := 2) (by omega) (by omega) da db (by omega) (a2 qa) (b2 qb)
  · exact tab_sym tab23 (na := 2) (nb := 3) (by omega) (by omega) da db (by omega) (a2 qa) (b3 qb)
  · exact tab_flip (tab_sym tab13 (na := 1) (nb := 3) (by omega) (by omega) db da (by omega) (b1 qb) (a3 qa))
  · exact tab_flip (tab_sym tab23 (na := 2) (nb := 3) (by omega) (by omega) db da (by omega) (b2 qb) (a3 qa))
  · exact tab_sym tab33 (na := 3) (nb := 3) (by omega) (by omega) da db (by omega) (a3 qa) (b3 qb)
theorem alkG_self (S k n : Nat) (l : List Nat) : ∀ m c, alkG S k n l k n l m c = true
  | 0, _ => rfl
  | m + 1, c => by
    rw [alkG, alkG_self S k n l m (c + 1), colP, (eqB_iff _ _ _).2 (fun _ _ => rfl)]
    rfl
theorem all_self (la : List Int) : allP la la = la := by
  unfold allP
  rw [List.filter_eq_nil_iff.2 (fun a ha => by simp [ha]), List.append_nil]
theorem pos_self {la : List Int} (h : la.Nodup) : posP la la = List.range la.length := ix_range la h
theorem inv_tab : ∀ k : Fin 21, 1 ≤ k.1 → 1 ≤ (rw' (k.1 : Int)).v ∧ (rw' (k.1 : Int)).v ≤ 20 ∧ (rw' (rw' (k.1 : Int)).v).q = (rw' (k.1 : Int)).q ∧ alkL (2 ^ (rw' (k.1 : Int)).q.toNat) k.1 (List.range (rw' (k.1 : Int)).q.toNat) (rw' (k.1 : Int)).v.toNat (List.range (rw' (k.1 : Int)).q.toNat) (2 ^ (rw' (k.1 : Int)).q.toNat) 0 = true := by decide +kernel
/-- Are both gates and their qubits what they must be? -/
def gdP (a : Int) (la : List Int) (b : Int) (lb : List Int) : Bool := knB (rw' a) && knB (rw' b) && apP (rw' a).q la && apP (rw' b).q lb
theorem com_no {a : Int} {la : List Int} {b : Int} {lb : List Int} (h : gdP a la b lb = false) : (comP a la b lb).1 = false ∧ ((comP a la b lb).2 != 0) = true := by
  unfold comP
  unfold gdP at h
  cases ka : knB (rw' a)
  · exact ⟨rfl, rfl⟩
  · cases kb : knB (rw' b)
    · exact ⟨rfl, rfl⟩
    · rw [ka, kb] at h
      cases pa : apP (rw' a).q la
      · exact ⟨rfl, rfl⟩
      · cases pb : apP (rw' b).q lb
        · exact ⟨rfl, rfl⟩
        · rw [pa, pb] at h
          cases h
theorem gd_flip (a : Int) (la : List Int) (b : Int) (lb : List Int) : gdP b lb a la = gdP a la b lb := by
  unfold gdP
  cases knB (rw' a) <;> cases knB (rw' b) <;> cases apP (rw' a).q la <;> cases apP (rw' b).q lb <;> rfl
theorem gd_out {a : Int} {la : List Int} {b : Int} {lb : List Int} (h : gdP a la b lb = true) : ∃ x y : Nat, a = (x : Int) ∧ b = (y : Int) ∧ 1 ≤ x ∧ x ≤ 20 ∧ 1 ≤ y ∧ y ≤ 20 ∧ (la.length : Int) = (rw' a).q ∧ (lb.length : Int) = (rw' b).q ∧ la.Nodup ∧ lb.Nodup ∧ knB (rw' a) = true ∧ knB (rw' b) = true ∧ apP (rw' a).q la = true ∧ apP (rw' b).q lb = true := by
  unfold gdP at h
  rw [Bool.and_eq_true, Bool.and_eq_true, Bool.and_eq_true] at h
  obtain ⟨⟨⟨ka, kb⟩, pa⟩, pb⟩ := h
  have ra := kn_range ka
  have rb := kn_range kb
  have la' := ap_nodup pa
  have lb' := ap_nodup pb
  have qa := pa
  have qb := pb
  unfold apP at qa qb
  rw [Bool.and_eq_true] at qa qb
  exact ⟨a.toNat, b.toNat, by omega, by omega, by omega, by omega, by omega, by omega, of_decide_eq_true qa.1, of_decide_eq_true qb.1, la', lb', ka, kb, pa, pb⟩
theorem com_yes {a : Int} {la : List Int} {b : Int} {lb : List Int} (h : gdP a la b lb = true) : comP a la b lb = ((decide ((allP la lb).length = la.length + lb.length) || alc a.toNat b.toNat la lb), 0) := by
  obtain ⟨x, y, rfl, rfl, x1, x2, y1, y2, qa, qb, da, db, ka, kb, pa, pb⟩ := gd_out h
  unfold comP
  rw [ka, kb, pa, pb]
  simp only [Bool.not_true, Bool.or_self, Bool.false_eq_true, if_false]
  rw [Int.toNat_natCast, Int.toNat_natCast, alc_is x1 x2 y1 y2 qa qb]
  by_cases e : (allP la lb).length = la.length + lb.length
  · rw [if_pos e, decide_eq_true e]; rfl
  · rw [if_neg e, decide_eq_false e]; rfl
theorem com_sym {a : Int} {la : List Int} {b : Int} {lb : List Int} (h : gdP a la b lb = true) : comP b lb a la = comP a la b lb ∧ ((comP a la b lb).1 = false → (dgB (rw' a) && dgB (rw' b)) = false) := by
  have h' := (gd_flip a la b lb).trans h
  rw [com_yes h, com_yes h']
  obtain ⟨x, y, rfl, rfl, x1, x2, y1, y2, qa, qb, da, db, ka, kb, pa, pb⟩ := gd_out h
  rw [Int.toNat_natCast, Int.toNat_natCast]
  have e0 : decide ((allP lb la).length = lb.length + la.length) = decide ((allP la lb).length = la.length + lb.length) := by
    rw [decide_eq_decide]; exact (all_comm la lb).symm
  rw [e0]
  by_cases e : (allP la lb).length = la.length + lb.length
  · rw [decide_eq_true e]
    exact ⟨rfl, fun h => by cases h⟩
  · rw [decide_eq_false e, Bool.false_or, Bool.false_or]
    have := sym_all x1 x2 y1 y2 qa qb da db e
    unfold symB at this
    rw [Bool.and_eq_true, beq_iff_eq] at this
    refine ⟨by rw [this.1], fun hf => ?_⟩
    have hd := this.2
    have hf' : alc x y la lb = false := hf
    rw [hf', Bool.or_false] at hd
    rw [(ks_of ⟨x, by omega⟩ x1).2.2.2.2, (ks_of ⟨y, by omega⟩ y1).2.2.2.2]
    cases e' : (dgN x && dgN y)
    · rfl
    · rw [e'] at hd; cases hd
theorem com_own {a : Int} {la : List Int} {b : Int} {lb : List Int} (h : gdP a la b lb = true) : comP a la a la = (true, 0) ∧ comP a la (rw' a).v la = (true, 0) := by
  obtain ⟨x, y, rfl, rfl, x1, x2, y1, y2, qa, qb, da, db, ka, kb, pa, pb⟩ := gd_out h
  have it := inv_tab ⟨x, by omega⟩ x1
  dsimp only at it
  constructor
  · have g1 : gdP (x : Int) la (x : Int) la = true := by unfold gdP; rw [ka, pa]; rfl
    rw [com_yes g1, Int.toNat_natCast, ← alc_is x1 x2 x1 x2 qa qa, alkG_self, Bool.or_true]
  · have ki : knB (rw' (rw' (x : Int)).v) = true := by unfold knB at ka ⊢; rw [it.2.2.1]; exact ka
    have g1 : gdP (x : Int) la (rw' (x : Int)).v la = true := by unfold gdP; rw [ka, pa, ki, it.2.2.1, pa]; rfl
    rw [com_yes g1, Int.toNat_natCast]
    have : alc x (rw' (x : Int)).v.toNat la la = true := by
      unfold alc
      rw [all_self, pos_self da, show la.length = (rw' (x : Int)).q.toNat by omega]
      exact it.2.2.2
    rw [this, Bool.or_true]
end Go.Proofs.YtnhdgellckcnbaaDoor.Gt
