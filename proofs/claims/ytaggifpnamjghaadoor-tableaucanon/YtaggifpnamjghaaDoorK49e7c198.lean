import Derived.Test.YtaggifpnamjghaaDoorKf3315303
import Derived.Test.YtaggifpnamjghaaDoorKb5f81885
namespace Go.Proofs.YtaggifpnamjghaaDoor.Tbl
open Go.RowKit Go.Shelf Go.Proofs.YtaggifpnamjghaaDoor.Pau Go.Proofs.YtaggifpnamjghaaDoor.Gt
theorem com_one {a b : P} : comB a b = false ↔ om (bp a) (bp b) = 1 := by
  rw [com_om]
  have := om_lt (bp a) (bp b)
  constructor
  . intro h; have := of_decide_eq_false h; omega
  . intro h; exact decide_eq_false (by omega)
theorem com_zero {a b : P} : comB a b = true ↔ om (bp a) (bp b) = 0 := by
  rw [com_om]
  exact decide_eq_true_iff
theorem rr_bp {N : Nat} {p : P} (h : Rr N p) : (bp p).1 < 2 ^ N /\ (bp p).2 < 2 ^ N := by
  obtain ⟨-, -, c, d, -⟩ := rt_iff.1 h.1
  rw [h.2, Int.toNat_natCast] at c d
  exact ⟨c, d⟩
theorem ch_sy {t : TT} {N : Nat} (hc : chB t = true) (hN : t.n = (N : Int)) : Sy N (fun i => bp (t.s.getD i oP)) (fun i => bp (t.d.getD i oP)) := by
  obtain ⟨hz, hs, hp⟩ := ch_iff.1 hc
  rw [hN, Int.toNat_natCast] at hs hp
  have hr := fun i (hi : i < N) => sg_rr hN (hs i hi)
  have hq : ∀ i j, i < N -> j < N -> comB (t.s.getD i oP) (t.s.getD j oP) = true /\ comB (t.d.getD i oP) (t.d.getD j oP) = true /\ comB (t.d.getD i oP) (t.s.getD j oP) = decide (i ≠ j) := fun i j hi hj => by
    have := hp i hi j hj
    rw [pr_same hN (hs i hi) (hs j hj)] at this
    unfold prB' at this
    rw [Bool.and_eq_true, Bool.and_eq_true, beq_iff_eq] at this
    exact ⟨this.1.1, this.1.2, this.2⟩
  refine ⟨fun i hi => rr_bp (hr i hi).1, fun i hi => rr_bp (hr i hi).2, fun i j hi hj => com_zero.1 (hq i j hi hj).1, fun i j hi hj => com_zero.1 (hq i j hi hj).2.1, fun i j hi hj => ?_⟩
  have h3 := (hq i j hi hj).2.2
  by_cases e : i = j
  . rw [if_pos e]
    refine com_one.1 ?_
    rw [h3]
    exact decide_eq_false (fun h => h e)
  . rw [if_neg e]
    refine com_zero.1 ?_
    rw [h3]
    exact decide_eq_true e
theorem rr_id {N : Nat} (h : N <= 64) : Rr N ⟨(N : Int), 0, 0, 0⟩ := by
  refine ⟨rt_iff.2 ⟨by show (0 : Int) <= (N : Int); omega, by show (N : Int) <= 64; omega, Nat.two_pow_pos _, Nat.two_pow_pos _, by show (0 : Int) <= 0; decide, by show (0 : Int) <= 3; decide⟩, rfl⟩
theorem al_rr {t : TT} {N : Nat} (hc : chB t = true) (hN : t.n = (N : Int)) (p : P) : ∀ k, k <= N -> Rr N (alP t p k)
  | 0, _ => by
    have := (sz_of (ch_size hc)).2.1
    rw [alP, hN]
    exact rr_id (by omega)
  | k + 1, hk => by
    have ih := al_rr hc hN p k (by omega)
    have hr := sg_rr hN ((ch_iff.1 hc).2.1 k (by rw [hN]; omega))
    rw [alP]
    split
    . exact ih
    . exact (ih.pd hr.1).2
theorem al_om {t : TT} {N : Nat} (hc : chB t = true) (hN : t.n = (N : Int)) {p : P} (hp : Rr N p) : ∀ k, k <= N -> (∀ j, j < N -> om (bp (alP t p k)) (bp (t.s.getD j oP)) = 0) /\ (∀ j, j < N -> om (bp (alP t p k)) (bp (t.d.getD j oP)) = if j < k then om (bp (t.d.getD j oP)) (bp p) else 0)
  | 0, _ => by
    have hz : bp (alP t p 0) = (0, 0) := rfl
    rw [hz]
    exact ⟨fun j _ => om_zero _, fun j _ => by rw [om_zero, if_neg (Nat.not_lt_zero _)]⟩
  | k + 1, hk => by
    obtain ⟨h1, h2⟩ := al_om hc hN hp k (by omega)
    have sy := ch_sy hc hN
    have ra := al_rr hc hN p k (by omega)
    have hr := sg_rr hN ((ch_iff.1 hc).2.1 k (by rw [hN]; omega))
    have hcm := cm_eq hr.2 hp
    rw [alP, hcm]
    cases hb : comB (t.d.getD k oP) p with
    | true =>
      rw [if_pos rfl]
      refine ⟨h1, fun j hj => ?_⟩
      rw [h2 j hj]
      by_cases e : j < k
      . rw [if_pos e, if_pos (by omega)]
      . rw [if_neg e]
        by_cases e2 : j = k
        . subst e2; rw [if_pos (by omega), com_zero.1 hb]
        . rw [if_neg (by omega)]
    | false =>
      rw [if_neg (by decide), (ra.pd hr.1).1]
      have e : bp (mulP (alP t p k) (t.s.getD k oP)) = xo (bp (alP t p k)) (bp (t.s.getD k oP)) := rfl
      rw [e]
      refine ⟨fun j hj => ?_, fun j hj => ?_⟩
      . have := sy.ss k j (by omega) hj
        rw [om_xo, h1 j hj, this]
      . have hds := sy.ds j k hj (by omega)
        rw [om_comm] at hds
        rw [om_xo, h2 j hj]
        have hd2 : om (bp (t.s.getD k oP)) (bp (t.d.getD j oP)) = if j = k then 1 else 0 := hds
        rw [hd2]
        have hl := om_lt (bp (t.d.getD j oP)) (bp p)
        by_cases e1 : j < k
        . rw [if_pos e1, if_neg (by omega), if_pos (by omega)]; omega
        . rw [if_neg e1]
          by_cases e2 : j = k
          . subst e2; rw [if_pos rfl, if_pos (by omega), com_one.1 hb]
          . rw [if_neg e2, if_neg (by omega)]
theorem ph_even {a b : P} (ha : a.ph = 0 ∨ a.ph = 2) (hb : b.ph = 0 ∨ b.ph = 2) (h : om (bp a) (bp b) = 0) : (mulP a b).ph = 0 ∨ (mulP a b).ph = 2 := by
  show mulPh a b = 0 ∨ mulPh a b = 2
  unfold mulPh
  unfold om bp at h
  simp only at h
  have e : (a.x ^^^ b.x) &&& (a.z ^^^ b.z) = ((a.x &&& a.z) ^^^ (a.x &&& b.z)) ^^^ ((b.x &&& a.z) ^^^ (b.x &&& b.z)) := by
    rw [and_xor_r, Nat.and_comm a.x (a.z ^^^ b.z), Nat.and_comm b.x (a.z ^^^ b.z), and_xor_r, and_xor_r, Nat.and_comm a.z a.x, Nat.and_comm b.z a.x, Nat.and_comm a.z b.x, Nat.and_comm b.z b.x]
  have h1 := pc_xor ((a.x &&& a.z) ^^^ (a.x &&& b.z)) ((b.x &&& a.z) ^^^ (b.x &&& b.z))
  have h2 := pc_xor (a.x &&& a.z) (a.x &&& b.z)
  have h3 := pc_xor (b.x &&& a.z) (b.x &&& b.z)
  rw [← e] at h1
  rw [Nat.and_comm a.z b.x] at h ⊢
  generalize pc ((a.x ^^^ b.x) &&& (a.z ^^^ b.z)) = u at *
  generalize pc ((a.x &&& a.z) ^^^ (a.x &&& b.z)) = u1 at *
  generalize pc ((b.x &&& a.z) ^^^ (b.x &&& b.z)) = u2 at *
  generalize pc (a.x &&& a.z) = u3 at *
  generalize pc (a.x &&& b.z) = u4 at *
  generalize pc (b.x &&& a.z) = u5 at *
  generalize pc (b.x &&& b.z) = u6 at *
  rcases ha with ea | ea <;> rcases hb with eb | eb <;> rw [ea, eb] <;> omega
theorem sgB_iff {p : P} {N : Nat} : sgB p (N : Int) = true ↔ Rr N p /\ (p.ph = 0 ∨ p.ph = 2) := by
  unfold sgB Rr
  rw [Bool.and_eq_true, Bool.and_eq_true, decide_eq_true_eq, decide_eq_true_eq]
  exact ⟨fun h => ⟨⟨h.2.1, h.1⟩, h.2.2⟩, fun h => ⟨h.1.2, h.1.1, h.2⟩⟩
theorem ch_of {t : TT} {N : Nat} (h64 : N <= 64) (hN : t.n = (N : Int)) (hs : t.s.length = N) (hd : t.d.length = N) (h1 : ∀ i, i < N -> sgB (t.s.getD i oP) (N : Int) = true) (h2 : ∀ i, i < N -> sgB (t.d.getD i oP) (N : Int) = true)
    (ss : ∀ i j, i < N -> j < N -> om (bp (t.s.getD i oP)) (bp (t.s.getD j oP)) = 0) (dd : ∀ i j, i < N -> j < N -> om (bp (t.d.getD i oP)) (bp (t.d.getD j oP)) = 0) (ds : ∀ i j, i < N -> j < N -> om (bp (t.d.getD i oP)) (bp (t.s.getD j oP)) = if i = j then 1 else 0) : chB t = true := by
  have hg : ∀ k, k < N -> sg2 t k = true := fun k hk => by
    unfold sg2
    rw [hN, h1 k hk, h2 k hk]
    rfl
  refine ch_iff.2 ⟨?_, fun k hk => hg k (by rw [hN] at hk; omega), fun i hi j hj => ?_⟩
  . unfold szB
    exact decide_eq_true ⟨by omega, by omega, by omega, by omega⟩
  . rw [hN, Int.toNat_natCast] at hi hj
    rw [pr_same hN (hg i hi) (hg j hj)]
    unfold prB'
    rw [com_zero.2 (ss i j hi hj), com_zero.2 (dd i j hi hj)]
    have h3 := ds i j hi hj
    by_cases e : i = j
    . rw [if_pos e] at h3
      rw [com_one.2 h3, decide_eq_false (fun h => h e)]
      rfl
    . rw [if_neg e] at h3
      rw [com_zero.2 h3, decide_eq_true e]
      rfl
theorem getD_set {l : List P} {k i : Nat} (p : P) (hi : i < l.length) : (l.set k p).getD i oP = if i = k then p else l.getD i oP := by
  rw [List.getD_eq_getElem?_getD, List.getElem?_set]
  by_cases e : k = i
  . subst e
    rw [if_pos rfl, if_pos hi, if_pos rfl]
    rfl
  . rw [if_neg e, if_neg (fun h => e h.symm), List.getD_eq_getElem?_getD]
theorem getD_ml {l : List P} {q : P} {k : Nat} {T : P -> Bool} {i : Nat} (hi : i < l.length) : (mlL l q k T).getD i oP = if i ≠ k /\ T (l.getD i oP) = true then pdP (l.getD i oP) q else l.getD i oP := by
  unfold mlL
  rw [List.getD_eq_getElem?_getD, upd_at _ _ _ _ hi, if_pos hi]
  rfl
theorem mul_as (a b c : P) : mulP (mulP a b) c = mulP a (mulP b c) := by
  refine P.ext' rfl (Nat.xor_assoc _ _ _) (Nat.xor_assoc _ _ _) ?_
  show mulPh (mulP a b) c = mulPh a (mulP b c)
  unfold mulP
  simp only [mulPh]
  rw [Nat.xor_assoc a.x, Nat.xor_assoc a.z]
  have h1 := pc_xor (a.z &&& c.x) (b.z &&& c.x)
  have h2 := pc_xor (a.z &&& b.x) (a.z &&& c.x)
  rw [← and_xor_r] at h1
  rw [Nat.and_comm a.z b.x, Nat.and_comm a.z c.x, ← and_xor_r, Nat.and_comm (b.x ^^^ c.x)] at h2
  rw [Nat.and_comm a.z c.x] at h1
  rw [Nat.and_comm a.z b.x]
  generalize pc ((a.z ^^^ b.z) &&& c.x) = u1 at *
  generalize pc (a.z &&& (b.x ^^^ c.x)) = u2 at *
  generalize pc (b.x &&& a.z) = u3 at *
  generalize pc (c.x &&& a.z) = u4 at *
  generalize pc (b.z &&& c.x) = u5 at *
  generalize pc ((a.x ^^^ b.x) &&& (a.z ^^^ b.z)) = u6 at *
  generalize pc ((b.x ^^^ c.x) &&& (b.z ^^^ c.z)) = u7 at *
  omega
theorem mul_sq {a q : P} (ha : 0 <= a.ph /\ a.ph <= 3) (hq : q.ph = 0 ∨ q.ph = 2) : mulP a (mulP q q) = a := by
  have ex : (mulP q q).x = 0 := Nat.xor_self _
  have ez : (mulP q q).z = 0 := Nat.xor_self _
  have ep : (mulP q q).ph = 0 := by
    show mulPh q q = 0
    unfold mulPh
    rw [Nat.xor_self, Nat.xor_self, Nat.and_comm q.z q.x]
    have : pc (0 &&& 0) = 0 := pc_zero
    rw [this]
    rcases hq with e | e <;> rw [e] <;> omega
  generalize mulP q q = o at *
  refine P.ext' rfl ?_ ?_ ?_
  . show a.x ^^^ o.x = a.x; rw [ex, Nat.xor_zero]
  . show a.z ^^^ o.z = a.z; rw [ez, Nat.xor_zero]
  . show mulPh a o = a.ph
    unfold mulPh
    rw [ex, ez, ep, Nat.xor_zero, Nat.xor_zero, Nat.and_zero, Nat.and_zero, pc_zero]
    omega
theorem one_mul {N : Nat} {a : P} (ha : Rr N a) : mulP ⟨(N : Int), 0, 0, 0⟩ a = a := by
  obtain ⟨-, -, -, -, h4, h5⟩ := rt_iff.1 ha.1
  refine P.ext' ha.2.symm (Nat.zero_xor _) (Nat.zero_xor _) ?_
  show mulPh _ a = a.ph
  unfold mulPh
  simp only
  rw [Nat.zero_xor, Nat.zero_xor, Nat.zero_and, Nat.zero_and, pc_zero]
  omega
theorem al_succ {t : TT} {N : Nat} (hc : chB t = true) (hN : t.n = (N : Int)) {r : P} (hr : Rr N r) {k : Nat} (hk : k < N) : alP t r (k + 1) = if om (bp (t.d.getD k oP)) (bp r) = 0 then alP t r k else pdP (alP t r k) (t.s.getD k oP) := by
  have h := sg_rr hN ((ch_iff.1 hc).2.1 k (by rw [hN]; omega))
  rw [alP, cm_eq h.2 hr]
  cases e : comB (t.d.getD k oP) r
  . rw [if_neg (by decide), if_neg (by rw [com_one.1 e]; decide)]
  . rw [if_pos rfl, if_pos (com_zero.1 e)]
theorem sg_of {t : TT} {N : Nat} (hc : chB t = true) (hN : t.n = (N : Int)) {i : Nat} (hi : i < N) : sgB (t.s.getD i oP) (N : Int) = true /\ sgB (t.d.getD i oP) (N : Int) = true := by
  have := (ch_iff.1 hc).2.1 i (by rw [hN]; omega)
  unfold sg2 at this
  rw [hN, Bool.and_eq_true] at this
  exact this
end Go.Proofs.YtaggifpnamjghaaDoor.Tbl
