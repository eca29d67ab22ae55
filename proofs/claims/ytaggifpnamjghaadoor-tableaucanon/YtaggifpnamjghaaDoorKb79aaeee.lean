import Derived.Test.YtaggifpnamjghaaDoorKb16ca590
namespace Go.Proofs.YtaggifpnamjghaaDoor.Tbl
open Go.RowKit Go.Shelf Go.Proofs.YtaggifpnamjghaaDoor.Pau Go.Proofs.YtaggifpnamjghaaDoor.Gt
def uT (t : TT) (i k : Nat) : TT := ⟨t.n, t.s.set i (pdP (t.s.getD i oP) (t.s.getD k oP)), t.d.set k (pdP (t.d.getD k oP) (t.d.getD i oP))⟩
def vT (t : TT) (i k : Nat) : TT := ⟨t.n, (t.s.set i (t.s.getD k oP)).set k (t.s.getD i oP), (t.d.set i (t.d.getD k oP)).set k (t.d.getD i oP)⟩
theorem len_of {t : TT} {N : Nat} (hc : chB t = true) (hN : t.n = (N : Int)) : t.s.length = N /\ t.d.length = N := by
  obtain ⟨-, -, h3, h4⟩ := sz_of (ch_size hc)
  rw [hN, Int.toNat_natCast] at h3 h4
  exact ⟨h3, h4⟩
theorem sg_pd {N : Nat} {a b : P} (ha : sgB a (N : Int) = true) (hb : sgB b (N : Int) = true) (h : om (bp a) (bp b) = 0) : sgB (pdP a b) (N : Int) = true := by
  obtain ⟨ra, pa⟩ := sgB_iff.1 ha
  obtain ⟨rb, pb⟩ := sgB_iff.1 hb
  refine sgB_iff.2 ⟨(ra.pd rb).2, ?_⟩
  rw [(ra.pd rb).1]
  exact ph_even pa pb h
theorem om_xo2 (a b c : Nat × Nat) : om c (xo a b) = (om c a + om c b) % 2 := by rw [om_comm, om_xo, om_comm a, om_comm b]
theorem uT_ch {t : TT} {N i k : Nat} (hc : chB t = true) (hN : t.n = (N : Int)) (hi : i < N) (hk : k < N) (hne : i ≠ k) : chB (uT t i k) = true := by
  obtain ⟨ls, ld⟩ := len_of hc hN
  have sy := ch_sy hc hN
  have es : ∀ a, a < N -> (uT t i k).s.getD a oP = if a = i then pdP (t.s.getD i oP) (t.s.getD k oP) else t.s.getD a oP := fun a ha => getD_set _ (by omega)
  have ed : ∀ a, a < N -> (uT t i k).d.getD a oP = if a = k then pdP (t.d.getD k oP) (t.d.getD i oP) else t.d.getD a oP := fun a ha => getD_set _ (by omega)
  have g1 := fun a (ha : a < N) => (sg_of hc hN ha).1
  have g2 := fun a (ha : a < N) => (sg_of hc hN ha).2
  have bs : bp (pdP (t.s.getD i oP) (t.s.getD k oP)) = xo (bp (t.s.getD i oP)) (bp (t.s.getD k oP)) := bp_pd (sgB_iff.1 (g1 i hi)).1 (sgB_iff.1 (g1 k hk)).1
  have bd : bp (pdP (t.d.getD k oP) (t.d.getD i oP)) = xo (bp (t.d.getD k oP)) (bp (t.d.getD i oP)) := bp_pd (sgB_iff.1 (g2 k hk)).1 (sgB_iff.1 (g2 i hi)).1
  have ss := sy.ss
  have dd := sy.dd
  have ds := sy.ds
  refine ch_of (n64_of hc hN) hN (by show (List.set _ _ _).length = N; rw [List.length_set, ls]) (by show (List.set _ _ _).length = N; rw [List.length_set, ld]) (fun a ha => ?_) (fun a ha => ?_) (fun a b ha hb => ?_) (fun a b ha hb => ?_) (fun a b ha hb => ?_)
  . rw [es a ha]
    split
    . exact sg_pd (g1 i hi) (g1 k hk) (ss i k hi hk)
    . exact g1 a ha
  . rw [ed a ha]
    split
    . exact sg_pd (g2 k hk) (g2 i hi) (dd k i hk hi)
    . exact g2 a ha
  . rw [es a ha, es b hb]
    split <;> split
    . rw [bs, om_xo, om_xo2, om_xo2, ss i i hi hi, ss i k hi hk, ss k i hk hi, ss k k hk hk]
    . rw [bs, om_xo, ss i b hi hb, ss k b hk hb]
    . rw [bs, om_xo2, ss a i ha hi, ss a k ha hk]
    . exact ss a b ha hb
  . rw [ed a ha, ed b hb]
    split <;> split
    . rw [bd, om_xo, om_xo2, om_xo2, dd i i hi hi, dd i k hi hk, dd k i hk hi, dd k k hk hk]
    . rw [bd, om_xo, dd i b hi hb, dd k b hk hb]
    . rw [bd, om_xo2, dd a i ha hi, dd a k ha hk]
    . exact dd a b ha hb
  . rw [ed a ha, es b hb]
    by_cases e1 : a = k <;> by_cases e2 : b = i
    . rw [if_pos e1, if_pos e2, bs, bd, om_xo, om_xo2, om_xo2, ds k i hk hi, ds k k hk hk, ds i i hi hi, ds i k hi hk, if_neg (Ne.symm hne), if_pos rfl, if_pos rfl, if_neg hne, if_neg (by omega)]
    . rw [if_pos e1, if_neg e2, bd, om_xo, ds k b hk hb, ds i b hi hb, if_neg (show ¬ i = b by omega), e1]
      split <;> rfl
    . rw [if_neg e1, if_pos e2, bs, om_xo2, ds a i ha hi, ds a k ha hk, if_neg e1, e2]
      split <;> rfl
    . rw [if_neg e1, if_neg e2]
      exact ds a b ha hb
theorem mem_of_getD {l : List P} {i : Nat} {p : P} (hi : i < l.length) (e : l.getD i oP = p) : p ∈ l := by rw [← e]; exact mem_at hi
theorem getD_of {l : List P} {p : P} (h : p ∈ l) : ∃ j, j < l.length /\ l.getD j oP = p := by
  obtain ⟨j, hj, e⟩ := List.mem_iff_getElem.1 h
  exact ⟨j, hj, by rw [List.getD_eq_getElem?_getD, List.getElem?_eq_getElem hj, ← e]; rfl⟩
theorem uT_cn {t : TT} {N i k : Nat} (hc : chB t = true) (hN : t.n = (N : Int)) (hi : i < N) (hk : k < N) (hne : i ≠ k) : cnL t = cnL (uT t i k) := by
  obtain ⟨ls, ld⟩ := len_of hc hN
  have es : ∀ a, a < N -> (uT t i k).s.getD a oP = if a = i then pdP (t.s.getD i oP) (t.s.getD k oP) else t.s.getD a oP := fun a ha => getD_set _ (by omega)
  have lu : (uT t i k).s.length = N := by show (List.set _ _ _).length = N; rw [List.length_set, ls]
  obtain ⟨ri, pi⟩ := sgB_iff.1 (sg_of hc hN hi).1
  obtain ⟨rk, pk⟩ := sgB_iff.1 (sg_of hc hN hk).1
  refine cn_same hc hN (uT_ch hc hN hi hk hne) hN (fun p hp => ?_) (fun p hp => ?_)
  . obtain ⟨j, hj, e⟩ := getD_of hp
    by_cases e1 : j = i
    . have o1 : Gn N (uT t i k).s (pdP (t.s.getD i oP) (t.s.getD k oP)) := .own (mem_of_getD (i := i) (by omega) (by rw [es i hi, if_pos rfl]))
      have o2 : Gn N (uT t i k).s (t.s.getD k oP) := .own (mem_of_getD (i := k) (by omega) (by rw [es k hk, if_neg (Ne.symm hne)]))
      have o3 := Gn.mul o1 o2
      have h0 := rt_iff.1 ri.1
      rw [((ri.pd rk).2.pd rk).1, (ri.pd rk).1, mul_as, mul_sq ⟨h0.2.2.2.2.1, h0.2.2.2.2.2⟩ pk] at o3
      rw [← e, e1]
      exact o3
    . exact .own (mem_of_getD (i := j) (by omega) (by rw [es j (by omega), if_neg e1, e]))
  . obtain ⟨j, hj, e⟩ := getD_of hp
    rw [es j (by omega)] at e
    split at e
    . rw [← e]
      exact .mul (.own (mem_at (by omega))) (.own (mem_at (by omega)))
    . exact .own (mem_of_getD (i := j) (by omega) e)
def tau (i k a : Nat) : Nat := if a = k then i else if a = i then k else a
theorem tau_lt {N i k a : Nat} (hi : i < N) (hk : k < N) (ha : a < N) : tau i k a < N := by unfold tau; split <;> (try split) <;> omega
theorem tau_inj {i k a b : Nat} : tau i k a = tau i k b ↔ a = b := by
  unfold tau
  constructor
  . intro h
    split at h <;> split at h <;> (try split at h) <;> (try split at h) <;> omega
  . intro h; rw [h]
theorem tau_tau (i k a : Nat) : tau i k (tau i k a) = a := by
  unfold tau
  by_cases e1 : a = k
  . rw [if_pos e1]
    by_cases e2 : i = k
    . rw [if_pos e2]; omega
    . rw [if_neg e2, if_pos rfl, e1]
  . rw [if_neg e1]
    by_cases e2 : a = i
    . rw [if_pos e2, if_pos rfl, e2]
    . rw [if_neg e2, if_neg e1, if_neg e2]
theorem sw_tau {l : List P} {i k a : Nat} (ha : a < l.length) : ((l.set i (l.getD k oP)).set k (l.getD i oP)).getD a oP = l.getD (tau i k a) oP := by
  rw [getD_set _ (by rw [List.length_set]; exact ha), getD_set _ ha]
  unfold tau
  split
  . rfl
  . split <;> rfl
theorem vT_ch {t : TT} {N i k : Nat} (hc : chB t = true) (hN : t.n = (N : Int)) (hi : i < N) (hk : k < N) : chB (vT t i k) = true := by
  obtain ⟨ls, ld⟩ := len_of hc hN
  have sy := ch_sy hc hN
  have es : ∀ a, a < N -> (vT t i k).s.getD a oP = t.s.getD (tau i k a) oP := fun a ha => sw_tau (by omega)
  have ed : ∀ a, a < N -> (vT t i k).d.getD a oP = t.d.getD (tau i k a) oP := fun a ha => sw_tau (by omega)
  refine ch_of (n64_of hc hN) hN (by show (List.set _ _ _).length = N; rw [List.length_set, List.length_set, ls]) (by show (List.set _ _ _).length = N; rw [List.length_set, List.length_set, ld]) (fun a ha => ?_) (fun a ha => ?_) (fun a b ha hb => ?_) (fun a b ha hb => ?_) (fun a b ha hb => ?_)
  . rw [es a ha]; exact (sg_of hc hN (tau_lt hi hk ha)).1
  . rw [ed a ha]; exact (sg_of hc hN (tau_lt hi hk ha)).2
  . rw [es a ha, es b hb]; exact sy.ss _ _ (tau_lt hi hk ha) (tau_lt hi hk hb)
  . rw [ed a ha, ed b hb]; exact sy.dd _ _ (tau_lt hi hk ha) (tau_lt hi hk hb)
  . rw [ed a ha, es b hb]
    have := sy.ds _ _ (tau_lt hi hk ha) (tau_lt hi hk hb)
    simp only [tau_inj] at this
    exact this
theorem vT_cn {t : TT} {N i k : Nat} (hc : chB t = true) (hN : t.n = (N : Int)) (hi : i < N) (hk : k < N) : cnL t = cnL (vT t i k) := by
  obtain ⟨ls, ld⟩ := len_of hc hN
  have lv : (vT t i k).s.length = N := by show (List.set _ _ _).length = N; rw [List.length_set, List.length_set, ls]
  have es : ∀ a, a < N -> (vT t i k).s.getD a oP = t.s.getD (tau i k a) oP := fun a ha => sw_tau (by omega)
  refine cn_same hc hN (vT_ch hc hN hi hk) hN (fun p hp => ?_) (fun p hp => ?_)
  . obtain ⟨j, hj, e⟩ := getD_of hp
    have h1 := tau_lt hi hk (show j < N by omega)
    exact .own (mem_of_getD (i := tau i k j) (by omega) (by rw [es _ h1, tau_tau, e]))
  . obtain ⟨j, hj, e⟩ := getD_of hp
    rw [es j (by omega)] at e
    exact .own (mem_of_getD (i := tau i k j) (by have := tau_lt hi hk (show j < N by omega); omega) e)
theorem sm_of {t u : TT} (hc : chB t = true) (kc : chB u = true) (hn : t.n = u.n) (he : cnL t = cnL u) : smB t u = true := by
  unfold smB chI
  rw [if_pos hc, if_pos kc, decide_eq_true hn, decide_eq_true he]
  rfl
end Go.Proofs.YtaggifpnamjghaaDoor.Tbl
