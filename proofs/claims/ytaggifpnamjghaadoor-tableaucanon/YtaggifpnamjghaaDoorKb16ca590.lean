import Derived.Test.YtaggifpnamjghaaDoorK49e7c198
namespace Go.Proofs.YtaggifpnamjghaaDoor.Tbl
open Go.RowKit Go.Shelf Go.Proofs.YtaggifpnamjghaaDoor.Pau Go.Proofs.YtaggifpnamjghaaDoor.Gt
theorem al_even {t : TT} {N : Nat} (hc : chB t = true) (hN : t.n = (N : Int)) {p : P} (hp : Rr N p) : ∀ k, k <= N -> (alP t p k).ph = 0 ∨ (alP t p k).ph = 2
  | 0, _ => Or.inl rfl
  | k + 1, hk => by
    have ih := al_even hc hN hp k (by omega)
    have ra := al_rr hc hN p k (by omega)
    obtain ⟨rs, ps⟩ := sgB_iff.1 (sg_of hc hN (show k < N by omega)).1
    rw [al_succ hc hN hp (by omega)]
    split
    . exact ih
    . rw [(ra.pd rs).1]
      exact ph_even ih ps ((al_om hc hN hp k (by omega)).1 k (by omega))
structure Ms (t u : TT) (q v : Int) : Prop where
  pr : prR t q v = (u, 0)
  ch : chB u = true
  n : u.n = t.n
  cq : cqI u q = 0
  od : odI u q = v
  pr2 : prR u q v = (u, 0)
  no : (prR u q (1 - v)).2 = 142
  keep : ∀ p, sgB p t.n = true -> memI t p ≠ 0 -> comB p (lzP t.n q.toNat 0) = true -> memI u p = memI t p
inductive Gn (N : Nat) (l : List P) : P -> Prop
  | one : Gn N l ⟨(N : Int), 0, 0, 0⟩
  | own {p : P} : p ∈ l -> Gn N l p
  | mul {p q : P} : Gn N l p -> Gn N l q -> Gn N l (pdP p q)
theorem Gn.sub {N : Nat} {l m : List P} {p : P} (h : ∀ q ∈ l, Gn N m q) (hp : Gn N l p) : Gn N m p := by
  induction hp with
  | one => exact .one
  | own hq => exact h _ hq
  | mul _ _ a b => exact .mul a b
theorem bp_pd {N : Nat} {a b : P} (ha : Rr N a) (hb : Rr N b) : bp (pdP a b) = xo (bp a) (bp b) := by rw [(ha.pd hb).1]; rfl
theorem al_bit {t : TT} {N : Nat} (hc : chB t = true) (hN : t.n = (N : Int)) {g h : P} (hg : Rr N g) (hh : Rr N h) (e : bp g = bp h) : ∀ k, k <= N -> alP t g k = alP t h k
  | 0, _ => rfl
  | k + 1, hk => by rw [al_succ hc hN hg (by omega), al_succ hc hN hh (by omega), e, al_bit hc hN hg hh e k (by omega)]
theorem al_zero {t : TT} {N : Nat} (hN : t.n = (N : Int)) (g : P) : alP t g 0 = ⟨(N : Int), 0, 0, 0⟩ := by rw [alP, hN]
theorem n64_of {t : TT} {N : Nat} (hc : chB t = true) (hN : t.n = (N : Int)) : N <= 64 := by
  have := (sz_of (ch_size hc)).2.1
  omega
theorem al_mul {t : TT} {N : Nat} (hc : chB t = true) (hN : t.n = (N : Int)) {g h : P} (hg : Rr N g) (hh : Rr N h) : ∀ k, k <= N -> alP t (pdP g h) k = pdP (alP t g k) (alP t h k)
  | 0, _ => by
    have ri := rr_id (n64_of hc hN)
    rw [al_zero hN, al_zero hN, al_zero hN, (ri.pd ri).1, one_mul ri]
  | k + 1, hk => by
    have ih := al_mul hc hN hg hh k (by omega)
    obtain ⟨rs, ps⟩ := sgB_iff.1 (sg_of hc hN (show k < N by omega)).1
    have ra := al_rr hc hN g k (by omega)
    have rb := al_rr hc hN h k (by omega)
    have cb := (al_om hc hN hh k (by omega)).1 k (by omega)
    rw [om_comm] at cb
    have ecb : mulP (t.s.getD k oP) (alP t h k) = mulP (alP t h k) (t.s.getD k oP) := (com_iff (rs.fit rb)).1 (com_zero.2 cb)
    have eo : om (bp (t.d.getD k oP)) (bp (pdP g h)) = (om (bp (t.d.getD k oP)) (bp g) + om (bp (t.d.getD k oP)) (bp h)) % 2 := by
      rw [bp_pd hg hh, om_comm, om_xo, om_comm (bp g), om_comm (bp h)]
    rw [al_succ hc hN (hg.pd hh).2 (by omega), al_succ hc hN hg (by omega), al_succ hc hN hh (by omega), ih, eo]
    have la := om_lt (bp (t.d.getD k oP)) (bp g)
    have lb := om_lt (bp (t.d.getD k oP)) (bp h)
    generalize om (bp (t.d.getD k oP)) (bp g) = x at *
    generalize om (bp (t.d.getD k oP)) (bp h) = y at *
    generalize t.s.getD k oP = s at *
    generalize alP t g k = A at *
    generalize alP t h k = B at *
    have hx : x = 0 ∨ x = 1 := by omega
    have hy : y = 0 ∨ y = 1 := by omega
    rcases hx with rfl | rfl <;> rcases hy with rfl | rfl
    . rfl
    . show pdP (pdP A B) s = pdP A (pdP B s)
      rw [((ra.pd rb).2.pd rs).1, (ra.pd rb).1, (ra.pd (rb.pd rs).2).1, (rb.pd rs).1, mul_as]
    . show pdP (pdP A B) s = pdP (pdP A s) B
      rw [((ra.pd rb).2.pd rs).1, (ra.pd rb).1, ((ra.pd rs).2.pd rb).1, (ra.pd rs).1, mul_as, mul_as, ecb]
    . show pdP A B = pdP (pdP A s) (pdP B s)
      have h0 := rt_iff.1 (ra.pd rb).2.1
      rw [(ra.pd rb).1] at h0
      rw [((ra.pd rs).2.pd (rb.pd rs).2).1, (ra.pd rs).1, (rb.pd rs).1, (ra.pd rb).1, mul_as, ← mul_as s B s, ecb, mul_as B s s, ← mul_as]
      exact (mul_sq ⟨h0.2.2.2.2.1, h0.2.2.2.2.2⟩ ps).symm
theorem al_own {t : TT} {N : Nat} (hc : chB t = true) (hN : t.n = (N : Int)) {j : Nat} (hj : j < N) : ∀ k, k <= N -> alP t (t.s.getD j oP) k = if j < k then t.s.getD j oP else ⟨(N : Int), 0, 0, 0⟩
  | 0, _ => al_zero hN _
  | k + 1, hk => by
    have ih := al_own hc hN hj k (by omega)
    have rj := (sgB_iff.1 (sg_of hc hN hj).1).1
    have ri := rr_id (n64_of hc hN)
    rw [al_succ hc hN rj (by omega), ih, (ch_sy hc hN).ds k j (by omega) hj]
    by_cases e : k = j
    . subst e
      rw [if_pos rfl, if_neg (by omega), if_neg (by omega), if_pos (by omega), (ri.pd rj).1, one_mul rj]
    . rw [if_neg e, if_pos rfl]
      by_cases h2 : j < k
      . rw [if_pos h2, if_pos (by omega)]
      . rw [if_neg h2, if_neg (by omega)]
theorem al_id {t : TT} {N : Nat} (hc : chB t = true) (hN : t.n = (N : Int)) : ∀ k, k <= N -> alP t ⟨(N : Int), 0, 0, 0⟩ k = ⟨(N : Int), 0, 0, 0⟩
  | 0, _ => al_zero hN _
  | k + 1, hk => by
    have e : om (bp (t.d.getD k oP)) (bp ⟨(N : Int), 0, 0, 0⟩) = 0 := by rw [om_comm]; exact om_zero _
    rw [al_succ hc hN (rr_id (n64_of hc hN)) (by omega), if_pos e, al_id hc hN k (by omega)]
structure Kg (t : TT) (N : Nat) (g : P) : Prop where
  rr : Rr N g
  al : alP t g N = g
theorem Kg.ph {t : TT} {N : Nat} (hc : chB t = true) (hN : t.n = (N : Int)) {g : P} (h : Kg t N g) : g.ph = 0 ∨ g.ph = 2 := by
  have := al_even hc hN h.rr N (Nat.le_refl _)
  rw [h.al] at this
  exact this
theorem gn_kg {t : TT} {N : Nat} (hc : chB t = true) (hN : t.n = (N : Int)) {g : P} (h : Gn N t.s g) : Kg t N g := by
  induction h with
  | one => exact ⟨rr_id (n64_of hc hN), al_id hc hN N (Nat.le_refl _)⟩
  | own hq =>
    obtain ⟨j, hj, rfl⟩ := List.mem_iff_getElem.1 hq
    have hl := (sz_of (ch_size hc)).2.2.1
    rw [hN, Int.toNat_natCast] at hl
    have e : t.s[j] = t.s.getD j oP := by rw [List.getD_eq_getElem?_getD, List.getElem?_eq_getElem hj]; rfl
    rw [e]
    refine ⟨(sgB_iff.1 (sg_of hc hN (by omega)).1).1, ?_⟩
    rw [al_own hc hN (by omega) N (Nat.le_refl _), if_pos (by omega)]
  | mul _ _ a b => exact ⟨(a.rr.pd b.rr).2, by rw [al_mul hc hN a.rr b.rr N (Nat.le_refl _), a.al, b.al]⟩
theorem gn_uniq {t : TT} {N : Nat} (hc : chB t = true) (hN : t.n = (N : Int)) {g h : P} (hg : Gn N t.s g) (hh : Gn N t.s h) (e : bp g = bp h) : g = h := by
  have kg := gn_kg hc hN hg
  have kh := gn_kg hc hN hh
  exact kg.al.symm.trans ((al_bit hc hN kg.rr kh.rr e N (Nat.le_refl _)).trans kh.al)
theorem bit_lt (N : Nat) (p : P) (c : Nat) : bitN N p c < 2 := by unfold bitN; split <;> exact bt_lt _ _
theorem bit_id (N c : Nat) : bitN N ⟨(N : Int), 0, 0, 0⟩ c = 0 := by unfold bitN; split <;> exact bt_zero _
theorem bit_pd {N : Nat} {a b : P} (ha : Rr N a) (hb : Rr N b) (c : Nat) : bitN N (pdP a b) c = (bitN N a c + bitN N b c) % 2 := by
  rw [(ha.pd hb).1]
  unfold bitN
  split
  . exact bt_xor _ _ _
  . exact bt_xor _ _ _
theorem bit_ext {N : Nat} {a b : P} (ha : Rr N a) (hb : Rr N b) (h : ∀ c, c < 2 * N -> bitN N a c = bitN N b c) : bp a = bp b := by
  have h1 := rr_bp ha
  have h2 := rr_bp hb
  have e1 : a.x = b.x := bt_le_ext h1.1 h2.1 (fun q hq => by
    have := h q (by omega)
    unfold bitN at this
    rw [if_pos hq, if_pos hq] at this
    exact this)
  have e2 : a.z = b.z := bt_le_ext h1.2 h2.2 (fun q hq => by
    have := h (N + q) (by omega)
    unfold bitN at this
    rw [if_neg (by omega), if_neg (by omega), show N + q - N = q by omega] at this
    exact this)
  unfold bp
  rw [e1, e2]
structure Ec (N : Nat) (m : List P) (r C : Nat) (pv : Nat -> Nat) : Prop where
  le : r <= m.length
  lt : ∀ i, i < r -> pv i < C
  inc : ∀ i j, i < j -> j < r -> pv i < pv j
  one : ∀ i, i < r -> bitN N (m.getD i oP) (pv i) = 1
  off : ∀ i j, i < r -> j < m.length -> j ≠ i -> bitN N (m.getD j oP) (pv i) = 0
  low : ∀ i c, i < r -> c < pv i -> bitN N (m.getD i oP) c = 0
  zer : ∀ i c, r <= i -> i < m.length -> c < C -> bitN N (m.getD i oP) c = 0
theorem rr_at {N : Nat} {m : List P} (h : ∀ p ∈ m, Rr N p) {i : Nat} (hi : i < m.length) : Rr N (m.getD i oP) := rr_getD h hi
theorem mem_at {m : List P} {i : Nat} (hi : i < m.length) : m.getD i oP ∈ m := List.mem_of_getElem? (get_of hi)
theorem ec_sum {N : Nat} {m : List P} {r : Nat} {pv : Nat -> Nat} (hr : ∀ p ∈ m, Rr N p) (h64 : N <= 64) (h : Ec N m r (2 * N) pv) {g : P} (hg : Gn N m g) : Rr N g /\ ∀ c, c < 2 * N -> bitN N g c = sm r (fun i => bitN N g (pv i) * bitN N (m.getD i oP) c) % 2 := by
  induction hg with
  | one =>
    refine ⟨rr_id h64, fun c _ => ?_⟩
    rw [bit_id, sm_zero r (fun q _ => by rw [bit_id]; omega)]
  | @own p hp =>
    obtain ⟨j, hj, e⟩ := List.mem_iff_getElem.1 hp
    have ej : m.getD j oP = p := by rw [List.getD_eq_getElem?_getD, List.getElem?_eq_getElem hj, ← e]; rfl
    refine ⟨hr _ hp, fun c hc => ?_⟩
    rw [← ej]
    by_cases h1 : j < r
    . rw [sm_one r j h1 (fun i hi hne => by rw [h.off i j hi hj (fun e => hne e.symm)]; omega), h.one j h1, Nat.one_mul]
      exact (Nat.mod_eq_of_lt (bit_lt _ _ _)).symm
    . rw [h.zer j c (by omega) hj hc, sm_zero r (fun i hi => by rw [h.off i j hi hj (by omega)]; omega)]
  | @mul p q _ _ a b =>
    refine ⟨(a.1.pd b.1).2, fun c hc => ?_⟩
    have e : sm r (fun i => bitN N (pdP p q) (pv i) * bitN N (m.getD i oP) c) % 2 = (sm r (fun i => bitN N p (pv i) * bitN N (m.getD i oP) c) + sm r (fun i => bitN N q (pv i) * bitN N (m.getD i oP) c)) % 2 := by
      rw [← sm_add]
      exact sm_mod 2 r (fun i _ => by rw [bit_pd a.1 b.1, ← Nat.add_mul, Nat.mod_mul_mod])
    rw [e, bit_pd a.1 b.1, a.2 c hc, b.2 c hc, ← Nat.add_mod]
theorem ec_lead {N : Nat} {m : List P} {r : Nat} {pv : Nat -> Nat} (hr : ∀ p ∈ m, Rr N p) (h64 : N <= 64) (h : Ec N m r (2 * N) pv) {g : P} (hg : Gn N m g) {L : Nat} (hL : L < 2 * N) (h1 : bitN N g L = 1) (h0 : ∀ c, c < L -> bitN N g c = 0) : ∃ i, i < r /\ pv i = L := by
  have hs := (ec_sum hr h64 h hg).2 L hL
  rw [h1] at hs
  refine Classical.byContradiction fun hno => ?_
  rw [sm_zero r (fun i hi => ?_)] at hs
  . simp at hs
  . by_cases e1 : pv i < L
    . rw [h0 _ e1]; omega
    . have : pv i ≠ L := fun e => hno ⟨i, hi, e⟩
      rw [h.low i L hi (by omega)]
      omega
theorem inc_eq {r s : Nat} {f g : Nat -> Nat} (hf : ∀ i j, i < j -> j < r -> f i < f j) (hg : ∀ i j, i < j -> j < s -> g i < g j) (h1 : ∀ i, i < r -> ∃ j, j < s /\ g j = f i) (h2 : ∀ j, j < s -> ∃ i, i < r /\ f i = g j) : ∀ n i, i < n -> i < r -> i < s /\ f i = g i
  | 0, i, hi, _ => by omega
  | n + 1, i, hi, hr => by
    have ih := inc_eq hf hg h1 h2 n
    by_cases hin : i < n
    . exact ih i hin hr
    . obtain rfl : i = n := by omega
      obtain ⟨j, hj, ej⟩ := h1 i hr
      have hij : i <= j := by
        refine Classical.byContradiction fun hc => ?_
        have := (ih j (by omega) (by omega)).2
        have := hf j i (by omega) hr
        omega
      obtain ⟨k, hk, ek⟩ := h2 i (by omega)
      have hik : i <= k := by
        refine Classical.byContradiction fun hc => ?_
        have := (ih k (by omega) hk).2
        have := hg k i (by omega) (by omega)
        omega
      refine ⟨by omega, ?_⟩
      have a1 : f i <= f k := by
        by_cases e : i = k
        . rw [e]; exact Nat.le_refl _
        . exact Nat.le_of_lt (hf i k (by omega) hk)
      have a2 : g i <= g j := by
        by_cases e : i = j
        . rw [e]; exact Nat.le_refl _
        . exact Nat.le_of_lt (hg i j (by omega) hj)
      omega
theorem ec_uniq {N : Nat} {m n : List P} {r s : Nat} {pv pw : Nat -> Nat} (h64 : N <= 64) (hm : ∀ p ∈ m, Rr N p) (hn : ∀ p ∈ n, Rr N p) (h : Ec N m r (2 * N) pv) (k : Ec N n s (2 * N) pw) (hl : m.length = n.length) (hmn : ∀ p ∈ m, Gn N n p) (hnm : ∀ p ∈ n, Gn N m p) (hu : ∀ g g', Gn N m g -> Gn N m g' -> bp g = bp g' -> g = g') : m = n := by
  have p1 : ∀ j, j < s -> ∃ i, i < r /\ pv i = pw j := fun j hj => ec_lead hm h64 h (hnm _ (mem_at (by have := k.le; omega))) (k.lt j hj) (k.one j hj) (fun c hc => k.low j c hj hc)
  have p2 : ∀ i, i < r -> ∃ j, j < s /\ pw j = pv i := fun i hi => ec_lead hn h64 k (hmn _ (mem_at (by have := h.le; omega))) (h.lt i hi) (h.one i hi) (fun c hc => h.low i c hi hc)
  have e1 := fun i (hi : i < r) => inc_eq h.inc k.inc p2 p1 (i + 1) i (by omega) hi
  have e2 := fun j (hj : j < s) => inc_eq k.inc h.inc p1 p2 (j + 1) j (by omega) hj
  have ers : r = s := by
    by_cases c1 : r < s
    . have := (e2 r c1).1; omega
    . by_cases c2 : s < r
      . have := (e1 s c2).1; omega
      . omega
  subst ers
  refine List.ext_getElem? fun j => ?_
  by_cases hj : j < m.length
  . rw [get_of hj, get_of (by omega)]
    congr 1
    have ra := rr_at hm hj
    have rb := rr_at hn (show j < n.length by omega)
    have gb := hnm _ (mem_at (show j < n.length by omega))
    refine hu _ _ (.own (mem_at hj)) gb (bit_ext ra rb fun c hc => ?_)
    by_cases h1 : j < r
    . rw [(ec_sum hm h64 h gb).2 c hc, sm_one r j h1 (fun i hi hne => by rw [(e1 i hi).2, k.off i j hi (by omega) (fun e => hne e.symm)]; omega), (e1 j h1).2, k.one j h1, Nat.one_mul]
      exact (Nat.mod_eq_of_lt (bit_lt _ _ _)).symm
    . rw [h.zer j c (by omega) hj hc, k.zer j c (by omega) (by omega) hc]
  . rw [List.getElem?_eq_none (by omega), List.getElem?_eq_none (by omega)]
def swR (l : List P) (K r j : Nat) : P := if j = K then l.getD r oP else if j = r then l.getD K oP else l.getD j oP
theorem sw_at {l : List P} {K r j : Nat} (hj : j < l.length) : ((l.set r (l.getD K oP)).set K (l.getD r oP)).getD j oP = swR l K r j := by
  unfold swR
  rw [getD_set _ (by rw [List.length_set]; exact hj), getD_set _ hj]
structure Pv (N c : Nat) (l : List P) (r K : Nat) : Prop where
  rk : r <= K
  kl : K < l.length
  one : bitN N (l.getD K oP) c = 1
theorem pv_of {N c : Nat} {l : List P} {r : Nat} (ha : (l.drop r).any (bitB N c) = true) : Pv N c l r (pvK N c (l, r)) := by
  obtain ⟨x, hx, hT⟩ := List.any_eq_true.1 ha
  have hlt := List.findIdx_lt_length_of_exists (p := bitB N c) ⟨x, hx, hT⟩
  have hb := List.findIdx_getElem (p := bitB N c) (xs := l.drop r) (w := hlt)
  have hl := hlt
  rw [List.length_drop] at hl
  refine ⟨Nat.le_add_right _ _, by show r + (l.drop r).findIdx (bitB N c) < l.length; omega, ?_⟩
  have e : l.getD (pvK N c (l, r)) oP = (l.drop r)[(l.drop r).findIdx (bitB N c)] := by
    show l.getD (r + (l.drop r).findIdx (bitB N c)) oP = _
    rw [List.getD_eq_getElem?_getD, ← List.getElem?_drop, List.getElem?_eq_getElem hlt]
    rfl
  rw [e]
  unfold bitB at hb
  exact beq_iff_eq.1 hb
theorem red_some {N c : Nat} {l : List P} {r : Nat} (ha : (l.drop r).any (bitB N c) = true) : redC N c (l, r) = (mlL ((l.set r (l.getD (pvK N c (l, r)) oP)).set (pvK N c (l, r)) (l.getD r oP)) (l.getD (pvK N c (l, r)) oP) r (bitB N c), r + 1) := by unfold redC; rw [if_pos ha]
theorem red_none {N c : Nat} {l : List P} {r : Nat} (ha : ¬ (l.drop r).any (bitB N c) = true) : redC N c (l, r) = (l, r) := by unfold redC; rw [if_neg ha]
theorem red_row {N c : Nat} {l : List P} {r K j : Nat} (hj : j < l.length) : (mlL ((l.set r (l.getD K oP)).set K (l.getD r oP)) (l.getD K oP) r (bitB N c)).getD j oP = if j ≠ r /\ bitN N (swR l K r j) c = 1 then pdP (swR l K r j) (l.getD K oP) else swR l K r j := by
  rw [getD_ml (by rw [List.length_set, List.length_set]; exact hj), sw_at hj]
  have e : (bitB N c (swR l K r j) = true) = (bitN N (swR l K r j) c = 1) := by unfold bitB; exact propext beq_iff_eq
  simp only [e]
theorem red_len {N c : Nat} {l : List P} {r K : Nat} : (mlL ((l.set r (l.getD K oP)).set K (l.getD r oP)) (l.getD K oP) r (bitB N c)).length = l.length := by rw [ml_len, List.length_set, List.length_set]
theorem sw_r {l : List P} {K r : Nat} : swR l K r r = l.getD K oP := by
  unfold swR
  by_cases e : r = K
  . rw [if_pos e, e]
  . rw [if_neg e, if_pos rfl]
theorem sw_lo {l : List P} {K r j : Nat} (h : j < r) (hk : r <= K) : swR l K r j = l.getD j oP := by
  unfold swR
  rw [if_neg (by omega), if_neg (by omega)]
theorem sw_hi {l : List P} {K r j : Nat} (h : r <= j) (hj : j < l.length) (hk : r <= K) (hK : K < l.length) : ∃ i, r <= i /\ i < l.length /\ swR l K r j = l.getD i oP := by
  unfold swR
  by_cases e : j = K
  . rw [if_pos e]; exact ⟨r, Nat.le_refl _, by omega, rfl⟩
  . rw [if_neg e]
    by_cases e2 : j = r
    . rw [if_pos e2]; exact ⟨K, hk, hK, rfl⟩
    . rw [if_neg e2]; exact ⟨j, h, hj, rfl⟩
theorem sw_mem {l : List P} {K r j : Nat} (hj : j < l.length) (hr : r < l.length) (hK : K < l.length) : ∃ i, i < l.length /\ swR l K r j = l.getD i oP := by
  unfold swR
  by_cases e : j = K
  . rw [if_pos e]; exact ⟨r, hr, rfl⟩
  . rw [if_neg e]
    by_cases e2 : j = r
    . rw [if_pos e2]; exact ⟨K, hK, rfl⟩
    . rw [if_neg e2]; exact ⟨j, hj, rfl⟩
theorem ec_step {N c : Nat} {l : List P} {r : Nat} {pv : Nat -> Nat} (hr : ∀ p ∈ l, Rr N p) (h : Ec N l r c pv) : ∃ pv', Ec N (redC N c (l, r)).1 (redC N c (l, r)).2 (c + 1) pv' := by
  by_cases ha : (l.drop r).any (bitB N c) = true
  . have hp := pv_of ha
    rw [red_some ha]
    generalize pvK N c (l, r) = K at *
    obtain ⟨hrk, hkl, h1⟩ := hp
    have rp := rr_at hr hkl
    have p0 : ∀ c', c' < c -> bitN N (l.getD K oP) c' = 0 := fun c' hc => h.zer K c' hrk hkl hc
    have pp : ∀ i, i < r -> bitN N (l.getD K oP) (pv i) = 0 := fun i hi => h.off i K hi hkl (by omega)
    have rs : ∀ j, j < l.length -> Rr N (swR l K r j) := fun j hj => by
      obtain ⟨i, hi, e⟩ := sw_mem (K := K) (r := r) hj (by omega) hkl
      rw [e]; exact rr_at hr hi
    have hb : ∀ j c', j < l.length -> bitN N ((mlL ((l.set r (l.getD K oP)).set K (l.getD r oP)) (l.getD K oP) r (bitB N c)).getD j oP) c' = if j ≠ r /\ bitN N (swR l K r j) c = 1 then (bitN N (swR l K r j) c' + bitN N (l.getD K oP) c') % 2 else bitN N (swR l K r j) c' := fun j c' hj => by
      rw [red_row hj]
      split
      . exact bit_pd (rs j hj) rp c'
      . rfl
    have key : ∀ j c', j < l.length -> bitN N (l.getD K oP) c' = 0 -> bitN N ((mlL ((l.set r (l.getD K oP)).set K (l.getD r oP)) (l.getD K oP) r (bitB N c)).getD j oP) c' = bitN N (swR l K r j) c' := fun j c' hj e => by
      rw [hb j c' hj, e]
      split
      . exact Nat.mod_eq_of_lt (bit_lt _ _ _)
      . rfl
    have clr : ∀ j, j < l.length -> j ≠ r -> bitN N ((mlL ((l.set r (l.getD K oP)).set K (l.getD r oP)) (l.getD K oP) r (bitB N c)).getD j oP) c = 0 := fun j hj hne => by
      rw [hb j c hj, h1]
      split
      . rename_i e; rw [e.2]
      . rename_i e
        have := bit_lt N (swR l K r j) c
        have : bitN N (swR l K r j) c ≠ 1 := fun e' => e ⟨hne, e'⟩
        omega
    refine ⟨fun i => if i < r then pv i else c, ?_, ?_, ?_, ?_, ?_, ?_, ?_⟩
    . show r + 1 <= _; rw [red_len]; omega
    . intro i hi
      by_cases e : i < r
      . show (if i < r then pv i else c) < c + 1
        rw [if_pos e]; have := h.lt i e; omega
      . show (if i < r then pv i else c) < c + 1
        rw [if_neg e]; omega
    . intro i j hij hj
      have hj' : j < r + 1 := hj
      show (if i < r then pv i else c) < (if j < r then pv j else c)
      rw [if_pos (by omega)]
      by_cases e : j < r
      . rw [if_pos e]; exact h.inc i j hij e
      . rw [if_neg e]; exact h.lt i (by omega)
    . intro i hi
      have hi' : i < r + 1 := hi
      show bitN N ((mlL _ _ r (bitB N c)).getD i oP) (if i < r then pv i else c) = 1
      by_cases e : i < r
      . rw [if_pos e, key i _ (by omega) (pp i e), sw_lo e hrk]; exact h.one i e
      . obtain rfl : i = r := by omega
        rw [if_neg e, hb i c (by omega), if_neg (fun e => e.1 rfl), sw_r]; exact h1
    . intro i j hi hj hne
      have hi' : i < r + 1 := hi
      have hj' : j < l.length := by rw [red_len] at hj; exact hj
      show bitN N ((mlL _ _ r (bitB N c)).getD j oP) (if i < r then pv i else c) = 0
      by_cases e : i < r
      . rw [if_pos e, key j _ hj' (pp i e)]
        by_cases e2 : j < r
        . rw [sw_lo e2 hrk]; exact h.off i j e hj' hne
        . obtain ⟨j', h3, h4, e5⟩ := sw_hi (K := K) (r := r) (by omega) hj' hrk hkl
          rw [e5]; exact h.off i j' e h4 (by omega)
      . rw [if_neg e]; exact clr j hj' (by omega)
    . intro i c' hi hc
      have hi' : i < r + 1 := hi
      have hc' : c' < (if i < r then pv i else c) := hc
      show bitN N ((mlL _ _ r (bitB N c)).getD i oP) c' = 0
      by_cases e : i < r
      . rw [if_pos e] at hc'
        rw [key i c' (by omega) (p0 c' (by have := h.lt i e; omega)), sw_lo e hrk]
        exact h.low i c' e hc'
      . obtain rfl : i = r := by omega
        rw [if_neg e] at hc'
        rw [key i c' (by omega) (p0 c' hc'), sw_r]
        exact p0 c' hc'
    . intro i c' hi hil hc
      have hi' : r + 1 <= i := hi
      have hil' : i < l.length := by rw [red_len] at hil; exact hil
      show bitN N ((mlL _ _ r (bitB N c)).getD i oP) c' = 0
      by_cases e : c' = c
      . rw [e]; exact clr i hil' (by omega)
      . obtain ⟨j', h3, h4, e5⟩ := sw_hi (K := K) (r := r) (show r <= i by omega) hil' hrk hkl
        rw [key i c' hil' (p0 c' (by omega)), e5]
        exact h.zer j' c' h3 h4 (by omega)
  . rw [red_none ha]
    refine ⟨pv, h.le, fun i hi => by have := h.lt i hi; omega, h.inc, h.one, h.off, h.low, fun i c' h1 h2 h3 => ?_⟩
    by_cases e : c' = c
    . subst e
      refine Classical.byContradiction fun hne => ha ?_
      refine List.any_eq_true.2 ⟨l.getD i oP, ?_, ?_⟩
      . have : (l.drop r)[i - r]? = some (l.getD i oP) := by rw [List.getElem?_drop, show r + (i - r) = i by omega]; exact get_of h2
        exact List.mem_of_getElem? this
      . unfold bitB
        have h4 := bit_lt N (l.getD i oP) c'
        have h5 : bitN N (l.getD i oP) c' ≠ 0 := hne
        exact beq_iff_eq.2 (by omega)
    . exact h.zer i c' h1 h2 (by omega)
theorem gn_step {N c : Nat} {l : List P} {r : Nat} (hr : ∀ p ∈ l, Rr N p) (hph : ∀ p ∈ l, p.ph = 0 ∨ p.ph = 2) : (∀ p ∈ (redC N c (l, r)).1, Gn N l p) /\ (∀ p ∈ l, Gn N (redC N c (l, r)).1 p) := by
  by_cases ha : (l.drop r).any (bitB N c) = true
  . have hp := pv_of ha
    rw [red_some ha]
    generalize pvK N c (l, r) = K at *
    obtain ⟨hrk, hkl, -⟩ := hp
    have rp := rr_at hr hkl
    have rs : ∀ j, j < l.length -> swR l K r j ∈ l := fun j hj => by
      obtain ⟨i, hi, e⟩ := sw_mem (K := K) (r := r) hj (by omega) hkl
      rw [e]; exact mem_at hi
    refine ⟨fun p hp => ?_, fun p hp => ?_⟩
    . obtain ⟨j, hj, e⟩ := List.mem_iff_getElem.1 hp
      have hj' : j < l.length := by simpa only [red_len] using hj
      have ej : p = (mlL ((l.set r (l.getD K oP)).set K (l.getD r oP)) (l.getD K oP) r (bitB N c)).getD j oP := by rw [List.getD_eq_getElem?_getD, List.getElem?_eq_getElem hj, ← e]; rfl
      rw [ej, red_row hj']
      split
      . exact .mul (.own (rs j hj')) (.own (mem_at hkl))
      . exact .own (rs j hj')
    . obtain ⟨j, hj, e⟩ := List.mem_iff_getElem.1 hp
      have ej : p = l.getD j oP := by rw [List.getD_eq_getElem?_getD, List.getElem?_eq_getElem hj, ← e]; rfl
      have h2 : ∃ i, i < l.length /\ swR l K r i = p := by
        by_cases e1 : j = K
        . exact ⟨r, by omega, by rw [sw_r, ej, e1]⟩
        . by_cases e2 : j = r
          . exact ⟨K, hkl, by unfold swR; rw [if_pos rfl, ej, e2]⟩
          . exact ⟨j, hj, by unfold swR; rw [if_neg e1, if_neg e2, ej]⟩
      obtain ⟨i, hi, e3⟩ := h2
      have own : ∀ j, j < l.length -> Gn N (mlL ((l.set r (l.getD K oP)).set K (l.getD r oP)) (l.getD K oP) r (bitB N c)) ((mlL ((l.set r (l.getD K oP)).set K (l.getD r oP)) (l.getD K oP) r (bitB N c)).getD j oP) := fun j hj => .own (mem_at (by rw [red_len]; exact hj))
      have o1 := own i hi
      have o2 := own r (by omega)
      rw [red_row (by omega), if_neg (fun e => e.1 rfl), sw_r] at o2
      rw [red_row hi, e3] at o1
      have rq := hr p hp
      split at o1
      . have o3 := Gn.mul o1 o2
        have h0 := rt_iff.1 rq.1
        rw [((rq.pd rp).2.pd rp).1, (rq.pd rp).1, mul_as, mul_sq ⟨h0.2.2.2.2.1, h0.2.2.2.2.2⟩ (hph _ (mem_at hkl))] at o3
        exact o3
      . exact o1
  . rw [red_none ha]
    exact ⟨fun p hp => .own hp, fun p hp => .own hp⟩
theorem red_inv {t : TT} {N : Nat} (hc : chB t = true) (hN : t.n = (N : Int)) : ∀ c, (∀ p ∈ (redS N t.s c).1, Gn N t.s p) /\ (∀ p ∈ t.s, Gn N (redS N t.s c).1 p) /\ ∃ pv, Ec N (redS N t.s c).1 (redS N t.s c).2 c pv
  | 0 => ⟨fun p hp => .own hp, fun p hp => .own hp, fun _ => 0, Nat.zero_le _, (fun i hi => by exact absurd hi (Nat.not_lt_zero _)), (fun i j _ hj => by exact absurd hj (Nat.not_lt_zero _)), (fun i hi => by exact absurd hi (Nat.not_lt_zero _)), (fun i j hi => by exact absurd hi (Nat.not_lt_zero _)), (fun i j hi => by exact absurd hi (Nat.not_lt_zero _)), (fun i c' _ _ hc => by exact absurd hc (Nat.not_lt_zero _))⟩
  | c + 1 => by
    obtain ⟨h1, h2, pv, h3⟩ := red_inv hc hN c
    have hr : ∀ p ∈ (redS N t.s c).1, Rr N p := fun p hp => (gn_kg hc hN (h1 p hp)).rr
    have hph : ∀ p ∈ (redS N t.s c).1, p.ph = 0 ∨ p.ph = 2 := fun p hp => (gn_kg hc hN (h1 p hp)).ph hc hN
    rw [redS]
    generalize redS N t.s c = s at *
    obtain ⟨l, r⟩ := s
    obtain ⟨g1, g2⟩ := gn_step (c := c) (r := r) hr hph
    exact ⟨fun p hp => Gn.sub h1 (g1 p hp), fun p hp => Gn.sub g2 (h2 p hp), ec_step hr h3⟩
theorem cn_same {t u : TT} {N : Nat} (hc : chB t = true) (hN : t.n = (N : Int)) (kc : chB u = true) (kN : u.n = (N : Int)) (h : ∀ p ∈ t.s, Gn N u.s p) (k : ∀ p ∈ u.s, Gn N t.s p) : cnL t = cnL u := by
  obtain ⟨h1, h2, pv, h3⟩ := red_inv hc hN (2 * N)
  obtain ⟨k1, k2, pw, k3⟩ := red_inv kc kN (2 * N)
  unfold cnL
  rw [if_pos hc, if_pos kc, hN, kN, Int.toNat_natCast]
  have l1 := (sz_of (ch_size hc)).2.2.1
  have l2 := (sz_of (ch_size kc)).2.2.1
  rw [hN, Int.toNat_natCast] at l1
  rw [kN, Int.toNat_natCast] at l2
  refine ec_uniq (n64_of hc hN) (fun p hp => (gn_kg hc hN (h1 p hp)).rr) (fun p hp => (gn_kg kc kN (k1 p hp)).rr) h3 k3 (by rw [redS_len, redS_len, l1, l2]) (fun p hp => Gn.sub k2 (Gn.sub h (h1 p hp))) (fun p hp => Gn.sub h2 (Gn.sub k (k1 p hp))) (fun g g' hg hg' e => gn_uniq hc hN (Gn.sub h1 hg) (Gn.sub h1 hg') e)
end Go.Proofs.YtaggifpnamjghaaDoor.Tbl
