import Derived.Test.YtpehekonjdneaaaDoorK7234f98d
namespace Go.Proofs.YtpehekonjdneaaaDoor.Tbl
open Go.RowKit Go.Shelf Go.Proofs.YtpehekonjdneaaaDoor.Pau Go.Proofs.YtpehekonjdneaaaDoor.Gt
theorem ph_even {a b : P} (ha : a.ph = 0 ∨ a.ph = 2) (hb : b.ph = 0 ∨ b.ph = 2) (h : om (bp a) (bp b) = 0) : (mulP a b).ph = 0 ∨ (mulP a b).ph = 2 := by
  show mulPh a b = 0 ∨ mulPh a b = 2
  unfold mulPh
  unfold om bp at h
  simp only at h
  have e : (a.x ^^^ b.x) &&& (a.z ^^^ b.z) = ((a.x &&& a.z) ^^^ (a.x &&& b.z)) ^^^ ((b.x &&& a.z) ^^^ (b.x &&& b.z)) := by
    rw [and_xor_r, Nat.and_comm a.x (a.z ^^^ b.z), Nat.and_comm b.x (a.z ^^^ b.z), and_xor_r, and_xor_r, Nat.and_comm a.z a.x, Nat.and_comm b.z a.x, Nat.and_comm a.z b.x, Nat.and_comm b.z b.x]
  have h1 := pc_xor ((a.x &&& a.z) ^^^ (a.x &&& b.z)) ((b.x &&& a.z) ^^^ (b.x &&& b.z))
  have h2 := pc_xor (a.x &&& a.z) (a.x &&& b.z)
  have h3 := pc_xor (b.x &&& a.z) (b.x &&& b.z)
  rw [← e] at h1
  rw [Nat.and_comm a.z b.x] at h ⊢
  generalize pc ((a.x ^^^ b.x) &&& (a.z ^^^ b.z)) = u at *
  generalize pc ((a.x &&& a.z) ^^^ (a.x &&& b.z)) = u1 at *
  generalize pc ((b.x &&& a.z) ^^^ (b.x &&& b.z)) = u2 at *
  generalize pc (a.x &&& a.z) = u3 at *
  generalize pc (a.x &&& b.z) = u4 at *
  generalize pc (b.x &&& a.z) = u5 at *
  generalize pc (b.x &&& b.z) = u6 at *
  rcases ha with ea | ea <;> rcases hb with eb | eb <;> rw [ea, eb] <;> omega
theorem sgB_iff {p : P} {N : Nat} : sgB p (N : Int) = true ↔ Rr N p /\ (p.ph = 0 ∨ p.ph = 2) := by
  unfold sgB Rr
  rw [Bool.and_eq_true, Bool.and_eq_true, decide_eq_true_eq, decide_eq_true_eq]
  exact ⟨fun h => ⟨⟨h.2.1, h.1⟩, h.2.2⟩, fun h => ⟨h.1.2, h.1.1, h.2⟩⟩
theorem getD_set {l : List P} {k i : Nat} (p : P) (hi : i < l.length) : (l.set k p).getD i oP = if i = k then p else l.getD i oP := by
  rw [List.getD_eq_getElem?_getD, List.getElem?_set]
  by_cases e : k = i
  . subst e
    rw [if_pos rfl, if_pos hi, if_pos rfl]
    rfl
  . rw [if_neg e, if_neg (fun h => e h.symm), List.getD_eq_getElem?_getD]
theorem getD_ml {l : List P} {q : P} {k : Nat} {T : P -> Bool} {i : Nat} (hi : i < l.length) : (mlL l q k T).getD i oP = if i ≠ k /\ T (l.getD i oP) = true then pdP (l.getD i oP) q else l.getD i oP := by
  unfold mlL
  rw [List.getD_eq_getElem?_getD, upd_at _ _ _ _ hi, if_pos hi]
  rfl
theorem one_mul {N : Nat} {a : P} (ha : Rr N a) : mulP ⟨(N : Int), 0, 0, 0⟩ a = a := by
  obtain ⟨-, -, -, -, h4, h5⟩ := rt_iff.1 ha.1
  refine P.ext' ha.2.symm (Nat.zero_xor _) (Nat.zero_xor _) ?_
  show mulPh _ a = a.ph
  unfold mulPh
  simp only
  rw [Nat.zero_xor, Nat.zero_xor, Nat.zero_and, Nat.zero_and, pc_zero]
  omega
theorem al_succ {t : TT} {N : Nat} (hc : chB t = true) (hN : t.n = (N : Int)) {r : P} (hr : Rr N r) {k : Nat} (hk : k < N) : alP t r (k + 1) = if om (bp (t.d.getD k oP)) (bp r) = 0 then alP t r k else pdP (alP t r k) (t.s.getD k oP) := by
  have h := sg_rr hN ((ch_iff.1 hc).2.1 k (by rw [hN]; omega))
  rw [alP, cm_eq h.2 hr]
  cases e : comB (t.d.getD k oP) r
  . rw [if_neg (by decide), if_neg (by rw [com_one.1 e]; decide)]
  . rw [if_pos rfl, if_pos (com_zero.1 e)]
theorem sg_of {t : TT} {N : Nat} (hc : chB t = true) (hN : t.n = (N : Int)) {i : Nat} (hi : i < N) : sgB (t.s.getD i oP) (N : Int) = true /\ sgB (t.d.getD i oP) (N : Int) = true := by
  have := (ch_iff.1 hc).2.1 i (by rw [hN]; omega)
  unfold sg2 at this
  rw [hN, Bool.and_eq_true] at this
  exact this
theorem al_even {t : TT} {N : Nat} (hc : chB t = true) (hN : t.n = (N : Int)) {p : P} (hp : Rr N p) : ∀ k, k <= N -> (alP t p k).ph = 0 ∨ (alP t p k).ph = 2
  | 0, _ => Or.inl rfl
  | k + 1, hk => by
    have ih := al_even hc hN hp k (by omega)
    have ra := al_rr hc hN p k (by omega)
    obtain ⟨rs, ps⟩ := sgB_iff.1 (sg_of hc hN (show k < N by omega)).1
    rw [al_succ hc hN hp (by omega)]
    split
    . exact ih
    . rw [(ra.pd rs).1]
      exact ph_even ih ps ((al_om hc hN hp k (by omega)).1 k (by omega))
structure Ms (t u : TT) (q v : Int) : Prop where
  pr : prR t q v = (u, 0)
  ch : chB u = true
  n : u.n = t.n
  cq : cqI u q = 0
  od : odI u q = v
  pr2 : prR u q v = (u, 0)
  no : (prR u q (1 - v)).2 = 142
  keep : ∀ p, sgB p t.n = true -> memI t p ≠ 0 -> comB p (lzP t.n q.toNat 0) = true -> memI u p = memI t p
inductive Gn (N : Nat) (l : List P) : P -> Prop
  | one : Gn N l ⟨(N : Int), 0, 0, 0⟩
  | own {p : P} : p ∈ l -> Gn N l p
  | mul {p q : P} : Gn N l p -> Gn N l q -> Gn N l (pdP p q)
theorem Gn.sub {N : Nat} {l m : List P} {p : P} (h : ∀ q ∈ l, Gn N m q) (hp : Gn N l p) : Gn N m p := by
  induction hp with
  | one => exact .one
  | own hq => exact h _ hq
  | mul _ _ a b => exact .mul a b
theorem bp_pd {N : Nat} {a b : P} (ha : Rr N a) (hb : Rr N b) : bp (pdP a b) = xo (bp a) (bp b) := by rw [(ha.pd hb).1]; rfl
theorem n64_of {t : TT} {N : Nat} (hc : chB t = true) (hN : t.n = (N : Int)) : N <= 64 := by
  have := (sz_of (ch_size hc)).2.1
  omega
structure Kg (t : TT) (N : Nat) (g : P) : Prop where
  rr : Rr N g
  al : alP t g N = g
theorem Kg.ph {t : TT} {N : Nat} (hc : chB t = true) (hN : t.n = (N : Int)) {g : P} (h : Kg t N g) : g.ph = 0 ∨ g.ph = 2 := by
  have := al_even hc hN h.rr N (Nat.le_refl _)
  rw [h.al] at this
  exact this
theorem bit_lt (N : Nat) (p : P) (c : Nat) : bitN N p c < 2 := by unfold bitN; split <;> exact bt_lt _ _
theorem bit_id (N c : Nat) : bitN N ⟨(N : Int), 0, 0, 0⟩ c = 0 := by unfold bitN; split <;> exact bt_zero _
theorem bit_pd {N : Nat} {a b : P} (ha : Rr N a) (hb : Rr N b) (c : Nat) : bitN N (pdP a b) c = (bitN N a c + bitN N b c) % 2 := by
  rw [(ha.pd hb).1]
  unfold bitN
  split
  . exact bt_xor _ _ _
  . exact bt_xor _ _ _
theorem bit_ext {N : Nat} {a b : P} (ha : Rr N a) (hb : Rr N b) (h : ∀ c, c < 2 * N -> bitN N a c = bitN N b c) : bp a = bp b := by
  have h1 := rr_bp ha
  have h2 := rr_bp hb
  have e1 : a.x = b.x := bt_le_ext h1.1 h2.1 (fun q hq => by
    have := h q (by omega)
    unfold bitN at this
    rw [if_pos hq, if_pos hq] at this
    exact this)
  have e2 : a.z = b.z := bt_le_ext h1.2 h2.2 (fun q hq => by
    have := h (N + q) (by omega)
    unfold bitN at this
    rw [if_neg (by omega), if_neg (by omega), show N + q - N = q by omega] at this
    exact this)
  unfold bp
  rw [e1, e2]
structure Ec (N : Nat) (m : List P) (r C : Nat) (pv : Nat -> Nat) : Prop where
  le : r <= m.length
  lt : ∀ i, i < r -> pv i < C
  inc : ∀ i j, i < j -> j < r -> pv i < pv j
  one : ∀ i, i < r -> bitN N (m.getD i oP) (pv i) = 1
  off : ∀ i j, i < r -> j < m.length -> j ≠ i -> bitN N (m.getD j oP) (pv i) = 0
  low : ∀ i c, i < r -> c < pv i -> bitN N (m.getD i oP) c = 0
  zer : ∀ i c, r <= i -> i < m.length -> c < C -> bitN N (m.getD i oP) c = 0
theorem rr_at {N : Nat} {m : List P} (h : ∀ p ∈ m, Rr N p) {i : Nat} (hi : i < m.length) : Rr N (m.getD i oP) := rr_getD h hi
theorem mem_at {m : List P} {i : Nat} (hi : i < m.length) : m.getD i oP ∈ m := List.mem_of_getElem? (get_of hi)
theorem ec_sum {N : Nat} {m : List P} {r : Nat} {pv : Nat -> Nat} (hr : ∀ p ∈ m, Rr N p) (h64 : N <= 64) (h : Ec N m r (2 * N) pv) {g : P} (hg : Gn N m g) : Rr N g /\ ∀ c, c < 2 * N -> bitN N g c = sm r (fun i => bitN N g (pv i) * bitN N (m.getD i oP) c) % 2 := by
  induction hg with
  | one =>
    refine ⟨rr_id h64, fun c _ => ?_⟩
    rw [bit_id, sm_zero r (fun q _ => by rw [bit_id]; omega)]
  | @own p hp =>
    obtain ⟨j, hj, e⟩ := List.mem_iff_getElem.1 hp
    have ej : m.getD j oP = p := by rw [List.getD_eq_getElem?_getD, List.getElem?_eq_getElem hj, ← e]; rfl
    refine ⟨hr _ hp, fun c hc => ?_⟩
    rw [← ej]
    by_cases h1 : j < r
    . rw [sm_one r j h1 (fun i hi hne => by rw [h.off i j hi hj (fun e => hne e.symm)]; omega), h.one j h1, Nat.one_mul]
      exact (Nat.mod_eq_of_lt (bit_lt _ _ _)).symm
    . rw [h.zer j c (by omega) hj hc, sm_zero r (fun i hi => by rw [h.off i j hi hj (by omega)]; omega)]
  | @mul p q _ _ a b =>
    refine ⟨(a.1.pd b.1).2, fun c hc => ?_⟩
    have e : sm r (fun i => bitN N (pdP p q) (pv i) * bitN N (m.getD i oP) c) % 2 = (sm r (fun i => bitN N p (pv i) * bitN N (m.getD i oP) c) + sm r (fun i => bitN N q (pv i) * bitN N (m.getD i oP) c)) % 2 := by
      rw [← sm_add]
      exact sm_mod 2 r (fun i _ => by rw [bit_pd a.1 b.1, ← Nat.add_mul, Nat.mod_mul_mod])
    rw [e, bit_pd a.1 b.1, a.2 c hc, b.2 c hc, ← Nat.add_mod]
def swR (l : List P) (K r j : Nat) : P := if j = K then l.getD r oP else if j = r then l.getD K oP else l.getD j oP
theorem sw_at {l : List P} {K r j : Nat} (hj : j < l.length) : ((l.set r (l.getD K oP)).set K (l.getD r oP)).getD j oP = swR l K r j := by
  unfold swR
  rw [getD_set _ (by rw [List.length_set]; exact hj), getD_set _ hj]
structure Pv (N c : Nat) (l : List P) (r K : Nat) : Prop where
  rk : r <= K
  kl : K < l.length
  one : bitN N (l.getD K oP) c = 1
theorem pv_of {N c : Nat} {l : List P} {r : Nat} (ha : (l.drop r).any (bitB N c) = true) : Pv N c l r (pvK N c (l, r)) := by
  obtain ⟨x, hx, hT⟩ := List.any_eq_true.1 ha
  have hlt := List.findIdx_lt_length_of_exists (p := bitB N c) ⟨x, hx, hT⟩
  have hb := List.findIdx_getElem (p := bitB N c) (xs := l.drop r) (w := hlt)
  have hl := hlt
  rw [List.length_drop] at hl
  refine ⟨Nat.le_add_right _ _, by show r + (l.drop r).findIdx (bitB N c) < l.length; omega, ?_⟩
  have e : l.getD (pvK N c (l, r)) oP = (l.drop r)[(l.drop r).findIdx (bitB N c)] := by
    show l.getD (r + (l.drop r).findIdx (bitB N c)) oP = _
    rw [List.getD_eq_getElem?_getD, ← List.getElem?_drop, List.getElem?_eq_getElem hlt]
    rfl
  rw [e]
  unfold bitB at hb
  exact beq_iff_eq.1 hb
theorem red_some {N c : Nat} {l : List P} {r : Nat} (ha : (l.drop r).any (bitB N c) = true) : redC N c (l, r) = (mlL ((l.set r (l.getD (pvK N c (l, r)) oP)).set (pvK N c (l, r)) (l.getD r oP)) (l.getD (pvK N c (l, r)) oP) r (bitB N c), r + 1) := by unfold redC; rw [if_pos ha]
theorem red_none {N c : Nat} {l : List P} {r : Nat} (ha : ¬ (l.drop r).any (bitB N c) = true) : redC N c (l, r) = (l, r) := by unfold redC; rw [if_neg ha]
theorem red_row {N c : Nat} {l : List P} {r K j : Nat} (hj : j < l.length) : (mlL ((l.set r (l.getD K oP)).set K (l.getD r oP)) (l.getD K oP) r (bitB N c)).getD j oP = if j ≠ r /\ bitN N (swR l K r j) c = 1 then pdP (swR l K r j) (l.getD K oP) else swR l K r j := by
  rw [getD_ml (by rw [List.length_set, List.length_set]; exact hj), sw_at hj]
  have e : (bitB N c (swR l K r j) = true) = (bitN N (swR l K r j) c = 1) := by unfold bitB; exact propext beq_iff_eq
  simp only [e]
theorem red_len {N c : Nat} {l : List P} {r K : Nat} : (mlL ((l.set r (l.getD K oP)).set K (l.getD r oP)) (l.getD K oP) r (bitB N c)).length = l.length := by rw [ml_len, List.length_set, List.length_set]
theorem sw_r {l : List P} {K r : Nat} : swR l K r r = l.getD K oP := by
  unfold swR
  by_cases e : r = K
  . rw [if_pos e, e]
  . rw [if_neg e, if_pos rfl]
theorem sw_lo {l : List P} {K r j : Nat} (h : j < r) (hk : r <= K) : swR l K r j = l.getD j oP := by
  unfold swR
  rw [if_neg (by omega), if_neg (by omega)]
theorem sw_hi {l : List P} {K r j : Nat} (h : r <= j) (hj : j < l.length) (hk : r <= K) (hK : K < l.length) : ∃ i, r <= i /\ i < l.length /\ swR l K r j = l.getD i oP := by
  unfold swR
  by_cases e : j = K
  . rw [if_pos e]; exact ⟨r, Nat.le_refl _, by omega, rfl⟩
  . rw [if_neg e]
    by_cases e2 : j = r
    . rw [if_pos e2]; exact ⟨K, hk, hK, rfl⟩
    . rw [if_neg e2]; exact ⟨j, h, hj, rfl⟩
theorem sw_mem {l : List P} {K r j : Nat} (hj : j < l.length) (hr : r < l.length) (hK : K < l.length) : ∃ i, i < l.length /\ swR l K r j = l.getD i oP := by
  unfold swR
  by_cases e : j = K
  . rw [if_pos e]; exact ⟨r, hr, rfl⟩
  . rw [if_neg e]
    by_cases e2 : j = r
    . rw [if_pos e2]; exact ⟨K, hK, rfl⟩
    . rw [if_neg e2]; exact ⟨j, hj, rfl⟩
theorem ec_step {N c : Nat} {l : List P} {r : Nat} {pv : Nat -> Nat} (hr : ∀ p ∈ l, Rr N p) (h : Ec N l r c pv) : ∃ pv', Ec N (redC N c (l, r)).1 (redC N c (l, r)).2 (c + 1) pv' := by
  by_cases ha : (l.drop r).any (bitB N c) = true
  . have hp := pv_of ha
    rw [red_some ha]
    generalize pvK N c (l, r) = K at *
    obtain ⟨hrk, hkl, h1⟩ := hp
    have rp := rr_at hr hkl
    have p0 : ∀ c', c' < c -> bitN N (l.getD K oP) c' = 0 := fun c' hc => h.zer K c' hrk hkl hc
    have pp : ∀ i, i < r -> bitN N (l.getD K oP) (pv i) = 0 := fun i hi => h.off i K hi hkl (by omega)
    have rs : ∀ j, j < l.length -> Rr N (swR l K r j) := fun j hj => by
      obtain ⟨i, hi, e⟩ := sw_mem (K := K) (r := r) hj (by omega) hkl
      rw [e]; exact rr_at hr hi
    have hb : ∀ j c', j < l.length -> bitN N ((mlL ((l.set r (l.getD K oP)).set K (l.getD r oP)) (l.getD K oP) r (bitB N c)).getD j oP) c' = if j ≠ r /\ bitN N (swR l K r j) c = 1 then (bitN N (swR l K r j) c' + bitN N (l.getD K oP) c') % 2 else bitN N (swR l K r j) c' := fun j c' hj => by
      rw [red_row hj]
      split
      . exact bit_pd (rs j hj) rp c'
      . rfl
    have key : ∀ j c', j < l.length -> bitN N (l.getD K oP) c' = 0 -> bitN N ((mlL ((l.set r (l.getD K oP)).set K (l.getD r oP)) (l.getD K oP) r (bitB N c)).getD j oP) c' = bitN N (swR l K r j) c' := fun j c' hj e => by
      rw [hb j c' hj, e]
      split
      . exact Nat.mod_eq_of_lt (bit_lt _ _ _)
      . rfl
    have clr : ∀ j, j < l.length -> j ≠ r -> bitN N ((mlL ((l.set r (l.getD K oP)).set K (l.getD r oP)) (l.getD K oP) r (bitB N c)).getD j oP) c = 0 := fun j hj hne => by
      rw [hb j c hj, h1]
      split
      . rename_i e; rw [e.2]
      . rename_i e
        have := bit_lt N (swR l K r j) c
        have : bitN N (swR l K r j) c ≠ 1 := fun e' => e ⟨hne, e'⟩
        omega
    refine ⟨fun i => if i < r then pv i else c, ?_, ?_, ?_, ?_, ?_, ?_, ?_⟩
    . show r + 1 <= _; rw [red_len]; omega
    . intro i hi
      by_cases e : i < r
      . show (if i < r then pv i else c) < c + 1
        rw [if_pos e]; have := h.lt i e; omega
      . show (if i < r then pv i else c) < c + 1
        rw [if_neg e]; omega
    . intro i j hij hj
      have hj' : j < r + 1 := hj
      show (if i < r then pv i else c) < (if j < r then pv j else c)
      rw [if_pos (by omega)]
      by_cases e : j < r
      . rw [if_pos e]; exact h.inc i j hij e
      . rw [if_neg e]; exact h.lt i (by omega)
    . intro i hi
      have hi' : i < r + 1 := hi
      show bitN N ((mlL _ _ r (bitB N c)).getD i oP) (if i < r then pv i else c) = 1
      by_cases e : i < r
      . rw [if_pos e, key i _ (by omega) (pp i e), sw_lo e hrk]; exact h.one i e
      . obtain rfl : i = r := by omega
        rw [if_neg e, hb i c (by omega), if_neg (fun e => e.1 rfl), sw_r]; exact h1
    . intro i j hi hj hne
      have hi' : i < r + 1 := hi
      have hj' : j < l.length := by rw [red_len] at hj; exact hj
      show bitN N ((mlL _ _ r (bitB N c)).getD j oP) (if i < r then pv i else c) = 0
      by_cases e : i < r
      . rw [if_pos e, key j _ hj' (pp i e)]
        by_cases e2 : j < r
        . rw [sw_lo e2 hrk]; exact h.off i j e hj' hne
        . obtain ⟨j', h3, h4, e5⟩ := sw_hi (K := K) (r := r) (by omega) hj' hrk hkl
          rw [e5]; exact h.off i j' e h4 (by omega)
      . rw [if_neg e]; exact clr j hj' (by omega)
    . intro i c' hi hc
      have hi' : i < r + 1 := hi
      have hc' : c' < (if i < r then pv i else c) := hc
      show bitN N ((mlL _ _ r (bitB N c)).getD i oP) c' = 0
      by_cases e : i < r
      . rw [if_pos e] at hc'
        rw [key i c' (by omega) (p0 c' (by have := h.lt i e; omega)), sw_lo e hrk]
        exact h.low i c' e hc'
      . obtain rfl : i = r := by omega
        rw [if_neg e] at hc'
        rw [key i c' (by omega) (p0 c' hc'), sw_r]
        exact p0 c' hc'
    . intro i c' hi hil hc
      have hi' : r + 1 <= i := hi
      have hil' : i < l.length := by rw [red_len] at hil; exact hil
      show bitN N ((mlL _ _ r (bitB N c)).getD i oP) c' = 0
      by_cases e : c' = c
      . rw [e]; exact clr i hil' (by omega)
      . obtain ⟨j', h3, h4, e5⟩ := sw_hi (K := K) (r := r) (show r <= i by omega) hil' hrk hkl
        rw [key i c' hil' (p0 c' (by omega)), e5]
        exact h.zer j' c' h3 h4 (by omega)
  . rw [red_none ha]
    refine ⟨pv, h.le, fun i hi => by have := h.lt i hi; omega, h.inc, h.one, h.off, h.low, fun i c' h1 h2 h3 => ?_⟩
    by_cases e : c' = c
    . subst e
      refine Classical.byContradiction fun hne => ha ?_
      refine List.any_eq_true.2 ⟨l.getD i oP, ?_, ?_⟩
      . have : (l.drop r)[i - r]? = some (l.getD i oP) := by rw [List.getElem?_drop, show r + (i - r) = i by omega]; exact get_of h2
        exact List.mem_of_getElem? this
      . unfold bitB
        have h4 := bit_lt N (l.getD i oP) c'
        have h5 : bitN N (l.getD i oP) c' ≠ 0 := hne
        exact beq_iff_eq.2 (by omega)
    . exact h.zer i c' h1 h2 (by omega)
end Go.Proofs.YtpehekonjdneaaaDoor.Tbl
