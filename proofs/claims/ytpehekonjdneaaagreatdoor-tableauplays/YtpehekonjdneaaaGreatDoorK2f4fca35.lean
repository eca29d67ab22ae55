import Derived.Test.YtpehekonjdneaaaGreatDoorKd0d17892
namespace Go.Proofs.YtpehekonjdneaaaGreatDoor.Tbl
open Go.RowKit Go.Shelf Go.Proofs.YtpehekonjdneaaaGreatDoor.Pau Go.Proofs.YtpehekonjdneaaaGreatDoor.Gt
theorem ph_even {a b : P} (ha : a.ph = 0 ∨ a.ph = 2) (hb : b.ph = 0 ∨ b.ph = 2) (h : om (bp a) (bp b) = 0) : (mulP a b).ph = 0 ∨ (mulP a b).ph = 2 := by
  show mulPh a b = 0 ∨ mulPh a b = 2
  unfold mulPh
  unfold om bp at h
  simp only at h
  have e : (a.x ^^^ b.x) &&& (a.z ^^^ b.z) = ((a.x &&& a.z) ^^^ (a.x &&& b.z)) ^^^ ((b.x &&& a.z) ^^^ (b.x &&& b.z)) := by
    rw [and_xor_r, Nat.and_comm a.x (a.z ^^^ b.z), Nat.and_comm b.x (a.z ^^^ b.z), and_xor_r, and_xor_r, Nat.and_comm a.z a.x, Nat.and_comm b.z a.x, Nat.and_comm a.z b.x, Nat.and_comm b.z b.x]
  have h1 := pc_xor ((a.x &&& a.z) ^^^ (a.x &&& b.z)) ((b.x &&& a.z) ^^^ (b.x &&& b.z))
  have h2 := pc_xor (a.x &&& a.z) (a.x &&& b.z)
  have h3 := pc_xor (b.x &&& a.z) (b.x &&& b.z)
  rw [← e] at h1
  rw [Nat.and_comm a.z b.x] at h ⊢
  generalize pc ((a.x ^^^ b.x) &&& (a.z ^^^ b.z)) = u at *
  generalize pc ((a.x &&& a.z) ^^^ (a.x &&& b.z)) = u1 at *
  generalize pc ((b.x &&& a.z) ^^^ (b.x &&& b.z)) = u2 at *
  generalize pc (a.x &&& a.z) = u3 at *
  generalize pc (a.x &&& b.z) = u4 at *
  generalize pc (b.x &&& a.z) = u5 at *
  generalize pc (b.x &&& b.z) = u6 at *
  rcases ha with ea | ea <;> rcases hb with eb | eb <;> rw [ea, eb] <;> omega
theorem sgB_iff {p : P} {N : Nat} : sgB p (N : Int) = true ↔ Rr N p /\ (p.ph = 0 ∨ p.ph = 2) := by
  unfold sgB Rr
  rw [Bool.and_eq_true, Bool.and_eq_true, decide_eq_true_eq, decide_eq_true_eq]
  exact ⟨fun h => ⟨⟨h.2.1, h.1⟩, h.2.2⟩, fun h => ⟨h.1.2, h.1.1, h.2⟩⟩
theorem ch_of {t : TT} {N : Nat} (h64 : N <= 64) (hN : t.n = (N : Int)) (hs : t.s.length = N) (hd : t.d.length = N) (h1 : ∀ i, i < N -> sgB (t.s.getD i oP) (N : Int) = true) (h2 : ∀ i, i < N -> sgB (t.d.getD i oP) (N : Int) = true)
    (ss : ∀ i j, i < N -> j < N -> om (bp (t.s.getD i oP)) (bp (t.s.getD j oP)) = 0) (dd : ∀ i j, i < N -> j < N -> om (bp (t.d.getD i oP)) (bp (t.d.getD j oP)) = 0) (ds : ∀ i j, i < N -> j < N -> om (bp (t.d.getD i oP)) (bp (t.s.getD j oP)) = if i = j then 1 else 0) : chB t = true := by
  have hg : ∀ k, k < N -> sg2 t k = true := fun k hk => by
    unfold sg2
    rw [hN, h1 k hk, h2 k hk]
    rfl
  refine ch_iff.2 ⟨?_, fun k hk => hg k (by rw [hN] at hk; omega), fun i hi j hj => ?_⟩
  . unfold szB
    exact decide_eq_true ⟨by omega, by omega, by omega, by omega⟩
  . rw [hN, Int.toNat_natCast] at hi hj
    rw [pr_same hN (hg i hi) (hg j hj)]
    unfold prB'
    rw [com_zero.2 (ss i j hi hj), com_zero.2 (dd i j hi hj)]
    have h3 := ds i j hi hj
    by_cases e : i = j
    . rw [if_pos e] at h3
      rw [com_one.2 h3, decide_eq_false (fun h => h e)]
      rfl
    . rw [if_neg e] at h3
      rw [com_zero.2 h3, decide_eq_true e]
      rfl
theorem getD_set {l : List P} {k i : Nat} (p : P) (hi : i < l.length) : (l.set k p).getD i oP = if i = k then p else l.getD i oP := by
  rw [List.getD_eq_getElem?_getD, List.getElem?_set]
  by_cases e : k = i
  . subst e
    rw [if_pos rfl, if_pos hi, if_pos rfl]
    rfl
  . rw [if_neg e, if_neg (fun h => e h.symm), List.getD_eq_getElem?_getD]
theorem getD_ml {l : List P} {q : P} {k : Nat} {T : P -> Bool} {i : Nat} (hi : i < l.length) : (mlL l q k T).getD i oP = if i ≠ k /\ T (l.getD i oP) = true then pdP (l.getD i oP) q else l.getD i oP := by
  unfold mlL
  rw [List.getD_eq_getElem?_getD, upd_at _ _ _ _ hi, if_pos hi]
  rfl
theorem fc_s {t : TT} {N : Nat} (hc : chB t = true) (hN : t.n = (N : Int)) {p : P} (hp : Rr N p) {i : Nat} (hi : i < N) : (fcT t p).s.getD i oP = if i = lsI t p then p else if comB (t.s.getD i oP) p = true then t.s.getD i oP else pdP (t.s.getD i oP) (t.s.getD (lsI t p) oP) := by
  obtain ⟨-, -, hls, hld⟩ := sz_of (ch_size hc)
  rw [hN, Int.toNat_natCast] at hls hld
  have hr := sg_rr hN ((ch_iff.1 hc).2.1 i (by rw [hN]; omega))
  unfold fcT
  simp only
  rw [getD_set p (by rw [ml_len]; omega)]
  by_cases e : i = lsI t p
  . rw [if_pos e, if_pos e]
  . rw [if_neg e, if_neg e, getD_ml (by omega)]
    unfold tnB
    rw [cm_eq hr.1 hp]
    cases comB (t.s.getD i oP) p
    . rw [if_pos ⟨e, rfl⟩, if_neg (by decide)]
    . rw [if_neg (fun h => by cases h.2), if_pos rfl]
theorem fc_d {t : TT} {N : Nat} (hc : chB t = true) (hN : t.n = (N : Int)) {p : P} (hp : Rr N p) {i : Nat} (hi : i < N) : (fcT t p).d.getD i oP = if i = lsI t p then t.s.getD (lsI t p) oP else if comB (t.d.getD i oP) p = true then t.d.getD i oP else pdP (t.d.getD i oP) (t.s.getD (lsI t p) oP) := by
  obtain ⟨-, -, hls, hld⟩ := sz_of (ch_size hc)
  rw [hN, Int.toNat_natCast] at hls hld
  have hr := sg_rr hN ((ch_iff.1 hc).2.1 i (by rw [hN]; omega))
  unfold fcT
  simp only
  rw [getD_set _ (by rw [ml_len]; omega)]
  by_cases e : i = lsI t p
  . rw [if_pos e, if_pos e]
  . rw [if_neg e, if_neg e, getD_ml (by omega)]
    unfold tnB
    rw [cm_eq hr.2 hp]
    cases comB (t.d.getD i oP) p
    . rw [if_pos ⟨e, rfl⟩, if_neg (by decide)]
    . rw [if_neg (fun h => by cases h.2), if_pos rfl]
theorem fc_om {N : Nat} {x q p : P} (hx : Rr N x) (hq : Rr N q) (v : Nat × Nat) : om (bp (if comB x p = true then x else pdP x q)) v = (om (bp x) v + om (bp x) (bp p) * om (bp q) v) % 2 := by
  have hl := om_lt (bp x) v
  have hl' := om_lt (bp q) v
  cases h : comB x p
  . rw [if_neg (by decide), (hx.pd hq).1, com_one.1 h]
    have e : bp (mulP x q) = xo (bp x) (bp q) := rfl
    rw [e, om_xo]
    omega
  . rw [if_pos rfl, com_zero.1 h]
    omega
theorem fc_om' {N : Nat} {x q p : P} (hx : Rr N x) (hq : Rr N q) (v : Nat × Nat) : om v (bp (if comB x p = true then x else pdP x q)) = (om v (bp x) + om (bp x) (bp p) * om v (bp q)) % 2 := by
  rw [om_comm, fc_om hx hq, om_comm v (bp x), om_comm v (bp q)]
theorem ls_at {t : TT} {N : Nat} (hc : chB t = true) (hN : t.n = (N : Int)) {p : P} (hp : Rr N p) (hl : lsB t p = true) : lsI t p < N /\ om (bp (t.s.getD (lsI t p) oP)) (bp p) = 1 := by
  obtain ⟨-, -, hls, -⟩ := sz_of (ch_size hc)
  rw [hN, Int.toNat_natCast] at hls
  have h1 := (ls_lt hl).1
  refine ⟨by omega, ?_⟩
  have h2 : tnB p t.s[lsI t p] = true := List.findIdx_getElem (w := h1)
  have hg := get_of h1
  rw [List.getElem?_eq_getElem h1] at hg
  rw [Option.some.inj hg] at h2
  have hr := sg_rr hN ((ch_iff.1 hc).2.1 (lsI t p) (by rw [hN]; omega))
  unfold tnB at h2
  rw [cm_eq hr.1 hp] at h2
  exact com_one.1 (by simpa using h2)
theorem fc_ch {t : TT} {N : Nat} (hc : chB t = true) (hN : t.n = (N : Int)) {p : P} (hp : sgB p (N : Int) = true) (hl : lsB t p = true) : chB (fcT t p) = true := by
  obtain ⟨hpr, hpp⟩ := sgB_iff.1 hp
  obtain ⟨-, h64, hls, hld⟩ := sz_of (ch_size hc)
  rw [hN, Int.toNat_natCast] at hls hld
  have sy := ch_sy hc hN
  obtain ⟨hk, hkp⟩ := ls_at hc hN hpr hl
  have hsg : ∀ i, i < N -> sgB (t.s.getD i oP) (N : Int) = true /\ sgB (t.d.getD i oP) (N : Int) = true := fun i hi => by
    have := (ch_iff.1 hc).2.1 i (by rw [hN]; omega)
    unfold sg2 at this
    rw [hN, Bool.and_eq_true] at this
    exact this
  have hs := fun i hi => fc_s hc hN hpr (i := i) hi
  have hd := fun i hi => fc_d hc hN hpr (i := i) hi
  have SS : ∀ i j, i < N -> j < N -> om (bp (t.s.getD i oP)) (bp (t.s.getD j oP)) = 0 := sy.ss
  have DD : ∀ i j, i < N -> j < N -> om (bp (t.d.getD i oP)) (bp (t.d.getD j oP)) = 0 := sy.dd
  have DS : ∀ i j, i < N -> j < N -> om (bp (t.d.getD i oP)) (bp (t.s.getD j oP)) = if i = j then 1 else 0 := sy.ds
  generalize hkk : lsI t p = k at *
  have rs := fun i hi => (sgB_iff.1 (hsg i hi).1).1
  have rd := fun i hi => (sgB_iff.1 (hsg i hi).2).1
  have FS := fun i hi v => fc_om (p := p) (rs i hi) (rs k hk) v
  have FD := fun i hi v => fc_om (p := p) (rd i hi) (rs k hk) v
  have FS' := fun i hi v => fc_om' (p := p) (rs i hi) (rs k hk) v
  have FD' := fun i hi v => fc_om' (p := p) (rd i hi) (rs k hk) v
  have hev : ∀ x, sgB x (N : Int) = true -> om (bp x) (bp (t.s.getD k oP)) = 0 -> sgB (if comB x p = true then x else pdP x (t.s.getD k oP)) (N : Int) = true := fun x hx h0 => by
    split
    . exact hx
    . obtain ⟨rx, px⟩ := sgB_iff.1 hx
      obtain ⟨rq, pq⟩ := sgB_iff.1 (hsg k hk).1
      have e := rx.pd rq
      exact sgB_iff.2 ⟨e.2, by rw [e.1]; exact ph_even px pq h0⟩
  refine ch_of (N := N) (by omega) hN (by show (List.set _ _ _).length = N; rw [List.length_set, ml_len]; exact hls) (by show (List.set _ _ _).length = N; rw [List.length_set, ml_len]; exact hld) (fun i hi => ?_) (fun i hi => ?_) (fun i j hi hj => ?_) (fun i j hi hj => ?_) (fun i j hi hj => ?_)
  . rw [hs i hi]
    by_cases e : i = k
    . rw [if_pos e]; exact hp
    . rw [if_neg e]; exact hev _ (hsg i hi).1 (SS i k hi hk)
  . rw [hd i hi]
    by_cases e : i = k
    . rw [if_pos e]; exact (hsg k hk).1
    . rw [if_neg e]; exact hev _ (hsg i hi).2 (by rw [DS i k hi hk, if_neg e])
  . rw [hs i hi, hs j hj]
    by_cases e : i = k <;> by_cases f : j = k
    . rw [if_pos e, if_pos f]; exact om_self _
    . rw [if_pos e, if_neg f, om_comm, FS j hj, hkp]; omega
    . rw [if_neg e, if_pos f, FS i hi, hkp]; omega
    . rw [if_neg e, if_neg f, FS i hi, FS' j hj, FS' j hj, SS i j hi hj, SS i k hi hk, SS k j hk hj, SS k k hk hk]
      simp
  . rw [hd i hi, hd j hj]
    have DSk : ∀ i, i < N -> i ≠ k -> om (bp (t.d.getD i oP)) (bp (t.s.getD k oP)) = 0 := fun i hi e => by rw [DS i k hi hk, if_neg e]
    have SDk : ∀ i, i < N -> i ≠ k -> om (bp (t.s.getD k oP)) (bp (t.d.getD i oP)) = 0 := fun i hi e => by rw [om_comm]; exact DSk i hi e
    by_cases e : i = k <;> by_cases f : j = k
    . rw [if_pos e, if_pos f]; exact om_self _
    . rw [if_pos e, if_neg f, om_comm, FD j hj, DSk j hj f, SS k k hk hk]; simp
    . rw [if_neg e, if_pos f, FD i hi, DSk i hi e, SS k k hk hk]; simp
    . rw [if_neg e, if_neg f, FD i hi, FD' j hj, FD' j hj, DD i j hi hj, DSk i hi e, SDk j hj f, SS k k hk hk]
      simp
  . rw [hd i hi, hs j hj]
    have DSk : ∀ i, i < N -> i ≠ k -> om (bp (t.d.getD i oP)) (bp (t.s.getD k oP)) = 0 := fun i hi e => by rw [DS i k hi hk, if_neg e]
    by_cases e : i = k <;> by_cases f : j = k
    . rw [if_pos e, if_pos f, if_pos (e.trans f.symm), hkp]
    . rw [if_pos e, if_neg f, if_neg (show ¬ i = j by omega), om_comm, FS j hj, SS j k hj hk, SS k k hk hk]; simp
    . rw [if_neg e, if_pos f, if_neg (show ¬ i = j by omega), FD i hi, hkp]; omega
    . rw [if_neg e, if_neg f, FD i hi, FS' j hj, FS' j hj, DS i j hi hj, DSk i hi e, SS k j hk hj, SS k k hk hk]
      by_cases g : i = j
      . rw [if_pos g]; simp
      . rw [if_neg g]; simp
theorem mul_as (a b c : P) : mulP (mulP a b) c = mulP a (mulP b c) := by
  refine P.ext' rfl (Nat.xor_assoc _ _ _) (Nat.xor_assoc _ _ _) ?_
  show mulPh (mulP a b) c = mulPh a (mulP b c)
  unfold mulP
  simp only [mulPh]
  rw [Nat.xor_assoc a.x, Nat.xor_assoc a.z]
  have h1 := pc_xor (a.z &&& c.x) (b.z &&& c.x)
  have h2 := pc_xor (a.z &&& b.x) (a.z &&& c.x)
  rw [← and_xor_r] at h1
  rw [Nat.and_comm a.z b.x, Nat.and_comm a.z c.x, ← and_xor_r, Nat.and_comm (b.x ^^^ c.x)] at h2
  rw [Nat.and_comm a.z c.x] at h1
  rw [Nat.and_comm a.z b.x]
  generalize pc ((a.z ^^^ b.z) &&& c.x) = u1 at *
  generalize pc (a.z &&& (b.x ^^^ c.x)) = u2 at *
  generalize pc (b.x &&& a.z) = u3 at *
  generalize pc (c.x &&& a.z) = u4 at *
  generalize pc (b.z &&& c.x) = u5 at *
  generalize pc ((a.x ^^^ b.x) &&& (a.z ^^^ b.z)) = u6 at *
  generalize pc ((b.x ^^^ c.x) &&& (b.z ^^^ c.z)) = u7 at *
  omega
theorem mul_sq {a q : P} (ha : 0 <= a.ph /\ a.ph <= 3) (hq : q.ph = 0 ∨ q.ph = 2) : mulP a (mulP q q) = a := by
  have ex : (mulP q q).x = 0 := Nat.xor_self _
  have ez : (mulP q q).z = 0 := Nat.xor_self _
  have ep : (mulP q q).ph = 0 := by
    show mulPh q q = 0
    unfold mulPh
    rw [Nat.xor_self, Nat.xor_self, Nat.and_comm q.z q.x]
    have : pc (0 &&& 0) = 0 := pc_zero
    rw [this]
    rcases hq with e | e <;> rw [e] <;> omega
  generalize mulP q q = o at *
  refine P.ext' rfl ?_ ?_ ?_
  . show a.x ^^^ o.x = a.x; rw [ex, Nat.xor_zero]
  . show a.z ^^^ o.z = a.z; rw [ez, Nat.xor_zero]
  . show mulPh a o = a.ph
    unfold mulPh
    rw [ex, ez, ep, Nat.xor_zero, Nat.xor_zero, Nat.and_zero, Nat.and_zero, pc_zero]
    omega
theorem one_mul {N : Nat} {a : P} (ha : Rr N a) : mulP ⟨(N : Int), 0, 0, 0⟩ a = a := by
  obtain ⟨-, -, -, -, h4, h5⟩ := rt_iff.1 ha.1
  refine P.ext' ha.2.symm (Nat.zero_xor _) (Nat.zero_xor _) ?_
  show mulPh _ a = a.ph
  unfold mulPh
  simp only
  rw [Nat.zero_xor, Nat.zero_xor, Nat.zero_and, Nat.zero_and, pc_zero]
  omega
def fF (p q x : P) : P := if comB x p = true then x else pdP x q
theorem fF_rr {N : Nat} {p q x : P} (hx : Rr N x) (hq : Rr N q) : Rr N (fF p q x) := by
  unfold fF
  split
  . exact hx
  . exact (hx.pd hq).2
theorem fF_mul {N : Nat} {p q x y : P} (hq : Rr N q) (hqs : q.ph = 0 ∨ q.ph = 2) (hx : Rr N x) (hy : Rr N y) (yq : comB q y = true) : pdP (fF p q x) (fF p q y) = fF p q (pdP x y) := by
  have yq' : mulP q y = mulP y q := (com_iff (hq.fit hy)).1 yq
  have hxy := hx.pd hy
  have e : om (bp (pdP x y)) (bp p) = (om (bp x) (bp p) + om (bp y) (bp p)) % 2 := by
    have e0 : bp (mulP x y) = xo (bp x) (bp y) := rfl
    rw [hxy.1, e0, om_xo]
  rw [((fF_rr hx hq).pd (fF_rr hy hq)).1]
  unfold fF
  cases h1 : comB x p <;> cases h2 : comB y p
  . rw [com_one.1 h1, com_one.1 h2] at e
    rw [if_neg (by decide), if_neg (by decide), if_pos (com_zero.2 (by rw [e])), (hx.pd hq).1, (hy.pd hq).1, hxy.1, mul_as, ← mul_as q y q, yq', mul_as y q q, ← mul_as]
    have h0 := rt_iff.1 hxy.2.1
    rw [hxy.1] at h0
    exact mul_sq ⟨h0.2.2.2.2.1, h0.2.2.2.2.2⟩ hqs
  . rw [com_one.1 h1, com_zero.1 h2] at e
    have hf : comB (pdP x y) p = false := com_one.2 (by rw [e])
    rw [if_neg (by decide), if_pos rfl, hf, if_neg (by decide), (hx.pd hq).1, (hxy.2.pd hq).1, hxy.1, mul_as, yq', ← mul_as]
  . rw [com_zero.1 h1, com_one.1 h2] at e
    have hf : comB (pdP x y) p = false := com_one.2 (by rw [e])
    rw [if_pos rfl, if_neg (by decide), hf, if_neg (by decide), (hy.pd hq).1, (hxy.2.pd hq).1, hxy.1, mul_as]
  . rw [com_zero.1 h1, com_zero.1 h2] at e
    rw [if_pos rfl, if_pos rfl, if_pos (com_zero.2 (by rw [e])), hxy.1]
theorem al_succ {t : TT} {N : Nat} (hc : chB t = true) (hN : t.n = (N : Int)) {r : P} (hr : Rr N r) {k : Nat} (hk : k < N) : alP t r (k + 1) = if om (bp (t.d.getD k oP)) (bp r) = 0 then alP t r k else pdP (alP t r k) (t.s.getD k oP) := by
  have h := sg_rr hN ((ch_iff.1 hc).2.1 k (by rw [hN]; omega))
  rw [alP, cm_eq h.2 hr]
  cases e : comB (t.d.getD k oP) r
  . rw [if_neg (by decide), if_neg (by rw [com_one.1 e]; decide)]
  . rw [if_pos rfl, if_pos (com_zero.1 e)]
theorem sg_of {t : TT} {N : Nat} (hc : chB t = true) (hN : t.n = (N : Int)) {i : Nat} (hi : i < N) : sgB (t.s.getD i oP) (N : Int) = true /\ sgB (t.d.getD i oP) (N : Int) = true := by
  have := (ch_iff.1 hc).2.1 i (by rw [hN]; omega)
  unfold sg2 at this
  rw [hN, Bool.and_eq_true] at this
  exact this
theorem fc_al {t : TT} {N : Nat} (hc : chB t = true) (hN : t.n = (N : Int)) {p : P} (hp : sgB p (N : Int) = true) (hl : lsB t p = true) {r : P} (hr : Rr N r) (hrs : ∀ j, j < N -> comB (t.s.getD j oP) r = true) : ∀ m, m <= N -> alP (fcT t p) r m = fF p (t.s.getD (lsI t p) oP) (alP t r m)
  | 0, _ => by
    have h : comB ⟨t.n, 0, 0, 0⟩ p = true := by
      have e0 : bp (⟨t.n, 0, 0, 0⟩ : P) = (0, 0) := rfl
      refine com_zero.2 ?_
      rw [e0, om_zero]
    rw [alP, alP]
    unfold fF
    rw [if_pos h]
    rfl
  | m + 1, hm => by
    have ih := fc_al hc hN hp hl hr hrs m (by omega)
    have hpr := (sgB_iff.1 hp).1
    obtain ⟨hk, hkp⟩ := ls_at hc hN hpr hl
    have hu := fc_ch hc hN hp hl
    have sy := ch_sy hc hN
    have SS : ∀ i j, i < N -> j < N -> om (bp (t.s.getD i oP)) (bp (t.s.getD j oP)) = 0 := sy.ss
    obtain ⟨rq, pq⟩ := sgB_iff.1 (sg_of hc hN hk).1
    have rm := sgB_iff.1 (sg_of hc hN (show m < N by omega)).1
    have rdm := sgB_iff.1 (sg_of hc hN (show m < N by omega)).2
    have ra := al_rr hc hN r m (by omega)
    have hq := com_zero.1 (hrs _ hk)
    rw [al_succ hu hN hr (by omega), al_succ hc hN hr (by omega), fc_s hc hN hpr (by omega), fc_d hc hN hpr (by omega), ih]
    by_cases e : m = lsI t p
    . rw [if_pos e, if_pos hq]
      by_cases f : om (bp (t.d.getD m oP)) (bp r) = 0
      . rw [if_pos f]
      . rw [if_neg f, ← fF_mul rq pq ra rm.1 (com_zero.2 (SS _ _ hk (by omega)))]
        have h1 : fF p (t.s.getD (lsI t p) oP) (t.s.getD m oP) = mulP (t.s.getD (lsI t p) oP) (t.s.getD (lsI t p) oP) := by
          rw [e]
          unfold fF
          rw [com_one.2 hkp, if_neg (by decide), (rq.pd rq).1]
        have hF := fF_rr (p := p) ra rq
        rw [(hF.pd (fF_rr (p := p) rm.1 rq)).1, h1, mul_sq ⟨(rt_iff.1 hF.1).2.2.2.2.1, (rt_iff.1 hF.1).2.2.2.2.2⟩ pq]
    . rw [if_neg e, if_neg e, fc_om rdm.1 rq, hq]
      have hlt := om_lt (bp (t.d.getD m oP)) (bp r)
      by_cases f : om (bp (t.d.getD m oP)) (bp r) = 0
      . rw [if_pos f, f, if_pos (by simp)]
      . have f1 : om (bp (t.d.getD m oP)) (bp r) = 1 := by omega
        rw [if_neg f, f1, if_neg (by simp), ← fF_mul rq pq ra rm.1 (com_zero.2 (SS _ _ hk (by omega)))]
        rfl
theorem ls_no {t : TT} {N : Nat} (hc : chB t = true) (hN : t.n = (N : Int)) {r : P} (hr : Rr N r) (h : ∀ j, j < N -> comB (t.s.getD j oP) r = true) : lsB t r = false := by
  obtain ⟨-, -, hls, -⟩ := sz_of (ch_size hc)
  rw [hN, Int.toNat_natCast] at hls
  unfold lsB
  rw [List.any_eq_false]
  intro x hx
  obtain ⟨j, hj⟩ := List.getElem?_of_mem hx
  have hl := (List.getElem?_eq_some_iff.1 hj).1
  have e := get_of hl
  rw [hj] at e
  cases e
  rw [cm_eq (sgB_iff.1 (sg_of hc hN (show j < N by omega)).1).1 hr, h j (by omega)]
  decide
theorem fc_com {t : TT} {N : Nat} (hc : chB t = true) (hN : t.n = (N : Int)) {p : P} (hp : sgB p (N : Int) = true) (hl : lsB t p = true) {r : P} (hrs : ∀ j, j < N -> comB (t.s.getD j oP) r = true) (hpr : comB p r = true) : ∀ j, j < N -> comB ((fcT t p).s.getD j oP) r = true := fun j hj => by
  have hpr' := (sgB_iff.1 hp).1
  obtain ⟨hk, hkp⟩ := ls_at hc hN hpr' hl
  have rq := (sgB_iff.1 (sg_of hc hN hk).1).1
  have rj := (sgB_iff.1 (sg_of hc hN hj).1).1
  rw [fc_s hc hN hpr' hj]
  by_cases e : j = lsI t p
  . rw [if_pos e]; exact hpr
  . rw [if_neg e]
    refine com_zero.2 ?_
    rw [fc_om rj rq, com_zero.1 (hrs j hj), com_zero.1 (hrs _ hk)]
    simp
theorem fc_mem {t : TT} {N : Nat} (hc : chB t = true) (hN : t.n = (N : Int)) {p : P} (hp : sgB p (N : Int) = true) (hl : lsB t p = true) {r : P} (hr : Rr N r) (hm : memI t r ≠ 0) (hpr : comB p r = true) : memI (fcT t p) r = memI t r := by
  have h0 : lsB t r = false := by
    unfold memI at hm
    cases h : lsB t r
    . rfl
    . rw [h, if_pos rfl] at hm; exact absurd rfl hm
  have hrs := ls_com hc hN hr h0
  have hu := fc_ch hc hN hp hl
  have h1 : lsB (fcT t p) r = false := ls_no hu hN hr (fc_com hc hN hp hl hrs hpr)
  have hn : (fcT t p).n.toNat = N := by show t.n.toNat = N; rw [hN, Int.toNat_natCast]
  have hn' : t.n.toNat = N := hn
  unfold memI
  rw [h0, h1, hn, hn', fc_al hc hN hp hl hr hrs N (Nat.le_refl _)]
  obtain ⟨-, ex, ez⟩ := al_bits hc hN hr hrs
  have e : fF p (t.s.getD (lsI t p) oP) (alP t r N) = alP t r N := by
    unfold fF
    refine if_pos (com_zero.2 ?_)
    have : bp (alP t r N) = bp r := by unfold bp; rw [ex, ez]
    rw [this, om_comm]
    exact com_zero.1 hpr
  rw [e]
theorem fc_own {t : TT} {N : Nat} (hc : chB t = true) (hN : t.n = (N : Int)) {p : P} (hp : sgB p (N : Int) = true) (hl : lsB t p = true) : lsB (fcT t p) p = false /\ alP (fcT t p) p N = p := by
  have hpr := (sgB_iff.1 hp).1
  obtain ⟨hk, hkp⟩ := ls_at hc hN hpr hl
  have hu := fc_ch hc hN hp hl
  have rq := (sgB_iff.1 (sg_of hc hN hk).1).1
  have hs : ∀ j, j < N -> comB ((fcT t p).s.getD j oP) p = true := fun j hj => by
    rw [fc_s hc hN hpr hj]
    by_cases e : j = lsI t p
    . rw [if_pos e]; exact com_zero.2 (om_self _)
    . rw [if_neg e]
      refine com_zero.2 ?_
      rw [fc_om (sgB_iff.1 (sg_of hc hN hj).1).1 rq, hkp]
      omega
  refine ⟨ls_no hu hN hpr hs, ?_⟩
  have hd : ∀ j, j < N -> om (bp ((fcT t p).d.getD j oP)) (bp p) = if j = lsI t p then 1 else 0 := fun j hj => by
    rw [fc_d hc hN hpr hj]
    by_cases e : j = lsI t p
    . rw [if_pos e, if_pos e, hkp]
    . rw [if_neg e, if_neg e, fc_om (sgB_iff.1 (sg_of hc hN hj).2).1 rq, hkp]
      omega
  have key : ∀ m, m <= N -> alP (fcT t p) p m = if lsI t p < m then p else ⟨(N : Int), 0, 0, 0⟩ := by
    intro m
    induction m with
    | zero => intro _; rw [if_neg (Nat.not_lt_zero _)]; show (⟨t.n, 0, 0, 0⟩ : P) = _; rw [hN]
    | succ m ih =>
      intro hm
      rw [al_succ hu hN hpr (by omega), hd m (by omega), ih (by omega), fc_s hc hN hpr (by omega)]
      by_cases e : m = lsI t p
      . rw [if_pos e, if_pos e, if_neg (by decide), if_neg (by omega), if_pos (by omega), ((rr_id hpr.n64).pd hpr).1, one_mul hpr]
      . rw [if_neg e, if_pos rfl]
        by_cases f : lsI t p < m
        . rw [if_pos f, if_pos (by omega)]
        . rw [if_neg f, if_neg (by omega)]
  rw [key N (Nat.le_refl _), if_pos hk]
theorem al_even {t : TT} {N : Nat} (hc : chB t = true) (hN : t.n = (N : Int)) {p : P} (hp : Rr N p) : ∀ k, k <= N -> (alP t p k).ph = 0 ∨ (alP t p k).ph = 2
  | 0, _ => Or.inl rfl
  | k + 1, hk => by
    have ih := al_even hc hN hp k (by omega)
    have ra := al_rr hc hN p k (by omega)
    obtain ⟨rs, ps⟩ := sgB_iff.1 (sg_of hc hN (show k < N by omega)).1
    rw [al_succ hc hN hp (by omega)]
    split
    . exact ih
    . rw [(ra.pd rs).1]
      exact ph_even ih ps ((al_om hc hN hp k (by omega)).1 k (by omega))
theorem mem_neg {t : TT} {N : Nat} (hc : chB t = true) (hN : t.n = (N : Int)) {p r : P} (hp : sgB p (N : Int) = true) (hr : sgB r (N : Int) = true) (hx : p.x = r.x) (hz : p.z = r.z) (hph : p.ph ≠ r.ph) : memI t r = - memI t p := by
  obtain ⟨rp, pp⟩ := sgB_iff.1 hp
  obtain ⟨rr, pr⟩ := sgB_iff.1 hr
  have eb : bp p = bp r := by unfold bp; rw [hx, hz]
  have hcm : ∀ s, Rr N s -> cmB s p = cmB s r := fun s hs => by rw [cm_eq hs rp, cm_eq hs rr, com_om, com_om, eb]
  obtain ⟨-, -, hls, -⟩ := sz_of (ch_size hc)
  rw [hN, Int.toNat_natCast] at hls
  have hl : lsB t p = lsB t r := by
    cases h : lsB t r
    . have := ls_com hc hN rr h
      refine ls_no hc hN rp (fun j hj => ?_)
      have h2 := this j hj
      rw [com_om] at h2 ⊢
      rw [eb]
      exact h2
    . cases h' : lsB t p
      . have := ls_com hc hN rp h'
        have h3 := ls_no hc hN rr (fun j hj => by
          have h2 := this j hj
          rw [com_om] at h2 ⊢
          rw [← eb]
          exact h2)
        rw [h] at h3
        cases h3
      . rfl
  have ha : ∀ m, m <= N -> alP t p m = alP t r m := by
    intro m
    induction m with
    | zero => intro _; rfl
    | succ m ih =>
      intro hm
      rw [al_succ hc hN rp (by omega), al_succ hc hN rr (by omega), ih (by omega), eb]
  have hn : t.n.toNat = N := by rw [hN, Int.toNat_natCast]
  unfold memI
  rw [hl, hn, ha N (Nat.le_refl _)]
  cases h : lsB t r
  . obtain ⟨e1, e2, e3⟩ := al_bits hc hN rr (ls_com hc hN rr h)
    have ev := al_even hc hN rr N (Nat.le_refl _)
    by_cases e : (alP t r N).ph = r.ph
    . have e4 : alP t r N = r := P.ext' e1 e2 e3 e
      have ne : ¬ r = p := fun h => hph (by rw [← h])
      rw [e4]
      simp [ne]
    . have e5 : (alP t r N).ph = p.ph := by omega
      have e4 : alP t r N = p := P.ext' (e1.trans (rr.2.trans rp.2.symm)) (e2.trans hx.symm) (e3.trans hz.symm) e5
      have ne : ¬ p = r := fun h => hph (by rw [h])
      rw [e4]
      simp [ne]
  . rw [if_pos rfl, if_pos rfl]
    rfl
theorem sg_lz {N q : Nat} (hq : q < N) (h64 : N <= 64) {v : Int} (hv : v = 0 ∨ v = 1) : sgB (lzP (N : Int) q v) (N : Int) = true := by
  refine sgB_iff.2 ⟨⟨rt_iff.2 ⟨by show (0 : Int) <= (N : Int); omega, by show (N : Int) <= 64; omega, Nat.two_pow_pos _, ?_, ?_, ?_⟩, rfl⟩, ?_⟩
  . show 2 ^ q < 2 ^ ((N : Int).toNat)
    rw [Int.toNat_natCast]
    exact Nat.pow_lt_pow_right (by decide) hq
  . show (0 : Int) <= 2 * v; omega
  . show 2 * v <= 3; omega
  . show 2 * v = 0 ∨ 2 * v = 2; omega
theorem lz_neg {t : TT} {N : Nat} (hc : chB t = true) (hN : t.n = (N : Int)) {q : Nat} (hq : q < N) : memI t (lzP (N : Int) q 1) = - memI t (lzP (N : Int) q 0) := by
  have h64 := (sz_of (ch_size hc)).2.1
  exact mem_neg hc hN (sg_lz hq (by omega) (.inl rfl)) (sg_lz hq (by omega) (.inr rfl)) rfl rfl (show (2 * 0 : Int) ≠ 2 * 1 by decide)
structure Ms (t u : TT) (q v : Int) : Prop where
  pr : prR t q v = (u, 0)
  ch : chB u = true
  n : u.n = t.n
  cq : cqI u q = 0
  od : odI u q = v
  pr2 : prR u q v = (u, 0)
  no : (prR u q (1 - v)).2 = 142
  keep : ∀ p, sgB p t.n = true -> memI t p ≠ 0 -> comB p (lzP t.n q.toNat 0) = true -> memI u p = memI t p
theorem cq_of {t : TT} {q : Int} (hc : chB t = true) (h0 : 0 <= q) (h1 : q < t.n) : cqI t q = 0 := by unfold cqI; rw [if_pos hc, if_pos ⟨h0, h1⟩]
theorem ms_sure {t : TT} {N : Nat} (hc : chB t = true) (hN : t.n = (N : Int)) {q : Nat} (hq : q < N) {v : Int} (hv : v = 0 ∨ v = 1) (hm : memI t (lzP (N : Int) q v) = 1) : cqI t (q : Int) = 0 /\ odI t (q : Int) = v /\ prR t (q : Int) v = (t, 0) /\ (prR t (q : Int) (1 - v)).2 = 142 := by
  have hcq : cqI t (q : Int) = 0 := cq_of hc (by omega) (by omega)
  have hng := lz_neg hc hN hq
  refine ⟨hcq, ?_, ?_, ?_⟩
  . unfold odI
    rw [if_pos hcq, hN, Int.toNat_natCast]
    rcases hv with rfl | rfl
    . rw [if_pos hm]
    . have : memI t (lzP (N : Int) q 0) = -1 := by omega
      rw [this]
      rfl
  . unfold prR
    rw [if_pos hcq, if_pos hv, hN, Int.toNat_natCast, fr_one hm]
  . unfold prR
    rw [if_pos hcq, if_pos (by omega), hN, Int.toNat_natCast, fr_neg (by
      rcases hv with rfl | rfl
      . show memI t (lzP (N : Int) q 1) = -1; omega
      . show memI t (lzP (N : Int) q 0) = -1; omega)]
theorem ms_case {t : TT} {q v : Int} (hc : cqI t q = 0) (hv : v = 0 ∨ v = 1) : (odI t q = 1 - v /\ prR t q v = (zrT, 142)) ∨ (odI t q ≠ 1 - v /\ ∃ u, Ms t u q v) := by
  obtain ⟨hch, h0, h1, h64, hsz⟩ := cq_ok hc
  obtain ⟨N, hN⟩ : ∃ N : Nat, t.n = (N : Int) := ⟨t.n.toNat, by omega⟩
  obtain ⟨k, rfl⟩ : ∃ k : Nat, q = (k : Int) := ⟨q.toNat, by omega⟩
  rw [hN] at h1
  have hk : k < N := by omega
  have hN64 := (sz_of (ch_size hch)).2.1
  have hng := lz_neg hch hN hk
  have hsg := sg_lz hk (by omega) hv
  have hod : odI t (k : Int) = if memI t (lzP (N : Int) k 0) = 1 then 0 else if memI t (lzP (N : Int) k 0) = -1 then 1 else 2 := by
    unfold odI
    rw [if_pos hc, hN, Int.toNat_natCast]
  have hpr : prR t (k : Int) v = ((frR t (lzP (N : Int) k v)).1, (frR t (lzP (N : Int) k v)).2.2) := by
    unfold prR
    rw [if_pos hc, if_pos hv, hN, Int.toNat_natCast]
  have h3 := mem_three t (lzP (N : Int) k v)
  have hv' : memI t (lzP (N : Int) k v) = memI t (lzP (N : Int) k 0) /\ v = 0 ∨ memI t (lzP (N : Int) k v) = - memI t (lzP (N : Int) k 0) /\ v = 1 := by
    rcases hv with rfl | rfl
    . exact .inl ⟨rfl, rfl⟩
    . exact .inr ⟨hng, rfl⟩
  rcases h3 with h3 | h3 | h3
  . right
    have hz : memI t (lzP (N : Int) k 0) = 0 := by omega
    refine ⟨by rw [hod, hz]; simp; omega, fcT t (lzP (N : Int) k v), ?_⟩
    have hl := mem_zero h3
    have hu := fc_ch hch hN hsg hl
    obtain ⟨o1, o2⟩ := fc_own hch hN hsg hl
    have hm : memI (fcT t (lzP (N : Int) k v)) (lzP (N : Int) k v) = 1 := by
      have hn : (fcT t (lzP (N : Int) k v)).n.toNat = N := by show t.n.toNat = N; rw [hN, Int.toNat_natCast]
      unfold memI
      rw [o1, hn, o2, if_neg (by decide), decide_eq_true rfl, if_pos rfl]
    obtain ⟨a1, a2, a3, a4⟩ := ms_sure hu hN hk hv hm
    refine ⟨by rw [hpr, fr_two h3], hu, rfl, a1, a2, a3, a4, fun p hp hm hcm => ?_⟩
    rw [hN] at hp hcm
    rw [Int.toNat_natCast] at hcm
    refine fc_mem hch hN hsg hl (sgB_iff.1 hp).1 hm ?_
    have hb : bp (lzP (N : Int) k v) = bp (lzP (N : Int) k 0) := rfl
    rw [com_om, om_comm] at hcm
    rw [com_om, hb]
    exact hcm
  . right
    obtain ⟨a1, a2, a3, a4⟩ := ms_sure hch hN hk hv h3
    refine ⟨?_, t, a3, hch, rfl, a1, a2, a3, a4, fun _ _ _ _ => rfl⟩
    rw [a2]
    omega
  . left
    refine ⟨?_, by rw [hpr, fr_neg h3]⟩
    rw [hod]
    rcases hv' with ⟨e, rfl⟩ | ⟨e, rfl⟩
    . have : memI t (lzP (N : Int) k 0) = -1 := by omega
      rw [this]; rfl
    . have : memI t (lzP (N : Int) k 0) = 1 := by omega
      rw [this]; rfl
inductive Gn (N : Nat) (l : List P) : P -> Prop
  | one : Gn N l ⟨(N : Int), 0, 0, 0⟩
  | own {p : P} : p ∈ l -> Gn N l p
  | mul {p q : P} : Gn N l p -> Gn N l q -> Gn N l (pdP p q)
theorem Gn.sub {N : Nat} {l m : List P} {p : P} (h : ∀ q ∈ l, Gn N m q) (hp : Gn N l p) : Gn N m p := by
  induction hp with
  | one => exact .one
  | own hq => exact h _ hq
  | mul _ _ a b => exact .mul a b
theorem bp_pd {N : Nat} {a b : P} (ha : Rr N a) (hb : Rr N b) : bp (pdP a b) = xo (bp a) (bp b) := by rw [(ha.pd hb).1]; rfl
theorem al_zero {t : TT} {N : Nat} (hN : t.n = (N : Int)) (g : P) : alP t g 0 = ⟨(N : Int), 0, 0, 0⟩ := by rw [alP, hN]
theorem n64_of {t : TT} {N : Nat} (hc : chB t = true) (hN : t.n = (N : Int)) : N <= 64 := by
  have := (sz_of (ch_size hc)).2.1
  omega
theorem al_mul {t : TT} {N : Nat} (hc : chB t = true) (hN : t.n = (N : Int)) {g h : P} (hg : Rr N g) (hh : Rr N h) : ∀ k, k <= N -> alP t (pdP g h) k = pdP (alP t g k) (alP t h k)
  | 0, _ => by
    have ri := rr_id (n64_of hc hN)
    rw [al_zero hN, al_zero hN, al_zero hN, (ri.pd ri).1, one_mul ri]
  | k + 1, hk => by
    have ih := al_mul hc hN hg hh k (by omega)
    obtain ⟨rs, ps⟩ := sgB_iff.1 (sg_of hc hN (show k < N by omega)).1
    have ra := al_rr hc hN g k (by omega)
    have rb := al_rr hc hN h k (by omega)
    have cb := (al_om hc hN hh k (by omega)).1 k (by omega)
    rw [om_comm] at cb
    have ecb : mulP (t.s.getD k oP) (alP t h k) = mulP (alP t h k) (t.s.getD k oP) := (com_iff (rs.fit rb)).1 (com_zero.2 cb)
    have eo : om (bp (t.d.getD k oP)) (bp (pdP g h)) = (om (bp (t.d.getD k oP)) (bp g) + om (bp (t.d.getD k oP)) (bp h)) % 2 := by
      rw [bp_pd hg hh, om_comm, om_xo, om_comm (bp g), om_comm (bp h)]
    rw [al_succ hc hN (hg.pd hh).2 (by omega), al_succ hc hN hg (by omega), al_succ hc hN hh (by omega), ih, eo]
    have la := om_lt (bp (t.d.getD k oP)) (bp g)
    have lb := om_lt (bp (t.d.getD k oP)) (bp h)
    generalize om (bp (t.d.getD k oP)) (bp g) = x at *
    generalize om (bp (t.d.getD k oP)) (bp h) = y at *
    generalize t.s.getD k oP = s at *
    generalize alP t g k = A at *
    generalize alP t h k = B at *
    have hx : x = 0 ∨ x = 1 := by omega
    have hy : y = 0 ∨ y = 1 := by omega
    rcases hx with rfl | rfl <;> rcases hy with rfl | rfl
    . rfl
    . show pdP (pdP A B) s = pdP A (pdP B s)
      rw [((ra.pd rb).2.pd rs).1, (ra.pd rb).1, (ra.pd (rb.pd rs).2).1, (rb.pd rs).1, mul_as]
    . show pdP (pdP A B) s = pdP (pdP A s) B
      rw [((ra.pd rb).2.pd rs).1, (ra.pd rb).1, ((ra.pd rs).2.pd rb).1, (ra.pd rs).1, mul_as, mul_as, ecb]
    . show pdP A B = pdP (pdP A s) (pdP B s)
      have h0 := rt_iff.1 (ra.pd rb).2.1
      rw [(ra.pd rb).1] at h0
      rw [((ra.pd rs).2.pd (rb.pd rs).2).1, (ra.pd rs).1, (rb.pd rs).1, (ra.pd rb).1, mul_as, ← mul_as s B s, ecb, mul_as B s s, ← mul_as]
      exact (mul_sq ⟨h0.2.2.2.2.1, h0.2.2.2.2.2⟩ ps).symm
theorem al_own {t : TT} {N : Nat} (hc : chB t = true) (hN : t.n = (N : Int)) {j : Nat} (hj : j < N) : ∀ k, k <= N -> alP t (t.s.getD j oP) k = if j < k then t.s.getD j oP else ⟨(N : Int), 0, 0, 0⟩
  | 0, _ => al_zero hN _
  | k + 1, hk => by
    have ih := al_own hc hN hj k (by omega)
    have rj := (sgB_iff.1 (sg_of hc hN hj).1).1
    have ri := rr_id (n64_of hc hN)
    rw [al_succ hc hN rj (by omega), ih, (ch_sy hc hN).ds k j (by omega) hj]
    by_cases e : k = j
    . subst e
      rw [if_pos rfl, if_neg (by omega), if_neg (by omega), if_pos (by omega), (ri.pd rj).1, one_mul rj]
    . rw [if_neg e, if_pos rfl]
      by_cases h2 : j < k
      . rw [if_pos h2, if_pos (by omega)]
      . rw [if_neg h2, if_neg (by omega)]
theorem al_id {t : TT} {N : Nat} (hc : chB t = true) (hN : t.n = (N : Int)) : ∀ k, k <= N -> alP t ⟨(N : Int), 0, 0, 0⟩ k = ⟨(N : Int), 0, 0, 0⟩
  | 0, _ => al_zero hN _
  | k + 1, hk => by
    have e : om (bp (t.d.getD k oP)) (bp ⟨(N : Int), 0, 0, 0⟩) = 0 := by rw [om_comm]; exact om_zero _
    rw [al_succ hc hN (rr_id (n64_of hc hN)) (by omega), if_pos e, al_id hc hN k (by omega)]
structure Kg (t : TT) (N : Nat) (g : P) : Prop where
  rr : Rr N g
  al : alP t g N = g
theorem Kg.ph {t : TT} {N : Nat} (hc : chB t = true) (hN : t.n = (N : Int)) {g : P} (h : Kg t N g) : g.ph = 0 ∨ g.ph = 2 := by
  have := al_even hc hN h.rr N (Nat.le_refl _)
  rw [h.al] at this
  exact this
theorem gn_kg {t : TT} {N : Nat} (hc : chB t = true) (hN : t.n = (N : Int)) {g : P} (h : Gn N t.s g) : Kg t N g := by
  induction h with
  | one => exact ⟨rr_id (n64_of hc hN), al_id hc hN N (Nat.le_refl _)⟩
  | own hq =>
    obtain ⟨j, hj, rfl⟩ := List.mem_iff_getElem.1 hq
    have hl := (sz_of (ch_size hc)).2.2.1
    rw [hN, Int.toNat_natCast] at hl
    have e : t.s[j] = t.s.getD j oP := by rw [List.getD_eq_getElem?_getD, List.getElem?_eq_getElem hj]; rfl
    rw [e]
    refine ⟨(sgB_iff.1 (sg_of hc hN (by omega)).1).1, ?_⟩
    rw [al_own hc hN (by omega) N (Nat.le_refl _), if_pos (by omega)]
  | mul _ _ a b => exact ⟨(a.rr.pd b.rr).2, by rw [al_mul hc hN a.rr b.rr N (Nat.le_refl _), a.al, b.al]⟩
theorem bit_lt (N : Nat) (p : P) (c : Nat) : bitN N p c < 2 := by unfold bitN; split <;> exact bt_lt _ _
theorem bit_id (N c : Nat) : bitN N ⟨(N : Int), 0, 0, 0⟩ c = 0 := by unfold bitN; split <;> exact bt_zero _
theorem bit_pd {N : Nat} {a b : P} (ha : Rr N a) (hb : Rr N b) (c : Nat) : bitN N (pdP a b) c = (bitN N a c + bitN N b c) % 2 := by
  rw [(ha.pd hb).1]
  unfold bitN
  split
  . exact bt_xor _ _ _
  . exact bt_xor _ _ _
theorem bit_ext {N : Nat} {a b : P} (ha : Rr N a) (hb : Rr N b) (h : ∀ c, c < 2 * N -> bitN N a c = bitN N b c) : bp a = bp b := by
  have h1 := rr_bp ha
  have h2 := rr_bp hb
  have e1 : a.x = b.x := bt_le_ext h1.1 h2.1 (fun q hq => by
    have := h q (by omega)
    unfold bitN at this
    rw [if_pos hq, if_pos hq] at this
    exact this)
  have e2 : a.z = b.z := bt_le_ext h1.2 h2.2 (fun q hq => by
    have := h (N + q) (by omega)
    unfold bitN at this
    rw [if_neg (by omega), if_neg (by omega), show N + q - N = q by omega] at this
    exact this)
  unfold bp
  rw [e1, e2]
structure Ec (N : Nat) (m : List P) (r C : Nat) (pv : Nat -> Nat) : Prop where
  le : r <= m.length
  lt : ∀ i, i < r -> pv i < C
  inc : ∀ i j, i < j -> j < r -> pv i < pv j
  one : ∀ i, i < r -> bitN N (m.getD i oP) (pv i) = 1
  off : ∀ i j, i < r -> j < m.length -> j ≠ i -> bitN N (m.getD j oP) (pv i) = 0
  low : ∀ i c, i < r -> c < pv i -> bitN N (m.getD i oP) c = 0
  zer : ∀ i c, r <= i -> i < m.length -> c < C -> bitN N (m.getD i oP) c = 0
theorem rr_at {N : Nat} {m : List P} (h : ∀ p ∈ m, Rr N p) {i : Nat} (hi : i < m.length) : Rr N (m.getD i oP) := rr_getD h hi
theorem mem_at {m : List P} {i : Nat} (hi : i < m.length) : m.getD i oP ∈ m := List.mem_of_getElem? (get_of hi)
theorem ec_sum {N : Nat} {m : List P} {r : Nat} {pv : Nat -> Nat} (hr : ∀ p ∈ m, Rr N p) (h64 : N <= 64) (h : Ec N m r (2 * N) pv) {g : P} (hg : Gn N m g) : Rr N g /\ ∀ c, c < 2 * N -> bitN N g c = sm r (fun i => bitN N g (pv i) * bitN N (m.getD i oP) c) % 2 := by
  induction hg with
  | one =>
    refine ⟨rr_id h64, fun c _ => ?_⟩
    rw [bit_id, sm_zero r (fun q _ => by rw [bit_id]; omega)]
  | @own p hp =>
    obtain ⟨j, hj, e⟩ := List.mem_iff_getElem.1 hp
    have ej : m.getD j oP = p := by rw [List.getD_eq_getElem?_getD, List.getElem?_eq_getElem hj, ← e]; rfl
    refine ⟨hr _ hp, fun c hc => ?_⟩
    rw [← ej]
    by_cases h1 : j < r
    . rw [sm_one r j h1 (fun i hi hne => by rw [h.off i j hi hj (fun e => hne e.symm)]; omega), h.one j h1, Nat.one_mul]
      exact (Nat.mod_eq_of_lt (bit_lt _ _ _)).symm
    . rw [h.zer j c (by omega) hj hc, sm_zero r (fun i hi => by rw [h.off i j hi hj (by omega)]; omega)]
  | @mul p q _ _ a b =>
    refine ⟨(a.1.pd b.1).2, fun c hc => ?_⟩
    have e : sm r (fun i => bitN N (pdP p q) (pv i) * bitN N (m.getD i oP) c) % 2 = (sm r (fun i => bitN N p (pv i) * bitN N (m.getD i oP) c) + sm r (fun i => bitN N q (pv i) * bitN N (m.getD i oP) c)) % 2 := by
      rw [← sm_add]
      exact sm_mod 2 r (fun i _ => by rw [bit_pd a.1 b.1, ← Nat.add_mul, Nat.mod_mul_mod])
    rw [e, bit_pd a.1 b.1, a.2 c hc, b.2 c hc, ← Nat.add_mod]
def swR (l : List P) (K r j : Nat) : P := if j = K then l.getD r oP else if j = r then l.getD K oP else l.getD j oP
theorem sw_at {l : List P} {K r j : Nat} (hj : j < l.length) : ((l.set r (l.getD K oP)).set K (l.getD r oP)).getD j oP = swR l K r j := by
  unfold swR
  rw [getD_set _ (by rw [List.length_set]; exact hj), getD_set _ hj]
structure Pv (N c : Nat) (l : List P) (r K : Nat) : Prop where
  rk : r <= K
  kl : K < l.length
  one : bitN N (l.getD K oP) c = 1
theorem pv_of {N c : Nat} {l : List P} {r : Nat} (ha : (l.drop r).any (bitB N c) = true) : Pv N c l r (pvK N c (l, r)) := by
  obtain ⟨x, hx, hT⟩ := List.any_eq_true.1 ha
  have hlt := List.findIdx_lt_length_of_exists (p := bitB N c) ⟨x, hx, hT⟩
  have hb := List.findIdx_getElem (p := bitB N c) (xs := l.drop r) (w := hlt)
  have hl := hlt
  rw [List.length_drop] at hl
  refine ⟨Nat.le_add_right _ _, by show r + (l.drop r).findIdx (bitB N c) < l.length; omega, ?_⟩
  have e : l.getD (pvK N c (l, r)) oP = (l.drop r)[(l.drop r).findIdx (bitB N c)] := by
    show l.getD (r + (l.drop r).findIdx (bitB N c)) oP = _
    rw [List.getD_eq_getElem?_getD, ← List.getElem?_drop, List.getElem?_eq_getElem hlt]
    rfl
  rw [e]
  unfold bitB at hb
  exact beq_iff_eq.1 hb
theorem red_some {N c : Nat} {l : List P} {r : Nat} (ha : (l.drop r).any (bitB N c) = true) : redC N c (l, r) = (mlL ((l.set r (l.getD (pvK N c (l, r)) oP)).set (pvK N c (l, r)) (l.getD r oP)) (l.getD (pvK N c (l, r)) oP) r (bitB N c), r + 1) := by unfold redC; rw [if_pos ha]
theorem red_none {N c : Nat} {l : List P} {r : Nat} (ha : ¬ (l.drop r).any (bitB N c) = true) : redC N c (l, r) = (l, r) := by unfold redC; rw [if_neg ha]
theorem red_row {N c : Nat} {l : List P} {r K j : Nat} (hj : j < l.length) : (mlL ((l.set r (l.getD K oP)).set K (l.getD r oP)) (l.getD K oP) r (bitB N c)).getD j oP = if j ≠ r /\ bitN N (swR l K r j) c = 1 then pdP (swR l K r j) (l.getD K oP) else swR l K r j := by
  rw [getD_ml (by rw [List.length_set, List.length_set]; exact hj), sw_at hj]
  have e : (bitB N c (swR l K r j) = true) = (bitN N (swR l K r j) c = 1) := by unfold bitB; exact propext beq_iff_eq
  simp only [e]
theorem red_len {N c : Nat} {l : List P} {r K : Nat} : (mlL ((l.set r (l.getD K oP)).set K (l.getD r oP)) (l.getD K oP) r (bitB N c)).length = l.length := by rw [ml_len, List.length_set, List.length_set]
theorem sw_r {l : List P} {K r : Nat} : swR l K r r = l.getD K oP := by
  unfold swR
  by_cases e : r = K
  . rw [if_pos e, e]
  . rw [if_neg e, if_pos rfl]
theorem sw_lo {l : List P} {K r j : Nat} (h : j < r) (hk : r <= K) : swR l K r j = l.getD j oP := by
  unfold swR
  rw [if_neg (by omega), if_neg (by omega)]
theorem sw_hi {l : List P} {K r j : Nat} (h : r <= j) (hj : j < l.length) (hk : r <= K) (hK : K < l.length) : ∃ i, r <= i /\ i < l.length /\ swR l K r j = l.getD i oP := by
  unfold swR
  by_cases e : j = K
  . rw [if_pos e]; exact ⟨r, Nat.le_refl _, by omega, rfl⟩
  . rw [if_neg e]
    by_cases e2 : j = r
    . rw [if_pos e2]; exact ⟨K, hk, hK, rfl⟩
    . rw [if_neg e2]; exact ⟨j, h, hj, rfl⟩
theorem sw_mem {l : List P} {K r j : Nat} (hj : j < l.length) (hr : r < l.length) (hK : K < l.length) : ∃ i, i < l.length /\ swR l K r j = l.getD i oP := by
  unfold swR
  by_cases e : j = K
  . rw [if_pos e]; exact ⟨r, hr, rfl⟩
  . rw [if_neg e]
    by_cases e2 : j = r
    . rw [if_pos e2]; exact ⟨K, hK, rfl⟩
    . rw [if_neg e2]; exact ⟨j, hj, rfl⟩
theorem ec_step {N c : Nat} {l : List P} {r : Nat} {pv : Nat -> Nat} (hr : ∀ p ∈ l, Rr N p) (h : Ec N l r c pv) : ∃ pv', Ec N (redC N c (l, r)).1 (redC N c (l, r)).2 (c + 1) pv' := by
  by_cases ha : (l.drop r).any (bitB N c) = true
  . have hp := pv_of ha
    rw [red_some ha]
    generalize pvK N c (l, r) = K at *
    obtain ⟨hrk, hkl, h1⟩ := hp
    have rp := rr_at hr hkl
    have p0 : ∀ c', c' < c -> bitN N (l.getD K oP) c' = 0 := fun c' hc => h.zer K c' hrk hkl hc
    have pp : ∀ i, i < r -> bitN N (l.getD K oP) (pv i) = 0 := fun i hi => h.off i K hi hkl (by omega)
    have rs : ∀ j, j < l.length -> Rr N (swR l K r j) := fun j hj => by
      obtain ⟨i, hi, e⟩ := sw_mem (K := K) (r := r) hj (by omega) hkl
      rw [e]; exact rr_at hr hi
    have hb : ∀ j c', j < l.length -> bitN N ((mlL ((l.set r (l.getD K oP)).set K (l.getD r oP)) (l.getD K oP) r (bitB N c)).getD j oP) c' = if j ≠ r /\ bitN N (swR l K r j) c = 1 then (bitN N (swR l K r j) c' + bitN N (l.getD K oP) c') % 2 else bitN N (swR l K r j) c' := fun j c' hj => by
      rw [red_row hj]
      split
      . exact bit_pd (rs j hj) rp c'
      . rfl
    have key : ∀ j c', j < l.length -> bitN N (l.getD K oP) c' = 0 -> bitN N ((mlL ((l.set r (l.getD K oP)).set K (l.getD r oP)) (l.getD K oP) r (bitB N c)).getD j oP) c' = bitN N (swR l K r j) c' := fun j c' hj e => by
      rw [hb j c' hj, e]
      split
      . exact Nat.mod_eq_of_lt (bit_lt _ _ _)
      . rfl
    have clr : ∀ j, j < l.length -> j ≠ r -> bitN N ((mlL ((l.set r (l.getD K oP)).set K (l.getD r oP)) (l.getD K oP) r (bitB N c)).getD j oP) c = 0 := fun j hj hne => by
      rw [hb j c hj, h1]
      split
      . rename_i e; rw [e.2]
      . rename_i e
        have := bit_lt N (swR l K r j) c
        have : bitN N (swR l K r j) c ≠ 1 := fun e' => e ⟨hne, e'⟩
        omega
    refine ⟨fun i => if i < r then pv i else c, ?_, ?_, ?_, ?_, ?_, ?_, ?_⟩
    . show r + 1 <= _; rw [red_len]; omega
    . intro i hi
      by_cases e : i < r
      . show (if i < r then pv i else c) < c + 1
        rw [if_pos e]; have := h.lt i e; omega
      . show (if i < r then pv i else c) < c + 1
        rw [if_neg e]; omega
    . intro i j hij hj
      have hj' : j < r + 1 := hj
      show (if i < r then pv i else c) < (if j < r then pv j else c)
      rw [if_pos (by omega)]
      by_cases e : j < r
      . rw [if_pos e]; exact h.inc i j hij e
      . rw [if_neg e]; exact h.lt i (by omega)
    . intro i hi
      have hi' : i < r + 1 := hi
      show bitN N ((mlL _ _ r (bitB N c)).getD i oP) (if i < r then pv i else c) = 1
      by_cases e : i < r
      . rw [if_pos e, key i _ (by omega) (pp i e), sw_lo e hrk]; exact h.one i e
      . obtain rfl : i = r := by omega
        rw [if_neg e, hb i c (by omega), if_neg (fun e => e.1 rfl), sw_r]; exact h1
    . intro i j hi hj hne
      have hi' : i < r + 1 := hi
      have hj' : j < l.length := by rw [red_len] at hj; exact hj
      show bitN N ((mlL _ _ r (bitB N c)).getD j oP) (if i < r then pv i else c) = 0
      by_cases e : i < r
      . rw [if_pos e, key j _ hj' (pp i e)]
        by_cases e2 : j < r
        . rw [sw_lo e2 hrk]; exact h.off i j e hj' hne
        . obtain ⟨j', h3, h4, e5⟩ := sw_hi (K := K) (r := r) (by omega) hj' hrk hkl
          rw [e5]; exact h.off i j' e h4 (by omega)
      . rw [if_neg e]; exact clr j hj' (by omega)
    . intro i c' hi hc
      have hi' : i < r + 1 := hi
      have hc' : c' < (if i < r then pv i else c) := hc
      show bitN N ((mlL _ _ r (bitB N c)).getD i oP) c' = 0
      by_cases e : i < r
      . rw [if_pos e] at hc'
        rw [key i c' (by omega) (p0 c' (by have := h.lt i e; omega)), sw_lo e hrk]
        exact h.low i c' e hc'
      . obtain rfl : i = r := by omega
        rw [if_neg e] at hc'
        rw [key i c' (by omega) (p0 c' hc'), sw_r]
        exact p0 c' hc'
    . intro i c' hi hil hc
      have hi' : r + 1 <= i := hi
      have hil' : i < l.length := by rw [red_len] at hil; exact hil
      show bitN N ((mlL _ _ r (bitB N c)).getD i oP) c' = 0
      by_cases e : c' = c
      . rw [e]; exact clr i hil' (by omega)
      . obtain ⟨j', h3, h4, e5⟩ := sw_hi (K := K) (r := r) (show r <= i by omega) hil' hrk hkl
        rw [key i c' hil' (p0 c' (by omega)), e5]
        exact h.zer j' c' h3 h4 (by omega)
  . rw [red_none ha]
    refine ⟨pv, h.le, fun i hi => by have := h.lt i hi; omega, h.inc, h.one, h.off, h.low, fun i c' h1 h2 h3 => ?_⟩
    by_cases e : c' = c
    . subst e
      refine Classical.byContradiction fun hne => ha ?_
      refine List.any_eq_true.2 ⟨l.getD i oP, ?_, ?_⟩
      . have : (l.drop r)[i - r]? = some (l.getD i oP) := by rw [List.getElem?_drop, show r + (i - r) = i by omega]; exact get_of h2
        exact List.mem_of_getElem? this
      . unfold bitB
        have h4 := bit_lt N (l.getD i oP) c'
        have h5 : bitN N (l.getD i oP) c' ≠ 0 := hne
        exact beq_iff_eq.2 (by omega)
    . exact h.zer i c' h1 h2 (by omega)
theorem gn_step {N c : Nat} {l : List P} {r : Nat} (hr : ∀ p ∈ l, Rr N p) (hph : ∀ p ∈ l, p.ph = 0 ∨ p.ph = 2) : (∀ p ∈ (redC N c (l, r)).1, Gn N l p) /\ (∀ p ∈ l, Gn N (redC N c (l, r)).1 p) := by
  by_cases ha : (l.drop r).any (bitB N c) = true
  . have hp := pv_of ha
    rw [red_some ha]
    generalize pvK N c (l, r) = K at *
    obtain ⟨hrk, hkl, -⟩ := hp
    have rp := rr_at hr hkl
    have rs : ∀ j, j < l.length -> swR l K r j ∈ l := fun j hj => by
      obtain ⟨i, hi, e⟩ := sw_mem (K := K) (r := r) hj (by omega) hkl
      rw [e]; exact mem_at hi
    refine ⟨fun p hp => ?_, fun p hp => ?_⟩
    . obtain ⟨j, hj, e⟩ := List.mem_iff_getElem.1 hp
      have hj' : j < l.length := by simpa only [red_len] using hj
      have ej : p = (mlL ((l.set r (l.getD K oP)).set K (l.getD r oP)) (l.getD K oP) r (bitB N c)).getD j oP := by rw [List.getD_eq_getElem?_getD, List.getElem?_eq_getElem hj, ← e]; rfl
      rw [ej, red_row hj']
      split
      . exact .mul (.own (rs j hj')) (.own (mem_at hkl))
      . exact .own (rs j hj')
    . obtain ⟨j, hj, e⟩ := List.mem_iff_getElem.1 hp
      have ej : p = l.getD j oP := by rw [List.getD_eq_getElem?_getD, List.getElem?_eq_getElem hj, ← e]; rfl
      have h2 : ∃ i, i < l.length /\ swR l K r i = p := by
        by_cases e1 : j = K
        . exact ⟨r, by omega, by rw [sw_r, ej, e1]⟩
        . by_cases e2 : j = r
          . exact ⟨K, hkl, by unfold swR; rw [if_pos rfl, ej, e2]⟩
          . exact ⟨j, hj, by unfold swR; rw [if_neg e1, if_neg e2, ej]⟩
      obtain ⟨i, hi, e3⟩ := h2
      have own : ∀ j, j < l.length -> Gn N (mlL ((l.set r (l.getD K oP)).set K (l.getD r oP)) (l.getD K oP) r (bitB N c)) ((mlL ((l.set r (l.getD K oP)).set K (l.getD r oP)) (l.getD K oP) r (bitB N c)).getD j oP) := fun j hj => .own (mem_at (by rw [red_len]; exact hj))
      have o1 := own i hi
      have o2 := own r (by omega)
      rw [red_row (by omega), if_neg (fun e => e.1 rfl), sw_r] at o2
      rw [red_row hi, e3] at o1
      have rq := hr p hp
      split at o1
      . have o3 := Gn.mul o1 o2
        have h0 := rt_iff.1 rq.1
        rw [((rq.pd rp).2.pd rp).1, (rq.pd rp).1, mul_as, mul_sq ⟨h0.2.2.2.2.1, h0.2.2.2.2.2⟩ (hph _ (mem_at hkl))] at o3
        exact o3
      . exact o1
  . rw [red_none ha]
    exact ⟨fun p hp => .own hp, fun p hp => .own hp⟩
theorem red_inv {t : TT} {N : Nat} (hc : chB t = true) (hN : t.n = (N : Int)) : ∀ c, (∀ p ∈ (redS N t.s c).1, Gn N t.s p) /\ (∀ p ∈ t.s, Gn N (redS N t.s c).1 p) /\ ∃ pv, Ec N (redS N t.s c).1 (redS N t.s c).2 c pv
  | 0 => ⟨fun p hp => .own hp, fun p hp => .own hp, fun _ => 0, Nat.zero_le _, (fun i hi => by exact absurd hi (Nat.not_lt_zero _)), (fun i j _ hj => by exact absurd hj (Nat.not_lt_zero _)), (fun i hi => by exact absurd hi (Nat.not_lt_zero _)), (fun i j hi => by exact absurd hi (Nat.not_lt_zero _)), (fun i j hi => by exact absurd hi (Nat.not_lt_zero _)), (fun i c' _ _ hc => by exact absurd hc (Nat.not_lt_zero _))⟩
  | c + 1 => by
    obtain ⟨h1, h2, pv, h3⟩ := red_inv hc hN c
    have hr : ∀ p ∈ (redS N t.s c).1, Rr N p := fun p hp => (gn_kg hc hN (h1 p hp)).rr
    have hph : ∀ p ∈ (redS N t.s c).1, p.ph = 0 ∨ p.ph = 2 := fun p hp => (gn_kg hc hN (h1 p hp)).ph hc hN
    rw [redS]
    generalize redS N t.s c = s at *
    obtain ⟨l, r⟩ := s
    obtain ⟨g1, g2⟩ := gn_step (c := c) (r := r) hr hph
    exact ⟨fun p hp => Gn.sub h1 (g1 p hp), fun p hp => Gn.sub g2 (h2 p hp), ec_step hr h3⟩
end Go.Proofs.YtpehekonjdneaaaGreatDoor.Tbl
