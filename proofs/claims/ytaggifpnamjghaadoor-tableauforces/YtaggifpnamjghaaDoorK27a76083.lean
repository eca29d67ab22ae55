import Derived.Test.YtaggifpnamjghaaDoorK668f42ad
namespace Go.Proofs.YtaggifpnamjghaaDoor.Tbl
open Go.RowKit Go.Shelf Go.Proofs.YtaggifpnamjghaaDoor.Pau Go.Proofs.YtaggifpnamjghaaDoor.Gt
theorem ph_even {a b : P} (ha : a.ph = 0 ∨ a.ph = 2) (hb : b.ph = 0 ∨ b.ph = 2) (h : om (bp a) (bp b) = 0) : (mulP a b).ph = 0 ∨ (mulP a b).ph = 2 := by
  show mulPh a b = 0 ∨ mulPh a b = 2
  unfold mulPh
  unfold om bp at h
  simp only at h
  have e : (a.x ^^^ b.x) &&& (a.z ^^^ b.z) = ((a.x &&& a.z) ^^^ (a.x &&& b.z)) ^^^ ((b.x &&& a.z) ^^^ (b.x &&& b.z)) := by
    rw [and_xor_r, Nat.and_comm a.x (a.z ^^^ b.z), Nat.and_comm b.x (a.z ^^^ b.z), and_xor_r, and_xor_r, Nat.and_comm a.z a.x, Nat.and_comm b.z a.x, Nat.and_comm a.z b.x, Nat.and_comm b.z b.x]
  have h1 := pc_xor ((a.x &&& a.z) ^^^ (a.x &&& b.z)) ((b.x &&& a.z) ^^^ (b.x &&& b.z))
  have h2 := pc_xor (a.x &&& a.z) (a.x &&& b.z)
  have h3 := pc_xor (b.x &&& a.z) (b.x &&& b.z)
  rw [← e] at h1
  rw [Nat.and_comm a.z b.x] at h ⊢
  generalize pc ((a.x ^^^ b.x) &&& (a.z ^^^ b.z)) = u at *
  generalize pc ((a.x &&& a.z) ^^^ (a.x &&& b.z)) = u1 at *
  generalize pc ((b.x &&& a.z) ^^^ (b.x &&& b.z)) = u2 at *
  generalize pc (a.x &&& a.z) = u3 at *
  generalize pc (a.x &&& b.z) = u4 at *
  generalize pc (b.x &&& a.z) = u5 at *
  generalize pc (b.x &&& b.z) = u6 at *
  rcases ha with ea | ea <;> rcases hb with eb | eb <;> rw [ea, eb] <;> omega
theorem sgB_iff {p : P} {N : Nat} : sgB p (N : Int) = true ↔ Rr N p /\ (p.ph = 0 ∨ p.ph = 2) := by
  unfold sgB Rr
  rw [Bool.and_eq_true, Bool.and_eq_true, decide_eq_true_eq, decide_eq_true_eq]
  exact ⟨fun h => ⟨⟨h.2.1, h.1⟩, h.2.2⟩, fun h => ⟨h.1.2, h.1.1, h.2⟩⟩
theorem ch_of {t : TT} {N : Nat} (h64 : N <= 64) (hN : t.n = (N : Int)) (hs : t.s.length = N) (hd : t.d.length = N) (h1 : ∀ i, i < N -> sgB (t.s.getD i oP) (N : Int) = true) (h2 : ∀ i, i < N -> sgB (t.d.getD i oP) (N : Int) = true)
    (ss : ∀ i j, i < N -> j < N -> om (bp (t.s.getD i oP)) (bp (t.s.getD j oP)) = 0) (dd : ∀ i j, i < N -> j < N -> om (bp (t.d.getD i oP)) (bp (t.d.getD j oP)) = 0) (ds : ∀ i j, i < N -> j < N -> om (bp (t.d.getD i oP)) (bp (t.s.getD j oP)) = if i = j then 1 else 0) : chB t = true := by
  have hg : ∀ k, k < N -> sg2 t k = true := fun k hk => by
    unfold sg2
    rw [hN, h1 k hk, h2 k hk]
    rfl
  refine ch_iff.2 ⟨?_, fun k hk => hg k (by rw [hN] at hk; omega), fun i hi j hj => ?_⟩
  . unfold szB
    exact decide_eq_true ⟨by omega, by omega, by omega, by omega⟩
  . rw [hN, Int.toNat_natCast] at hi hj
    rw [pr_same hN (hg i hi) (hg j hj)]
    unfold prB'
    rw [com_zero.2 (ss i j hi hj), com_zero.2 (dd i j hi hj)]
    have h3 := ds i j hi hj
    by_cases e : i = j
    . rw [if_pos e] at h3
      rw [com_one.2 h3, decide_eq_false (fun h => h e)]
      rfl
    . rw [if_neg e] at h3
      rw [com_zero.2 h3, decide_eq_true e]
      rfl
theorem getD_set {l : List P} {k i : Nat} (p : P) (hi : i < l.length) : (l.set k p).getD i oP = if i = k then p else l.getD i oP := by
  rw [List.getD_eq_getElem?_getD, List.getElem?_set]
  by_cases e : k = i
  . subst e
    rw [if_pos rfl, if_pos hi, if_pos rfl]
    rfl
  . rw [if_neg e, if_neg (fun h => e h.symm), List.getD_eq_getElem?_getD]
theorem getD_ml {l : List P} {q : P} {k : Nat} {T : P -> Bool} {i : Nat} (hi : i < l.length) : (mlL l q k T).getD i oP = if i ≠ k /\ T (l.getD i oP) = true then pdP (l.getD i oP) q else l.getD i oP := by
  unfold mlL
  rw [List.getD_eq_getElem?_getD, upd_at _ _ _ _ hi, if_pos hi]
  rfl
theorem fc_s {t : TT} {N : Nat} (hc : chB t = true) (hN : t.n = (N : Int)) {p : P} (hp : Rr N p) {i : Nat} (hi : i < N) : (fcT t p).s.getD i oP = if i = lsI t p then p else if comB (t.s.getD i oP) p = true then t.s.getD i oP else pdP (t.s.getD i oP) (t.s.getD (lsI t p) oP) := by
  obtain ⟨-, -, hls, hld⟩ := sz_of (ch_size hc)
  rw [hN, Int.toNat_natCast] at hls hld
  have hr := sg_rr hN ((ch_iff.1 hc).2.1 i (by rw [hN]; omega))
  unfold fcT
  simp only
  rw [getD_set p (by rw [ml_len]; omega)]
  by_cases e : i = lsI t p
  . rw [if_pos e, if_pos e]
  . rw [if_neg e, if_neg e, getD_ml (by omega)]
    unfold tnB
    rw [cm_eq hr.1 hp]
    cases comB (t.s.getD i oP) p
    . rw [if_pos ⟨e, rfl⟩, if_neg (by decide)]
    . rw [if_neg (fun h => by cases h.2), if_pos rfl]
theorem fc_d {t : TT} {N : Nat} (hc : chB t = true) (hN : t.n = (N : Int)) {p : P} (hp : Rr N p) {i : Nat} (hi : i < N) : (fcT t p).d.getD i oP = if i = lsI t p then t.s.getD (lsI t p) oP else if comB (t.d.getD i oP) p = true then t.d.getD i oP else pdP (t.d.getD i oP) (t.s.getD (lsI t p) oP) := by
  obtain ⟨-, -, hls, hld⟩ := sz_of (ch_size hc)
  rw [hN, Int.toNat_natCast] at hls hld
  have hr := sg_rr hN ((ch_iff.1 hc).2.1 i (by rw [hN]; omega))
  unfold fcT
  simp only
  rw [getD_set _ (by rw [ml_len]; omega)]
  by_cases e : i = lsI t p
  . rw [if_pos e, if_pos e]
  . rw [if_neg e, if_neg e, getD_ml (by omega)]
    unfold tnB
    rw [cm_eq hr.2 hp]
    cases comB (t.d.getD i oP) p
    . rw [if_pos ⟨e, rfl⟩, if_neg (by decide)]
    . rw [if_neg (fun h => by cases h.2), if_pos rfl]
theorem fc_om {N : Nat} {x q p : P} (hx : Rr N x) (hq : Rr N q) (v : Nat × Nat) : om (bp (if comB x p = true then x else pdP x q)) v = (om (bp x) v + om (bp x) (bp p) * om (bp q) v) % 2 := by
  have hl := om_lt (bp x) v
  have hl' := om_lt (bp q) v
  cases h : comB x p
  . rw [if_neg (by decide), (hx.pd hq).1, com_one.1 h]
    have e : bp (mulP x q) = xo (bp x) (bp q) := rfl
    rw [e, om_xo]
    omega
  . rw [if_pos rfl, com_zero.1 h]
    omega
theorem fc_om' {N : Nat} {x q p : P} (hx : Rr N x) (hq : Rr N q) (v : Nat × Nat) : om v (bp (if comB x p = true then x else pdP x q)) = (om v (bp x) + om (bp x) (bp p) * om v (bp q)) % 2 := by
  rw [om_comm, fc_om hx hq, om_comm v (bp x), om_comm v (bp q)]
theorem ls_at {t : TT} {N : Nat} (hc : chB t = true) (hN : t.n = (N : Int)) {p : P} (hp : Rr N p) (hl : lsB t p = true) : lsI t p < N /\ om (bp (t.s.getD (lsI t p) oP)) (bp p) = 1 := by
  obtain ⟨-, -, hls, -⟩ := sz_of (ch_size hc)
  rw [hN, Int.toNat_natCast] at hls
  have h1 := (ls_lt hl).1
  refine ⟨by omega, ?_⟩
  have h2 : tnB p t.s[lsI t p] = true := List.findIdx_getElem (w := h1)
  have hg := get_of h1
  rw [List.getElem?_eq_getElem h1] at hg
  rw [Option.some.inj hg] at h2
  have hr := sg_rr hN ((ch_iff.1 hc).2.1 (lsI t p) (by rw [hN]; omega))
  unfold tnB at h2
  rw [cm_eq hr.1 hp] at h2
  exact com_one.1 (by simpa using h2)
theorem fc_ch {t : TT} {N : Nat} (hc : chB t = true) (hN : t.n = (N : Int)) {p : P} (hp : sgB p (N : Int) = true) (hl : lsB t p = true) : chB (fcT t p) = true := by
  obtain ⟨hpr, hpp⟩ := sgB_iff.1 hp
  obtain ⟨-, h64, hls, hld⟩ := sz_of (ch_size hc)
  rw [hN, Int.toNat_natCast] at hls hld
  have sy := ch_sy hc hN
  obtain ⟨hk, hkp⟩ := ls_at hc hN hpr hl
  have hsg : ∀ i, i < N -> sgB (t.s.getD i oP) (N : Int) = true /\ sgB (t.d.getD i oP) (N : Int) = true := fun i hi => by
    have := (ch_iff.1 hc).2.1 i (by rw [hN]; omega)
    unfold sg2 at this
    rw [hN, Bool.and_eq_true] at this
    exact this
  have hs := fun i hi => fc_s hc hN hpr (i := i) hi
  have hd := fun i hi => fc_d hc hN hpr (i := i) hi
  have SS : ∀ i j, i < N -> j < N -> om (bp (t.s.getD i oP)) (bp (t.s.getD j oP)) = 0 := sy.ss
  have DD : ∀ i j, i < N -> j < N -> om (bp (t.d.getD i oP)) (bp (t.d.getD j oP)) = 0 := sy.dd
  have DS : ∀ i j, i < N -> j < N -> om (bp (t.d.getD i oP)) (bp (t.s.getD j oP)) = if i = j then 1 else 0 := sy.ds
  generalize hkk : lsI t p = k at *
  have rs := fun i hi => (sgB_iff.1 (hsg i hi).1).1
  have rd := fun i hi => (sgB_iff.1 (hsg i hi).2).1
  have FS := fun i hi v => fc_om (p := p) (rs i hi) (rs k hk) v
  have FD := fun i hi v => fc_om (p := p) (rd i hi) (rs k hk) v
  have FS' := fun i hi v => fc_om' (p := p) (rs i hi) (rs k hk) v
  have FD' := fun i hi v => fc_om' (p := p) (rd i hi) (rs k hk) v
  have hev : ∀ x, sgB x (N : Int) = true -> om (bp x) (bp (t.s.getD k oP)) = 0 -> sgB (if comB x p = true then x else pdP x (t.s.getD k oP)) (N : Int) = true := fun x hx h0 => by
    split
    . exact hx
    . obtain ⟨rx, px⟩ := sgB_iff.1 hx
      obtain ⟨rq, pq⟩ := sgB_iff.1 (hsg k hk).1
      have e := rx.pd rq
      exact sgB_iff.2 ⟨e.2, by rw [e.1]; exact ph_even px pq h0⟩
  refine ch_of (N := N) (by omega) hN (by show (List.set _ _ _).length = N; rw [List.length_set, ml_len]; exact hls) (by show (List.set _ _ _).length = N; rw [List.length_set, ml_len]; exact hld) (fun i hi => ?_) (fun i hi => ?_) (fun i j hi hj => ?_) (fun i j hi hj => ?_) (fun i j hi hj => ?_)
  . rw [hs i hi]
    by_cases e : i = k
    . rw [if_pos e]; exact hp
    . rw [if_neg e]; exact hev _ (hsg i hi).1 (SS i k hi hk)
  . rw [hd i hi]
    by_cases e : i = k
    . rw [if_pos e]; exact (hsg k hk).1
    . rw [if_neg e]; exact hev _ (hsg i hi).2 (by rw [DS i k hi hk, if_neg e])
  . rw [hs i hi, hs j hj]
    by_cases e : i = k <;> by_cases f : j = k
    . rw [if_pos e, if_pos f]; exact om_self _
    . rw [if_pos e, if_neg f, om_comm, FS j hj, hkp]; omega
    . rw [if_neg e, if_pos f, FS i hi, hkp]; omega
    . rw [if_neg e, if_neg f, FS i hi, FS' j hj, FS' j hj, SS i j hi hj, SS i k hi hk, SS k j hk hj, SS k k hk hk]
      simp
  . rw [hd i hi, hd j hj]
    have DSk : ∀ i, i < N -> i ≠ k -> om (bp (t.d.getD i oP)) (bp (t.s.getD k oP)) = 0 := fun i hi e => by rw [DS i k hi hk, if_neg e]
    have SDk : ∀ i, i < N -> i ≠ k -> om (bp (t.s.getD k oP)) (bp (t.d.getD i oP)) = 0 := fun i hi e => by rw [om_comm]; exact DSk i hi e
    by_cases e : i = k <;> by_cases f : j = k
    . rw [if_pos e, if_pos f]; exact om_self _
    . rw [if_pos e, if_neg f, om_comm, FD j hj, DSk j hj f, SS k k hk hk]; simp
    . rw [if_neg e, if_pos f, FD i hi, DSk i hi e, SS k k hk hk]; simp
    . rw [if_neg e, if_neg f, FD i hi, FD' j hj, FD' j hj, DD i j hi hj, DSk i hi e, SDk j hj f, SS k k hk hk]
      simp
  . rw [hd i hi, hs j hj]
    have DSk : ∀ i, i < N -> i ≠ k -> om (bp (t.d.getD i oP)) (bp (t.s.getD k oP)) = 0 := fun i hi e => by rw [DS i k hi hk, if_neg e]
    by_cases e : i = k <;> by_cases f : j = k
    . rw [if_pos e, if_pos f, if_pos (e.trans f.symm), hkp]
    . rw [if_pos e, if_neg f, if_neg (show ¬ i = j by omega), om_comm, FS j hj, SS j k hj hk, SS k k hk hk]; simp
    . rw [if_neg e, if_pos f, if_neg (show ¬ i = j by omega), FD i hi, hkp]; omega
    . rw [if_neg e, if_neg f, FD i hi, FS' j hj, FS' j hj, DS i j hi hj, DSk i hi e, SS k j hk hj, SS k k hk hk]
      by_cases g : i = j
      . rw [if_pos g]; simp
      . rw [if_neg g]; simp
end Go.Proofs.YtaggifpnamjghaaDoor.Tbl
