import Derived.Test.YtoickolhekhgmaaGreatDoorEn441a9c43
namespace Go.Proofs.YtoickolhekhgmaaGreatDoor.Gt
end Go.Proofs.YtoickolhekhgmaaGreatDoor.Gt
namespace Go.Proofs.YtoickolhekhgmaaGreatDoor.Pau
end Go.Proofs.YtoickolhekhgmaaGreatDoor.Pau
namespace Go.Proofs.YtoickolhekhgmaaGreatDoor.Tbl
open Go.RowKit Go.Shelf Go.Proofs.YtoickolhekhgmaaGreatDoor.Pau Go.Proofs.YtoickolhekhgmaaGreatDoor.Gt
theorem onto : ∀ (M : Nat) (f : Nat -> Nat), (∀ i, i < M -> f i < M) -> (∀ i j, i < M -> j < M -> f i = f j -> i = j) -> ∀ v, v < M -> ∃ i, i < M /\ f i = v
  | 0, _, _, _, v, hv => absurd hv (Nat.not_lt_zero _)
  | M + 1, f, hf, hinj, v, hv => by
    have hg : ∀ i, i < M -> (if f i = M then f M else f i) < M := by
      intro i hi
      split
      . rename_i e
        have h1 := hf M (by omega)
        have h2 : f M ≠ M := fun e2 => by
          have := hinj i M (by omega) (by omega) (e.trans e2.symm)
          omega
        omega
      . have := hf i (by omega)
        omega
    have hginj : ∀ i j, i < M -> j < M -> (if f i = M then f M else f i) = (if f j = M then f M else f j) -> i = j := by
      intro i j hi hj e
      split at e <;> split at e
      . rename_i e1 e2
        exact hinj i j (by omega) (by omega) (e1.trans e2.symm)
      . have := hinj M j (by omega) (by omega) e
        omega
      . have := hinj i M (by omega) (by omega) e
        omega
      . exact hinj i j (by omega) (by omega) e
    have ih := onto M (fun i => if f i = M then f M else f i) hg hginj
    by_cases hM : f M = v
    . exact ⟨M, by omega, hM⟩
    . by_cases hv2 : v = M
      . subst hv2
        have hfm : f v < v := by have := hf v (by omega); omega
        obtain ⟨i, hi, e⟩ := ih (f v) hfm
        split at e
        . rename_i e1
          exact ⟨i, by omega, e1⟩
        . have := hinj i v (by omega) (by omega) e
          omega
      . obtain ⟨i, hi, e⟩ := ih v (by omega)
        split at e
        . exact absurd e hM
        . exact ⟨i, by omega, e⟩
def om (a b : Nat × Nat) : Nat := (pc (a.1 &&& b.2) + pc (a.2 &&& b.1)) % 2
def xo (a b : Nat × Nat) : Nat × Nat := (a.1 ^^^ b.1, a.2 ^^^ b.2)
def bp (p : P) : Nat × Nat := (p.x, p.z)
theorem and_xor_r (a b c : Nat) : (a ^^^ b) &&& c = (a &&& c) ^^^ (b &&& c) := by
  apply bt_ext
  intro q
  rw [bt_and, bt_xor, bt_xor, bt_and, bt_and]
  have h1 := bt_lt a q
  have h2 := bt_lt b q
  have h3 := bt_lt c q
  have : (bt a q = 0 ∨ bt a q = 1) /\ (bt b q = 0 ∨ bt b q = 1) /\ (bt c q = 0 ∨ bt c q = 1) := by omega
  obtain ⟨e1 | e1, e2 | e2, e3 | e3⟩ := this <;> rw [e1, e2, e3]
theorem om_xo (a b c : Nat × Nat) : om (xo a b) c = (om a c + om b c) % 2 := by
  unfold om xo
  simp only
  rw [and_xor_r, and_xor_r]
  have h1 := pc_xor (a.1 &&& c.2) (b.1 &&& c.2)
  have h2 := pc_xor (a.2 &&& c.1) (b.2 &&& c.1)
  omega
theorem om_zero (c : Nat × Nat) : om (0, 0) c = 0 := by
  unfold om
  simp [pc_zero]
theorem om_comm (a b : Nat × Nat) : om a b = om b a := by
  unfold om
  rw [Nat.and_comm a.1, Nat.and_comm a.2, Nat.add_comm]
theorem om_lt (a b : Nat × Nat) : om a b < 2 := Nat.mod_lt _ (by decide)
theorem com_om (a b : P) : comB a b = decide (om (bp a) (bp b) = 0) := rfl
def vs (rows : Nat -> Nat × Nat) (c : Nat) : Nat -> Nat × Nat
  | 0 => (0, 0)
  | k + 1 => if bt c k = 1 then xo (vs rows c k) (rows k) else vs rows c k
theorem vs_om (rows : Nat -> Nat × Nat) (c : Nat) (v : Nat × Nat) : ∀ k, om (vs rows c k) v = sm k (fun i => bt c i * om (rows i) v) % 2
  | 0 => by rw [vs, om_zero]; rfl
  | k + 1 => by
    have ih := vs_om rows c v k
    have h1 := bt_lt c k
    have h2 := om_lt (rows k) v
    rw [vs, sm]
    split
    . rename_i e
      rw [om_xo, ih, e]
      omega
    . rename_i e
      have e0 : bt c k = 0 := by omega
      rw [ih, e0]
      simp
theorem sm_one {f : Nat -> Nat} (n k : Nat) (hk : k < n) (h : ∀ i, i < n -> i ≠ k -> f i = 0) : sm n f = f k := by
  induction n with
  | zero => omega
  | succ n ih =>
    rw [sm]
    by_cases e : k = n
    . subst e
      rw [sm_zero k (fun i hi => h i (by omega) (by omega))]
      omega
    . rw [ih (by omega) (fun i hi hne => h i (by omega) hne), h n (by omega) (fun e' => e e'.symm)]
      omega
theorem bt_le_ext {x y n : Nat} (hx : x < 2 ^ n) (hy : y < 2 ^ n) (h : ∀ q, q < n -> bt x q = bt y q) : x = y := by
  apply bt_ext
  intro q
  by_cases hq : q < n
  . exact h q hq
  . rw [bt_small hx (by omega), bt_small hy (by omega)]
theorem bt_zero (q : Nat) : bt 0 q = 0 := by unfold bt; simp
structure Sy (N : Nat) (s d : Nat -> Nat × Nat) : Prop where
  sl : ∀ i, i < N -> (s i).1 < 2 ^ N /\ (s i).2 < 2 ^ N
  dl : ∀ i, i < N -> (d i).1 < 2 ^ N /\ (d i).2 < 2 ^ N
  ss : ∀ i j, i < N -> j < N -> om (s i) (s j) = 0
  dd : ∀ i j, i < N -> j < N -> om (d i) (d j) = 0
  ds : ∀ i j, i < N -> j < N -> om (d i) (s j) = if i = j then 1 else 0
theorem vs_lt {N : Nat} {rows : Nat -> Nat × Nat} (h : ∀ i, i < N -> (rows i).1 < 2 ^ N /\ (rows i).2 < 2 ^ N) (c : Nat) : ∀ k, k <= N -> (vs rows c k).1 < 2 ^ N /\ (vs rows c k).2 < 2 ^ N
  | 0, _ => ⟨Nat.two_pow_pos N, Nat.two_pow_pos N⟩
  | k + 1, hk => by
    have ih := vs_lt h c k (by omega)
    have hr := h k (by omega)
    rw [vs]
    split
    . exact ⟨Nat.xor_lt_two_pow ih.1 hr.1, Nat.xor_lt_two_pow ih.2 hr.2⟩
    . exact ih
theorem Sy.zero {N : Nat} {s d : Nat -> Nat × Nat} (h : Sy N s d) (v : Nat × Nat) (hv : v.1 < 2 ^ N /\ v.2 < 2 ^ N) (h1 : ∀ i, i < N -> om v (s i) = 0) (h2 : ∀ i, i < N -> om v (d i) = 0) : v = (0, 0) := by
  have hp := Nat.two_pow_pos N
  -- the sum that two numbers tell
  let F : Nat -> Nat × Nat := fun c => xo (vs s (c % 2 ^ N) N) (vs d (c / 2 ^ N) N)
  have hF : ∀ c, (F c).1 < 2 ^ N /\ (F c).2 < 2 ^ N := fun c => by
    have a := vs_lt h.sl (c % 2 ^ N) N (Nat.le_refl _)
    have b := vs_lt h.dl (c / 2 ^ N) N (Nat.le_refl _)
    exact ⟨Nat.xor_lt_two_pow a.1 b.1, Nat.xor_lt_two_pow a.2 b.2⟩
  have hd : ∀ c i, i < N -> om (F c) (d i) = bt (c % 2 ^ N) i := fun c i hi => by
    show om (xo _ _) _ = _
    rw [om_xo, vs_om, vs_om, sm_one N i hi (fun j hj hne => by rw [om_comm, h.ds i j hi hj, if_neg (fun e => hne e.symm)]; rfl), sm_zero N (fun j hj => by rw [h.dd j i hj hi]; rfl), om_comm, h.ds i i hi hi, if_pos rfl]
    have := bt_lt (c % 2 ^ N) i
    omega
  have hs : ∀ c i, i < N -> om (F c) (s i) = bt (c / 2 ^ N) i := fun c i hi => by
    show om (xo _ _) _ = _
    rw [om_xo, vs_om, vs_om, sm_zero N (fun j hj => by rw [h.ss j i hj hi]; rfl), sm_one N i hi (fun j hj hne => by rw [h.ds j i hj hi, if_neg hne]; rfl), h.ds i i hi hi, if_pos rfl]
    have := bt_lt (c / 2 ^ N) i
    omega
  have hM : (2 ^ N * 2 ^ N : Nat) = 2 ^ N * 2 ^ N := rfl
  have hdiv : ∀ c, c < 2 ^ N * 2 ^ N -> c / 2 ^ N < 2 ^ N := fun c hc => Nat.div_lt_of_lt_mul hc
  obtain ⟨c, hc, e⟩ := onto (2 ^ N * 2 ^ N) (fun c => (F c).1 + 2 ^ N * (F c).2) (fun c hc => by
      have := hF c
      calc (F c).1 + 2 ^ N * (F c).2 < 2 ^ N + 2 ^ N * (F c).2 := by omega
        _ = 2 ^ N * ((F c).2 + 1) := by rw [Nat.mul_add]; omega
        _ <= 2 ^ N * 2 ^ N := Nat.mul_le_mul_left _ this.2)
    (fun a b ha hb e => by
      have fa := hF a
      have fb := hF b
      have e1 : (F a).1 = (F b).1 := by
        have := congrArg (· % 2 ^ N) e
        simp only [Nat.add_mul_mod_self_left, Nat.mod_eq_of_lt fa.1, Nat.mod_eq_of_lt fb.1] at this
        exact this
      have e2 : (F a).2 = (F b).2 := by
        have := congrArg (· / 2 ^ N) e
        simp only [Nat.add_mul_div_left _ _ hp, Nat.div_eq_of_lt fa.1, Nat.div_eq_of_lt fb.1, Nat.zero_add] at this
        exact this
      have eF : F a = F b := Prod.ext e1 e2
      have m1 : a % 2 ^ N = b % 2 ^ N := bt_le_ext (Nat.mod_lt _ hp) (Nat.mod_lt _ hp) (fun q hq => by rw [← hd a q hq, ← hd b q hq, eF])
      have m2 : a / 2 ^ N = b / 2 ^ N := bt_le_ext (hdiv a ha) (hdiv b hb) (fun q hq => by rw [← hs a q hq, ← hs b q hq, eF])
      rw [← Nat.mod_add_div a (2 ^ N), ← Nat.mod_add_div b (2 ^ N), m1, m2])
    (v.1 + 2 ^ N * v.2) (by
      calc v.1 + 2 ^ N * v.2 < 2 ^ N + 2 ^ N * v.2 := by omega
        _ = 2 ^ N * (v.2 + 1) := by rw [Nat.mul_add]; omega
        _ <= 2 ^ N * 2 ^ N := Nat.mul_le_mul_left _ hv.2)
  have fc := hF c
  have e1 : (F c).1 = v.1 := by
    have := congrArg (· % 2 ^ N) e
    simp only [Nat.add_mul_mod_self_left, Nat.mod_eq_of_lt fc.1, Nat.mod_eq_of_lt hv.1] at this
    exact this
  have e2 : (F c).2 = v.2 := by
    have := congrArg (· / 2 ^ N) e
    simp only [Nat.add_mul_div_left _ _ hp, Nat.div_eq_of_lt fc.1, Nat.div_eq_of_lt hv.1, Nat.zero_add] at this
    exact this
  have eF : F c = v := Prod.ext e1 e2
  have m1 : c % 2 ^ N = 0 := bt_le_ext (Nat.mod_lt _ hp) hp (fun q hq => by rw [← hd c q hq, eF, h2 q hq, bt_zero])
  have m2 : c / 2 ^ N = 0 := bt_le_ext (hdiv c hc) hp (fun q hq => by rw [← hs c q hq, eF, h1 q hq, bt_zero])
  have hz : ∀ (rows : Nat -> Nat × Nat) k, vs rows 0 k = (0, 0) := fun rows k => by
    induction k with
    | zero => rfl
    | succ k ih => rw [vs, bt_zero, if_neg (by decide), ih]
  rw [← eF]
  show xo (vs s (c % 2 ^ N) N) (vs d (c / 2 ^ N) N) = _
  rw [m1, m2, hz, hz]
  rfl
theorem com_one {a b : P} : comB a b = false ↔ om (bp a) (bp b) = 1 := by
  rw [com_om]
  have := om_lt (bp a) (bp b)
  constructor
  . intro h; have := of_decide_eq_false h; omega
  . intro h; exact decide_eq_false (by omega)
theorem com_zero {a b : P} : comB a b = true ↔ om (bp a) (bp b) = 0 := by
  rw [com_om]
  exact decide_eq_true_iff
theorem rr_bp {N : Nat} {p : P} (h : Rr N p) : (bp p).1 < 2 ^ N /\ (bp p).2 < 2 ^ N := by
  obtain ⟨-, -, c, d, -⟩ := rt_iff.1 h.1
  rw [h.2, Int.toNat_natCast] at c d
  exact ⟨c, d⟩
theorem ch_sy {t : TT} {N : Nat} (hc : chB t = true) (hN : t.n = (N : Int)) : Sy N (fun i => bp (t.s.getD i oP)) (fun i => bp (t.d.getD i oP)) := by
  obtain ⟨hz, hs, hp⟩ := ch_iff.1 hc
  rw [hN, Int.toNat_natCast] at hs hp
  have hr := fun i (hi : i < N) => sg_rr hN (hs i hi)
  have hq : ∀ i j, i < N -> j < N -> comB (t.s.getD i oP) (t.s.getD j oP) = true /\ comB (t.d.getD i oP) (t.d.getD j oP) = true /\ comB (t.d.getD i oP) (t.s.getD j oP) = decide (i ≠ j) := fun i j hi hj => by
    have := hp i hi j hj
    rw [pr_same hN (hs i hi) (hs j hj)] at this
    unfold prB' at this
    rw [Bool.and_eq_true, Bool.and_eq_true, beq_iff_eq] at this
    exact ⟨this.1.1, this.1.2, this.2⟩
  refine ⟨fun i hi => rr_bp (hr i hi).1, fun i hi => rr_bp (hr i hi).2, fun i j hi hj => com_zero.1 (hq i j hi hj).1, fun i j hi hj => com_zero.1 (hq i j hi hj).2.1, fun i j hi hj => ?_⟩
  have h3 := (hq i j hi hj).2.2
  by_cases e : i = j
  . rw [if_pos e]
    refine com_one.1 ?_
    rw [h3]
    exact decide_eq_false (fun h => h e)
  . rw [if_neg e]
    refine com_zero.1 ?_
    rw [h3]
    exact decide_eq_true e
theorem rr_id {N : Nat} (h : N <= 64) : Rr N ⟨(N : Int), 0, 0, 0⟩ := by
  refine ⟨rt_iff.2 ⟨by show (0 : Int) <= (N : Int); omega, by show (N : Int) <= 64; omega, Nat.two_pow_pos _, Nat.two_pow_pos _, by show (0 : Int) <= 0; decide, by show (0 : Int) <= 3; decide⟩, rfl⟩
theorem al_rr {t : TT} {N : Nat} (hc : chB t = true) (hN : t.n = (N : Int)) (p : P) : ∀ k, k <= N -> Rr N (alP t p k)
  | 0, _ => by
    have := (sz_of (ch_size hc)).2.1
    rw [alP, hN]
    exact rr_id (by omega)
  | k + 1, hk => by
    have ih := al_rr hc hN p k (by omega)
    have hr := sg_rr hN ((ch_iff.1 hc).2.1 k (by rw [hN]; omega))
    rw [alP]
    split
    . exact ih
    . exact (ih.pd hr.1).2
theorem al_om {t : TT} {N : Nat} (hc : chB t = true) (hN : t.n = (N : Int)) {p : P} (hp : Rr N p) : ∀ k, k <= N -> (∀ j, j < N -> om (bp (alP t p k)) (bp (t.s.getD j oP)) = 0) /\ (∀ j, j < N -> om (bp (alP t p k)) (bp (t.d.getD j oP)) = if j < k then om (bp (t.d.getD j oP)) (bp p) else 0)
  | 0, _ => by
    have hz : bp (alP t p 0) = (0, 0) := rfl
    rw [hz]
    exact ⟨fun j _ => om_zero _, fun j _ => by rw [om_zero, if_neg (Nat.not_lt_zero _)]⟩
  | k + 1, hk => by
    obtain ⟨h1, h2⟩ := al_om hc hN hp k (by omega)
    have sy := ch_sy hc hN
    have ra := al_rr hc hN p k (by omega)
    have hr := sg_rr hN ((ch_iff.1 hc).2.1 k (by rw [hN]; omega))
    have hcm := cm_eq hr.2 hp
    rw [alP, hcm]
    cases hb : comB (t.d.getD k oP) p with
    | true =>
      rw [if_pos rfl]
      refine ⟨h1, fun j hj => ?_⟩
      rw [h2 j hj]
      by_cases e : j < k
      . rw [if_pos e, if_pos (by omega)]
      . rw [if_neg e]
        by_cases e2 : j = k
        . subst e2; rw [if_pos (by omega), com_zero.1 hb]
        . rw [if_neg (by omega)]
    | false =>
      rw [if_neg (by decide), (ra.pd hr.1).1]
      have e : bp (mulP (alP t p k) (t.s.getD k oP)) = xo (bp (alP t p k)) (bp (t.s.getD k oP)) := rfl
      rw [e]
      refine ⟨fun j hj => ?_, fun j hj => ?_⟩
      . have := sy.ss k j (by omega) hj
        rw [om_xo, h1 j hj, this]
      . have hds := sy.ds j k hj (by omega)
        rw [om_comm] at hds
        rw [om_xo, h2 j hj]
        have hd2 : om (bp (t.s.getD k oP)) (bp (t.d.getD j oP)) = if j = k then 1 else 0 := hds
        rw [hd2]
        have hl := om_lt (bp (t.d.getD j oP)) (bp p)
        by_cases e1 : j < k
        . rw [if_pos e1, if_neg (by omega), if_pos (by omega)]; omega
        . rw [if_neg e1]
          by_cases e2 : j = k
          . subst e2; rw [if_pos rfl, if_pos (by omega), com_one.1 hb]
          . rw [if_neg e2, if_neg (by omega)]
theorem xor_zero_eq {a b : Nat} (h : a ^^^ b = 0) : a = b := by
  apply bt_ext
  intro q
  have := bt_xor a b q
  rw [h, bt_zero] at this
  have h1 := bt_lt a q
  have h2 := bt_lt b q
  omega
theorem al_bits {t : TT} {N : Nat} (hc : chB t = true) (hN : t.n = (N : Int)) {p : P} (hp : Rr N p) (hcom : ∀ j, j < N -> comB (t.s.getD j oP) p = true) : (alP t p N).n = p.n /\ (alP t p N).x = p.x /\ (alP t p N).z = p.z := by
  obtain ⟨h1, h2⟩ := al_om hc hN hp N (Nat.le_refl _)
  have ra := al_rr hc hN p N (Nat.le_refl _)
  have ba := rr_bp ra
  have bb := rr_bp hp
  have hz := (ch_sy hc hN).zero (xo (bp (alP t p N)) (bp p)) ⟨Nat.xor_lt_two_pow ba.1 bb.1, Nat.xor_lt_two_pow ba.2 bb.2⟩
    (fun j hj => by
      have := com_zero.1 (hcom j hj)
      rw [om_comm] at this
      show om (xo _ _) _ = 0
      rw [om_xo, h1 j hj, this])
    (fun j hj => by
      show om (xo _ _) _ = 0
      rw [om_xo, h2 j hj, if_pos hj, om_comm (bp p)]
      omega)
  have hx : (alP t p N).x ^^^ p.x = 0 := congrArg Prod.fst hz
  have hzz : (alP t p N).z ^^^ p.z = 0 := congrArg Prod.snd hz
  exact ⟨ra.2.trans hp.2.symm, xor_zero_eq hx, xor_zero_eq hzz⟩
theorem ls_com {t : TT} {N : Nat} (hc : chB t = true) (hN : t.n = (N : Int)) {p : P} (hp : Rr N p) (hl : lsB t p = false) : ∀ j, j < N -> comB (t.s.getD j oP) p = true := fun j hj => by
  obtain ⟨-, -, hls, -⟩ := sz_of (ch_size hc)
  have hr := sg_rr hN ((ch_iff.1 hc).2.1 j (by rw [hN]; omega))
  have hm : t.s.getD j oP ∈ t.s := List.mem_of_getElem? (get_of (by omega))
  have := List.any_eq_false.1 hl _ hm
  rw [cm_eq hr.1 hp] at this
  simpa using this
theorem al_sign {t : TT} {N : Nat} (hc : chB t = true) (hN : t.n = (N : Int)) {p : P} (hp : Rr N p) (hl : lsB t p = false) : decide (alP t p N = p) = decide ((alP t p N).ph = p.ph) := by
  obtain ⟨e1, e2, e3⟩ := al_bits hc hN hp (ls_com hc hN hp hl)
  apply decide_eq_decide.2
  constructor
  . intro e; rw [e]
  . intro e; exact P.ext' e1 e2 e3 e
end Go.Proofs.YtoickolhekhgmaaGreatDoor.Tbl
