import Derived.Test.YtpehekonjdneaaaGreatDoorK8fb91e34
set_option maxRecDepth 100000
set_option maxHeartbeats 8000000
namespace Go.Proofs.YtpehekonjdneaaaGreatDoor.Tbl
open Go.RowKit Go.Shelf Go.Proofs.YtpehekonjdneaaaGreatDoor.Pau Go.Proofs.YtpehekonjdneaaaGreatDoor.Gt
theorem onto : ∀ (M : Nat) (f : Nat -> Nat), (∀ i, i < M -> f i < M) -> (∀ i j, i < M -> j < M -> f i = f j -> i = j) -> ∀ v, v < M -> ∃ i, i < M /\ f i = v
  | 0, _, _, _, v, hv => absurd hv (Nat.not_lt_zero _)
  | M + 1, f, hf, hinj, v, hv => by
    have hg : ∀ i, i < M -> (if f i = M then f M else f i) < M := by
      intro i hi
      split
      . rename_i e
        have h1 := hf M (by omega)
        have h2 : f M ≠ M := fun e2 => by
          have := hinj i M (by omega) (by omega) (e.trans e2.symm)
          omega
        omega
      . have := hf i (by omega)
        omega
    have hginj : ∀ i j, i < M -> j < M -> (if f i = M then f M else f i) = (if f j = M then f M else f j) -> i = j := by
      intro i j hi hj e
      split at e <;> split at e
      . rename_i e1 e2
        exact hinj i j (by omega) (by omega) (e1.trans e2.symm)
      . have := hinj M j (by omega) (by omega) e
        omega
      . have := hinj i M (by omega) (by omega) e
        omega
      . exact hinj i j (by omega) (by omega) e
    have ih := onto M (fun i => if f i = M then f M else f i) hg hginj
    by_cases hM : f M = v
    . exact ⟨M, by omega, hM⟩
    . by_cases hv2 : v = M
      . subst hv2
        have hfm : f v < v := by have := hf v (by omega); omega
        obtain ⟨i, hi, e⟩ := ih (f v) hfm
        split at e
        . rename_i e1
          exact ⟨i, by omega, e1⟩
        . have := hinj i v (by omega) (by omega) e
          omega
      . obtain ⟨i, hi, e⟩ := ih v (by omega)
        split at e
        . exact absurd e hM
        . exact ⟨i, by omega, e⟩
def om (a b : Nat × Nat) : Nat := (pc (a.1 &&& b.2) + pc (a.2 &&& b.1)) % 2
def xo (a b : Nat × Nat) : Nat × Nat := (a.1 ^^^ b.1, a.2 ^^^ b.2)
def bp (p : P) : Nat × Nat := (p.x, p.z)
theorem and_xor_r (a b c : Nat) : (a ^^^ b) &&& c = (a &&& c) ^^^ (b &&& c) := by
  apply bt_ext
  intro q
  rw [bt_and, bt_xor, bt_xor, bt_and, bt_and]
  have h1 := bt_lt a q
  have h2 := bt_lt b q
  have h3 := bt_lt c q
  have : (bt a q = 0 ∨ bt a q = 1) /\ (bt b q = 0 ∨ bt b q = 1) /\ (bt c q = 0 ∨ bt c q = 1) := by omega
  obtain ⟨e1 | e1, e2 | e2, e3 | e3⟩ := this <;> rw [e1, e2, e3]
theorem om_xo (a b c : Nat × Nat) : om (xo a b) c = (om a c + om b c) % 2 := by
  unfold om xo
  simp only
  rw [and_xor_r, and_xor_r]
  have h1 := pc_xor (a.1 &&& c.2) (b.1 &&& c.2)
  have h2 := pc_xor (a.2 &&& c.1) (b.2 &&& c.1)
  omega
theorem om_zero (c : Nat × Nat) : om (0, 0) c = 0 := by
  unfold om
  simp [pc_zero]
theorem om_comm (a b : Nat × Nat) : om a b = om b a := by
  unfold om
  rw [Nat.and_comm a.1, Nat.and_comm a.2, Nat.add_comm]
theorem om_self (a : Nat × Nat) : om a a = 0 := by
  unfold om
  rw [Nat.and_comm a.2]
  omega
theorem om_lt (a b : Nat × Nat) : om a b < 2 := Nat.mod_lt _ (by decide)
theorem com_om (a b : P) : comB a b = decide (om (bp a) (bp b) = 0) := rfl
def vs (rows : Nat -> Nat × Nat) (c : Nat) : Nat -> Nat × Nat
  | 0 => (0, 0)
  | k + 1 => if bt c k = 1 then xo (vs rows c k) (rows k) else vs rows c k
theorem vs_om (rows : Nat -> Nat × Nat) (c : Nat) (v : Nat × Nat) : ∀ k, om (vs rows c k) v = sm k (fun i => bt c i * om (rows i) v) % 2
  | 0 => by rw [vs, om_zero]; rfl
  | k + 1 => by
    have ih := vs_om rows c v k
    have h1 := bt_lt c k
    have h2 := om_lt (rows k) v
    rw [vs, sm]
    split
    . rename_i e
      rw [om_xo, ih, e]
      omega
    . rename_i e
      have e0 : bt c k = 0 := by omega
      rw [ih, e0]
      simp
theorem sm_one {f : Nat -> Nat} (n k : Nat) (hk : k < n) (h : ∀ i, i < n -> i ≠ k -> f i = 0) : sm n f = f k := by
  induction n with
  | zero => omega
  | succ n ih =>
    rw [sm]
    by_cases e : k = n
    . subst e
      rw [sm_zero k (fun i hi => h i (by omega) (by omega))]
      omega
    . rw [ih (by omega) (fun i hi hne => h i (by omega) hne), h n (by omega) (fun e' => e e'.symm)]
      omega
theorem bt_le_ext {x y n : Nat} (hx : x < 2 ^ n) (hy : y < 2 ^ n) (h : ∀ q, q < n -> bt x q = bt y q) : x = y := by
  apply bt_ext
  intro q
  by_cases hq : q < n
  . exact h q hq
  . rw [bt_small hx (by omega), bt_small hy (by omega)]
theorem bt_zero (q : Nat) : bt 0 q = 0 := by unfold bt; simp
structure Sy (N : Nat) (s d : Nat -> Nat × Nat) : Prop where
  sl : ∀ i, i < N -> (s i).1 < 2 ^ N /\ (s i).2 < 2 ^ N
  dl : ∀ i, i < N -> (d i).1 < 2 ^ N /\ (d i).2 < 2 ^ N
  ss : ∀ i j, i < N -> j < N -> om (s i) (s j) = 0
  dd : ∀ i j, i < N -> j < N -> om (d i) (d j) = 0
  ds : ∀ i j, i < N -> j < N -> om (d i) (s j) = if i = j then 1 else 0
theorem vs_lt {N : Nat} {rows : Nat -> Nat × Nat} (h : ∀ i, i < N -> (rows i).1 < 2 ^ N /\ (rows i).2 < 2 ^ N) (c : Nat) : ∀ k, k <= N -> (vs rows c k).1 < 2 ^ N /\ (vs rows c k).2 < 2 ^ N
  | 0, _ => ⟨Nat.two_pow_pos N, Nat.two_pow_pos N⟩
  | k + 1, hk => by
    have ih := vs_lt h c k (by omega)
    have hr := h k (by omega)
    rw [vs]
    split
    . exact ⟨Nat.xor_lt_two_pow ih.1 hr.1, Nat.xor_lt_two_pow ih.2 hr.2⟩
    . exact ih
theorem Sy.zero {N : Nat} {s d : Nat -> Nat × Nat} (h : Sy N s d) (v : Nat × Nat) (hv : v.1 < 2 ^ N /\ v.2 < 2 ^ N) (h1 : ∀ i, i < N -> om v (s i) = 0) (h2 : ∀ i, i < N -> om v (d i) = 0) : v = (0, 0) := by
  have hp := Nat.two_pow_pos N
  -- the sum that two numbers tell
  let F : Nat -> Nat × Nat := fun c => xo (vs s (c % 2 ^ N) N) (vs d (c / 2 ^ N) N)
  have hF : ∀ c, (F c).1 < 2 ^ N /\ (F c).2 < 2 ^ N := fun c => by
    have a := vs_lt h.sl (c % 2 ^ N) N (Nat.le_refl _)
    have b := vs_lt h.dl (c / 2 ^ N) N (Nat.le_refl _)
    exact ⟨Nat.xor_lt_two_pow a.1 b.1, Nat.xor_lt_two_pow a.2 b.2⟩
  have hd : ∀ c i, i < N -> om (F c) (d i) = bt (c % 2 ^ N) i := fun c i hi => by
    show om (xo _ _) _ = _
    rw [om_xo, vs_om, vs_om, sm_one N i hi (fun j hj hne => by rw [om_comm, h.ds i j hi hj, if_neg (fun e => hne e.symm)]; rfl), sm_zero N (fun j hj => by rw [h.dd j i hj hi]; rfl), om_comm, h.ds i i hi hi, if_pos rfl]
    have := bt_lt (c % 2 ^ N) i
    omega
  have hs : ∀ c i, i < N -> om (F c) (s i) = bt (c / 2 ^ N) i := fun c i hi => by
    show om (xo _ _) _ = _
    rw [om_xo, vs_om, vs_om, sm_zero N (fun j hj => by rw [h.ss j i hj hi]; rfl), sm_one N i hi (fun j hj hne => by rw [h.ds j i hj hi, if_neg hne]; rfl), h.ds i i hi hi, if_pos rfl]
    have := bt_lt (c / 2 ^ N) i
    omega
  have hM : (2 ^ N * 2 ^ N : Nat) = 2 ^ N * 2 ^ N := rfl
  have hdiv : ∀ c, c < 2 ^ N * 2 ^ N -> c / 2 ^ N < 2 ^ N := fun c hc => Nat.div_lt_of_lt_mul hc
  obtain ⟨c, hc, e⟩ := onto (2 ^ N * 2 ^ N) (fun c => (F c).1 + 2 ^ N * (F c).2) (fun c hc => by
      have := hF c
      calc (F c).1 + 2 ^ N * (F c).2 < 2 ^ N + 2 ^ N * (F c).2 := by omega
        _ = 2 ^ N * ((F c).2 + 1) := by rw [Nat.mul_add]; omega
        _ <= 2 ^ N * 2 ^ N := Nat.mul_le_mul_left _ this.2)
    (fun a b ha hb e => by
      have fa := hF a
      have fb := hF b
      have e1 : (F a).1 = (F b).1 := by
        have := congrArg (· % 2 ^ N) e
        simp only [Nat.add_mul_mod_self_left, Nat.mod_eq_of_lt fa.1, Nat.mod_eq_of_lt fb.1] at this
        exact this
      have e2 : (F a).2 = (F b).2 := by
        have := congrArg (· / 2 ^ N) e
        simp only [Nat.add_mul_div_left _ _ hp, Nat.div_eq_of_lt fa.1, Nat.div_eq_of_lt fb.1, Nat.zero_add] at this
        exact this
      have eF : F a = F b := Prod.ext e1 e2
      have m1 : a % 2 ^ N = b % 2 ^ N := bt_le_ext (Nat.mod_lt _ hp) (Nat.mod_lt _ hp) (fun q hq => by rw [← hd a q hq, ← hd b q hq, eF])
      have m2 : a / 2 ^ N = b / 2 ^ N := bt_le_ext (hdiv a ha) (hdiv b hb) (fun q hq => by rw [← hs a q hq, ← hs b q hq, eF])
      rw [← Nat.mod_add_div a (2 ^ N), ← Nat.mod_add_div b (2 ^ N), m1, m2])
    (v.1 + 2 ^ N * v.2) (by
      calc v.1 + 2 ^ N * v.2 < 2 ^ N + 2 ^ N * v.2 := by omega
        _ = 2 ^ N * (v.2 + 1) := by rw [Nat.mul_add]; omega
        _ <= 2 ^ N * 2 ^ N := Nat.mul_le_mul_left _ hv.2)
  have fc := hF c
  have e1 : (F c).1 = v.1 := by
    have := congrArg (· % 2 ^ N) e
    simp only [Nat.add_mul_mod_self_left, Nat.mod_eq_of_lt fc.1, Nat.mod_eq_of_lt hv.1] at this
    exact this
  have e2 : (F c).2 = v.2 := by
    have := congrArg (· / 2 ^ N) e
    simp only [Nat.add_mul_div_left _ _ hp, Nat.div_eq_of_lt fc.1, Nat.div_eq_of_lt hv.1, Nat.zero_add] at this
    exact this
  have eF : F c = v := Prod.ext e1 e2
  have m1 : c % 2 ^ N = 0 := bt_le_ext (Nat.mod_lt _ hp) hp (fun q hq => by rw [← hd c q hq, eF, h2 q hq, bt_zero])
  have m2 : c / 2 ^ N = 0 := bt_le_ext (hdiv c hc) hp (fun q hq => by rw [← hs c q hq, eF, h1 q hq, bt_zero])
  have hz : ∀ (rows : Nat -> Nat × Nat) k, vs rows 0 k = (0, 0) := fun rows k => by
    induction k with
    | zero => rfl
    | succ k ih => rw [vs, bt_zero, if_neg (by decide), ih]
  rw [← eF]
  show xo (vs s (c % 2 ^ N) N) (vs d (c / 2 ^ N) N) = _
  rw [m1, m2, hz, hz]
  rfl
theorem com_one {a b : P} : comB a b = false ↔ om (bp a) (bp b) = 1 := by
  rw [com_om]
  have := om_lt (bp a) (bp b)
  constructor
  . intro h; have := of_decide_eq_false h; omega
  . intro h; exact decide_eq_false (by omega)
theorem com_zero {a b : P} : comB a b = true ↔ om (bp a) (bp b) = 0 := by
  rw [com_om]
  exact decide_eq_true_iff
theorem rr_bp {N : Nat} {p : P} (h : Rr N p) : (bp p).1 < 2 ^ N /\ (bp p).2 < 2 ^ N := by
  obtain ⟨-, -, c, d, -⟩ := rt_iff.1 h.1
  rw [h.2, Int.toNat_natCast] at c d
  exact ⟨c, d⟩
theorem ch_sy {t : TT} {N : Nat} (hc : chB t = true) (hN : t.n = (N : Int)) : Sy N (fun i => bp (t.s.getD i oP)) (fun i => bp (t.d.getD i oP)) := by
  obtain ⟨hz, hs, hp⟩ := ch_iff.1 hc
  rw [hN, Int.toNat_natCast] at hs hp
  have hr := fun i (hi : i < N) => sg_rr hN (hs i hi)
  have hq : ∀ i j, i < N -> j < N -> comB (t.s.getD i oP) (t.s.getD j oP) = true /\ comB (t.d.getD i oP) (t.d.getD j oP) = true /\ comB (t.d.getD i oP) (t.s.getD j oP) = decide (i ≠ j) := fun i j hi hj => by
    have := hp i hi j hj
    rw [pr_same hN (hs i hi) (hs j hj)] at this
    unfold prB' at this
    rw [Bool.and_eq_true, Bool.and_eq_true, beq_iff_eq] at this
    exact ⟨this.1.1, this.1.2, this.2⟩
  refine ⟨fun i hi => rr_bp (hr i hi).1, fun i hi => rr_bp (hr i hi).2, fun i j hi hj => com_zero.1 (hq i j hi hj).1, fun i j hi hj => com_zero.1 (hq i j hi hj).2.1, fun i j hi hj => ?_⟩
  have h3 := (hq i j hi hj).2.2
  by_cases e : i = j
  . rw [if_pos e]
    refine com_one.1 ?_
    rw [h3]
    exact decide_eq_false (fun h => h e)
  . rw [if_neg e]
    refine com_zero.1 ?_
    rw [h3]
    exact decide_eq_true e
theorem rr_id {N : Nat} (h : N <= 64) : Rr N ⟨(N : Int), 0, 0, 0⟩ := by
  refine ⟨rt_iff.2 ⟨by show (0 : Int) <= (N : Int); omega, by show (N : Int) <= 64; omega, Nat.two_pow_pos _, Nat.two_pow_pos _, by show (0 : Int) <= 0; decide, by show (0 : Int) <= 3; decide⟩, rfl⟩
theorem al_rr {t : TT} {N : Nat} (hc : chB t = true) (hN : t.n = (N : Int)) (p : P) : ∀ k, k <= N -> Rr N (alP t p k)
  | 0, _ => by
    have := (sz_of (ch_size hc)).2.1
    rw [alP, hN]
    exact rr_id (by omega)
  | k + 1, hk => by
    have ih := al_rr hc hN p k (by omega)
    have hr := sg_rr hN ((ch_iff.1 hc).2.1 k (by rw [hN]; omega))
    rw [alP]
    split
    . exact ih
    . exact (ih.pd hr.1).2
theorem al_om {t : TT} {N : Nat} (hc : chB t = true) (hN : t.n = (N : Int)) {p : P} (hp : Rr N p) : ∀ k, k <= N -> (∀ j, j < N -> om (bp (alP t p k)) (bp (t.s.getD j oP)) = 0) /\ (∀ j, j < N -> om (bp (alP t p k)) (bp (t.d.getD j oP)) = if j < k then om (bp (t.d.getD j oP)) (bp p) else 0)
  | 0, _ => by
    have hz : bp (alP t p 0) = (0, 0) := rfl
    rw [hz]
    exact ⟨fun j _ => om_zero _, fun j _ => by rw [om_zero, if_neg (Nat.not_lt_zero _)]⟩
  | k + 1, hk => by
    obtain ⟨h1, h2⟩ := al_om hc hN hp k (by omega)
    have sy := ch_sy hc hN
    have ra := al_rr hc hN p k (by omega)
    have hr := sg_rr hN ((ch_iff.1 hc).2.1 k (by rw [hN]; omega))
    have hcm := cm_eq hr.2 hp
    rw [alP, hcm]
    cases hb : comB (t.d.getD k oP) p with
    | true =>
      rw [if_pos rfl]
      refine ⟨h1, fun j hj => ?_⟩
      rw [h2 j hj]
      by_cases e : j < k
      . rw [if_pos e, if_pos (by omega)]
      . rw [if_neg e]
        by_cases e2 : j = k
        . subst e2; rw [if_pos (by omega), com_zero.1 hb]
        . rw [if_neg (by omega)]
    | false =>
      rw [if_neg (by decide), (ra.pd hr.1).1]
      have e : bp (mulP (alP t p k) (t.s.getD k oP)) = xo (bp (alP t p k)) (bp (t.s.getD k oP)) := rfl
      rw [e]
      refine ⟨fun j hj => ?_, fun j hj => ?_⟩
      . have := sy.ss k j (by omega) hj
        rw [om_xo, h1 j hj, this]
      . have hds := sy.ds j k hj (by omega)
        rw [om_comm] at hds
        rw [om_xo, h2 j hj]
        have hd2 : om (bp (t.s.getD k oP)) (bp (t.d.getD j oP)) = if j = k then 1 else 0 := hds
        rw [hd2]
        have hl := om_lt (bp (t.d.getD j oP)) (bp p)
        by_cases e1 : j < k
        . rw [if_pos e1, if_neg (by omega), if_pos (by omega)]; omega
        . rw [if_neg e1]
          by_cases e2 : j = k
          . subst e2; rw [if_pos rfl, if_pos (by omega), com_one.1 hb]
          . rw [if_neg e2, if_neg (by omega)]
theorem xor_zero_eq {a b : Nat} (h : a ^^^ b = 0) : a = b := by
  apply bt_ext
  intro q
  have := bt_xor a b q
  rw [h, bt_zero] at this
  have h1 := bt_lt a q
  have h2 := bt_lt b q
  omega
theorem al_bits {t : TT} {N : Nat} (hc : chB t = true) (hN : t.n = (N : Int)) {p : P} (hp : Rr N p) (hcom : ∀ j, j < N -> comB (t.s.getD j oP) p = true) : (alP t p N).n = p.n /\ (alP t p N).x = p.x /\ (alP t p N).z = p.z := by
  obtain ⟨h1, h2⟩ := al_om hc hN hp N (Nat.le_refl _)
  have ra := al_rr hc hN p N (Nat.le_refl _)
  have ba := rr_bp ra
  have bb := rr_bp hp
  have hz := (ch_sy hc hN).zero (xo (bp (alP t p N)) (bp p)) ⟨Nat.xor_lt_two_pow ba.1 bb.1, Nat.xor_lt_two_pow ba.2 bb.2⟩
    (fun j hj => by
      have := com_zero.1 (hcom j hj)
      rw [om_comm] at this
      show om (xo _ _) _ = 0
      rw [om_xo, h1 j hj, this])
    (fun j hj => by
      show om (xo _ _) _ = 0
      rw [om_xo, h2 j hj, if_pos hj, om_comm (bp p)]
      omega)
  have hx : (alP t p N).x ^^^ p.x = 0 := congrArg Prod.fst hz
  have hzz : (alP t p N).z ^^^ p.z = 0 := congrArg Prod.snd hz
  exact ⟨ra.2.trans hp.2.symm, xor_zero_eq hx, xor_zero_eq hzz⟩
theorem ls_com {t : TT} {N : Nat} (hc : chB t = true) (hN : t.n = (N : Int)) {p : P} (hp : Rr N p) (hl : lsB t p = false) : ∀ j, j < N -> comB (t.s.getD j oP) p = true := fun j hj => by
  obtain ⟨-, -, hls, -⟩ := sz_of (ch_size hc)
  have hr := sg_rr hN ((ch_iff.1 hc).2.1 j (by rw [hN]; omega))
  have hm : t.s.getD j oP ∈ t.s := List.mem_of_getElem? (get_of (by omega))
  have := List.any_eq_false.1 hl _ hm
  rw [cm_eq hr.1 hp] at this
  simpa using this
theorem al_sign {t : TT} {N : Nat} (hc : chB t = true) (hN : t.n = (N : Int)) {p : P} (hp : Rr N p) (hl : lsB t p = false) : decide (alP t p N = p) = decide ((alP t p N).ph = p.ph) := by
  obtain ⟨e1, e2, e3⟩ := al_bits hc hN hp (ls_com hc hN hp hl)
  apply decide_eq_decide.2
  constructor
  . intro e; rw [e]
  . intro e; exact P.ext' e1 e2 e3 e
theorem dTimes (a b : P) (ha : Wd a) (hb : Wd b) (w : World) : Calls Tryz.prog 52 #[pV a, pV b] w fun e w' => e = .returned (pV (pdP a b)) /\ Below w.heap.size w w' := by
  have c1 := fun W => dMul a b ha hb W
  unfold pdP
  generalize mulR a b = r at *
  obtain ⟨⟨rn, rx, rz, rp⟩, re⟩ := r
  obtain ⟨n, x, z, ph⟩ := a
  obtain ⟨n', x', z', ph'⟩ := b
  unfold pV at *
  simp only at *
  obtain ⟨-, -, HA2⟩ := At4.three w (.int .i64 n) (.int .u64 (x : Int)) (.int .u64 (z : Int)) (.int .i64 ph) (.int .i64 n') (.int .u64 (x' : Int)) (.int .u64 (z' : Int)) (.int .i64 ph') (.int .i64 0) (.int .u64 0) (.int .u64 0) (.int .i64 0)
  have HAh2 := hide HA2
  have HB := hide (bkp (bkp (bnew w (.cells #[.int .i64 n, .int .u64 (x : Int), .int .u64 (z : Int), .int .i64 ph] 25)) (bnew _ (.cells #[.int .i64 n', .int .u64 (x' : Int), .int .u64 (z' : Int), .int .i64 ph'] 25))) (bnew _ (.cells #[.int .i64 0, .int .u64 0, .int .u64 0, .int .i64 0] 25)))
  clear HA2 ha hb
  go_enter Tryz.func52, Tryz.ntmps52
  go_wp2_with fail
  refine (c1 _).mono ?_
  rintro e w1 ⟨rfl, hb1⟩
  have hbn := bnew w1 (.cells #[.int .i64 rn, .int .u64 (rx : Int), .int .u64 (rz : Int), .int .i64 rp] 25)
  have HB1 := hide (bkp (bkp HB.out hb1) hbn)
  have hR := (HAh2.out.below hb1).below hbn
  clear hb1 HAh2 hbn
  unfold At4 at hR
  go_wp2_with (first
    | (refine wpList_store_row rfl _ _ _ rfl (w.heap.size + 1 + 1) _ rfl rfl _ _ hR (by exact infoP) (by rfl) (allP _ _ _ _) ?_))
  refine bodyPost_ret (results_c rfl _ _ (w.heap.size + 1 + 1) _ _ _ _ rfl (setRow_heap _ _ _ _ _ _ hR) Tryz.underlying25 rfl (by exact infoP)) rfl ?_
  exact ⟨rfl, below_setRow HB1.out (by omega) _⟩
def loI (t : TT) (p : P) : Int := if lsB t p = true then (lsI t p : Int) else -1
theorem lo_at {t : TT} {N : Nat} (hc : chB t = true) (hN : t.n = (N : Int)) {p : P} (hp : Rr N p) {i : Nat} (hi : i < N) (h0 : ∀ j, j < i -> comB (t.s.getD j oP) p = true) (h1 : comB (t.s.getD i oP) p = false) : loI t p = (i : Int) := by
  obtain ⟨-, -, hls, -⟩ := sz_of (ch_size hc)
  rw [hN, Int.toNat_natCast] at hls
  have hr := fun j (hj : j < N) => (sg_rr hN ((ch_iff.1 hc).2.1 j (by rw [hN]; omega))).1
  have hT : ∀ j, j < N -> tnB p (t.s.getD j oP) = !comB (t.s.getD j oP) p := fun j hj => by unfold tnB; rw [cm_eq (hr j hj) hp]
  have hany : lsB t p = true := List.any_eq_true.2 ⟨t.s.getD i oP, List.mem_of_getElem? (get_of (by omega)), by have := hT i hi; unfold tnB at this; rw [this, h1]; rfl⟩
  unfold loI lsI
  rw [if_pos hany]
  congr 1
  rw [List.findIdx_eq (by omega)]
  have hg : ∀ j (hj : j < t.s.length), t.s[j] = t.s.getD j oP := fun j hj => by
    have := get_of hj
    rw [List.getElem?_eq_getElem hj] at this
    exact Option.some.inj this
  refine ⟨by rw [hg, hT i hi, h1]; rfl, fun j hj => ?_⟩
  rw [hg j (by omega), hT j (by omega), h0 j hj]
  rfl
theorem lo_no {t : TT} {N : Nat} (hc : chB t = true) (hN : t.n = (N : Int)) {p : P} (hp : Rr N p) (h0 : ∀ j, j < N -> comB (t.s.getD j oP) p = true) : loI t p = -1 := by
  obtain ⟨-, -, hls, -⟩ := sz_of (ch_size hc)
  rw [hN, Int.toNat_natCast] at hls
  have hr := fun j (hj : j < N) => (sg_rr hN ((ch_iff.1 hc).2.1 j (by rw [hN]; omega))).1
  have hany : lsB t p = false := by
    unfold lsB
    rw [List.any_eq_false]
    intro x hx
    obtain ⟨j, hj⟩ := List.getElem?_of_mem hx
    have hl := (List.getElem?_eq_some_iff.1 hj).1
    have e := get_of hl
    rw [hj] at e
    cases e
    rw [cm_eq (hr j (by omega)) hp, h0 j (by omega)]
    decide
  unfold loI
  rw [hany]
  rfl
theorem dLoose (t : TT) (a b : Option Addr) (ca cb : Nat) (hc : chB t = true) (p : P) (N : Nat) (hN : t.n = (N : Int)) (hp : Rr N p) (w : World) (h : Th w t a b ca cb) :
    Calls Tryz.prog 50 #[tV t a b ca cb, pV p] w fun e w' => e = .returned (.int .i64 (loI t p)) /\ Below w.heap.size w w' := by
  obtain ⟨h0, h64, hls, hld⟩ := sz_of (ch_size hc)
  rw [hN, Int.toNat_natCast] at hls hld
  have hN64 : N <= 64 := by omega
  have HG : Hid (∀ k, k < N -> ∀ W, Below w.heap.size w W -> (∃ gs os, a = some ⟨gs, os, none⟩ /\ gs < W.heap.size /\ Pc W gs (os + k * 4) (t.s.getD k oP))) := hide (fun k hk W hb => (h.s.below hb).at (get_of (by omega)))
  have HCM : Hid (∀ k, k < N -> ∀ W, Calls Tryz.prog 51 #[pV (t.s.getD k oP), pV p] W fun e w' => e = .returned (.bool (comB (t.s.getD k oP) p)) /\ Below W.heap.size W w') := hide (fun k hk W => dCommute14 _ _ (h.ws.getD (by omega)) hp.wd W)
  have HAT : Hid (∀ i, i < N -> (∀ j, j < i -> comB (t.s.getD j oP) p = true) -> comB (t.s.getD i oP) p = false -> loI t p = (i : Int)) := hide (fun i hi h0 h1 => lo_at hc hN hp hi h0 h1)
  have HNO : Hid ((∀ j, j < N -> comB (t.s.getD j oP) p = true) -> loI t p = -1) := hide (fun h0 => lo_no hc hN hp h0)
  obtain ⟨hA, hP⟩ := two34 w (.int .i64 t.n) (.slice a t.s.length ca) (.slice b t.d.length cb) (.int .i64 p.n) (.int .u64 (p.x : Int)) (.int .u64 (p.z : Int)) (.int .i64 p.ph)
  have HB0 := hide (bkp (bnew w (.cells #[.int .i64 t.n, .slice a t.s.length ca, .slice b t.d.length cb] 29)) (bnew _ (.cells #[.int .i64 p.n, .int .u64 (p.x : Int), .int .u64 (p.z : Int), .int .i64 p.ph] 25)))
  have HI0 := hide (And.intro HB0.out (And.intro hA hP))
  unfold tV
  rw [hN, hls, hld] at HI0
  rw [hN, hls, hld]
  generalize loI t p = R at *
  clear h hc h0 h64 hls hld hN hA hP HB0 hp
  obtain ⟨pn, px, pz, pph⟩ := p
  unfold pV at HCM ⊢
  simp only at *
  go_enter Tryz.func50, Tryz.ntmps50
  go_wp2_with fail
  generalize (w.alloc (.cells #[.int .i64 (N : Int), .slice a N ca, .slice b N cb] 29)).alloc (.cells #[.int .i64 pn, .int .u64 (px : Int), .int .u64 (pz : Int), .int .i64 pph] 25) = W0 at *
  go_loopw [5] (fun vi wr => ∃ i : Nat, vi = .int .i64 (i : Int) /\ i <= N /\ Hid (∀ j, j < i -> comB (t.s.getD j oP) ⟨pn, px, pz, pph⟩ = true) /\ Hid (Below w.heap.size w wr /\ At3 wr w.heap.size (.int .i64 (N : Int)) (.slice a N ca) (.slice b N cb) /\ At4 wr (w.heap.size + 1) (.int .i64 pn) (.int .u64 (px : Int)) (.int .u64 (pz : Int)) (.int .i64 pph))) (fun vi _ => N - (Go.RowKit.intOf vi).toNat)
  case atStart => exact ⟨0, rfl, Nat.zero_le _, hide (fun k hk => absurd hk (Nat.not_lt_zero _)), HI0⟩
  case round =>
    obtain ⟨i, rfl, hi, HK, HW⟩ := hrel
    clear HI0
    obtain ⟨q0, q1, q2, q3⟩ := HW.out.2.1.cells
    by_cases hlt : i < N
    . have hd : decide ((i : Int) < (N : Int)) = true := decide_eq_true (by omega)
      obtain ⟨gs, os, rfl, -, -⟩ := HG.out i hlt _ HW.out.1
      have c1 := HCM.out i hlt
      have hat := HAT.out i hlt HK.out
      have HE : Hid (comB (t.s.getD i oP) ⟨pn, px, pz, pph⟩ = true -> ∀ k, k < i + 1 -> comB (t.s.getD k oP) ⟨pn, px, pz, pph⟩ = true) := hide (fun e k hk => by
        by_cases e' : k = i
        . subst e'; exact e
        . exact HK.out k (by omega))
      have HC : Hid (∀ W, Below wr.heap.size wr W -> (W.cell? ⟨w.heap.size, 0, none⟩ = some (.int .i64 (N : Int)) /\ W.cell? ⟨w.heap.size, 1, none⟩ = some (.slice (some ⟨gs, os, none⟩) N ca) /\ W.cell? ⟨w.heap.size, 2, none⟩ = some (.slice b N cb) /\ w.heap.size < W.heap.size) /\ (W.cell? ⟨w.heap.size + 1, 0, none⟩ = some (.int .i64 pn) /\ W.cell? ⟨w.heap.size + 1, 1, none⟩ = some (.int .u64 (px : Int)) /\ W.cell? ⟨w.heap.size + 1, 2, none⟩ = some (.int .u64 (pz : Int)) /\ W.cell? ⟨w.heap.size + 1, 3, none⟩ = some (.int .i64 pph) /\ w.heap.size + 1 < W.heap.size) /\ Pc W gs (os + i * 4) (t.s.getD i oP) /\ gs < W.heap.size) := hide (fun W hb => by
        obtain ⟨gs', os', e1, k1, p1⟩ := HG.out i hlt _ (bkp HW.out.1 hb)
        cases e1
        exact ⟨(HW.out.2.1.below hb).cells, (HW.out.2.2.below hb).cells, p1, k1⟩)
      generalize comB (t.s.getD i oP) ⟨pn, px, pz, pph⟩ = r at *
      generalize t.s.getD i oP = ps at *
      obtain ⟨m1, x1, z1, p1⟩ := ps
      simp only at c1
      clear HK
      cases r
      all_goals (
        go_wp2_with fail
        refine wp_region_quiet_C (C := fun W => Below wr.heap.size wr W) (by kernel_rfl) (by kernel_rfl) (bdrew (Below.refl _ _) 1) ?_
        refine unhideP ?_
        repeat
          refine wpQuiet_stepH (fun K hK => ?_)
          go_simp
          first
            | (refine hK _ ?_; clear hK K)
            | (apply Exists.intro
               refine ⟨fun W hW => ?_, hK _ ?_⟩
               first
                 | ((with_reducible refine Calls.mono (c1 _) ?_); rintro e x ⟨rfl, hb⟩; exact ⟨rfl, bkp hW hb⟩)
                 | (obtain ⟨⟨p0, p1, p2, p3⟩, ⟨a0, a1, a2, a3, a4⟩, ⟨b0, b1, b2, b3⟩, e1⟩ := HC.out W hW; go_simp; rfl)
               clear hK K)
        refine wpQuiet_nilH ?_
        intro W hW
        have HX := hide (And.intro (bkp HW.out.1 hW) (And.intro (HW.out.2.1.below hW) (HW.out.2.2.below hW)))
        clear hW HC HW c1 q0 q1 q2 q3
        go_wp2_with fail)
      . have hR := hat (by trivial)
        subst hR
        go_ret
        exact ⟨rfl, HX.out.1⟩
      . have HE' := hide (HE.out (by trivial))
        go_roundw
        case rel => exact ⟨i + 1, by go_num, by omega, HE', HX⟩
        case measure => simp [Go.RowKit.intOf]; omega
    . obtain rfl : N = i := by omega
      have hR := HNO.out HK.out
      subst hR
      go_wp2_with fail
      go_ret
      exact ⟨rfl, HW.out.1⟩
theorem dSign (t : TT) (a b : Option Addr) (ca cb : Nat) (hc : chB t = true) (p : P) (N : Nat) (hN : t.n = (N : Int)) (hp : Rr N p) (w : World) (h : Th w t a b ca cb) :
    Calls Tryz.prog 58 #[tV t a b ca cb, pV p] w fun e w' => e = .returned (.int .i64 (if decide ((alP t p N).ph = p.ph) = true then 1 else -1)) /\ Below w.heap.size w w' := by
  obtain ⟨h0, h64, hls, hld⟩ := sz_of (ch_size hc)
  rw [hN, Int.toNat_natCast] at hls hld
  have hN64 : N <= 64 := by omega
  have HG : Hid (∀ k, k < N -> ∀ W, Below w.heap.size w W -> (∃ gs os, a = some ⟨gs, os, none⟩ /\ gs < W.heap.size /\ Pc W gs (os + k * 4) (t.s.getD k oP)) /\ (∃ gd od, b = some ⟨gd, od, none⟩ /\ gd < W.heap.size /\ Pc W gd (od + k * 4) (t.d.getD k oP))) := hide (fun k hk W hb => ⟨(h.s.below hb).at (get_of (by omega)), (h.d.below hb).at (get_of (by omega))⟩)
  have HCM : Hid (∀ k, k < N -> ∀ W, Calls Tryz.prog 51 #[pV (t.d.getD k oP), pV p] W fun e w' => e = .returned (.bool (comB (t.d.getD k oP) p)) /\ Below W.heap.size W w') := hide (fun k hk W => dCommute14 _ _ (h.wd.getD (by omega)) hp.wd W)
  have HPR : Hid (∀ k, k < N -> ∀ W, Calls Tryz.prog 52 #[pV (alP t p k), pV (t.s.getD k oP)] W fun e w' => e = .returned (pV (pdP (alP t p k) (t.s.getD k oP))) /\ Below W.heap.size W w') := hide (fun k hk W => dTimes _ _ (wd_al h.ws p k (by omega)) (h.ws.getD (by omega)) W)
  have HT : Hid (∀ k, k < N -> (comB (t.d.getD k oP) p = true -> alP t p (k + 1) = alP t p k) /\ (comB (t.d.getD k oP) p = false -> alP t p (k + 1) = pdP (alP t p k) (t.s.getD k oP))) := hide (fun k hk => by
    have hr := sg_rr hN ((ch_iff.1 hc).2.1 k (by rw [hN]; omega))
    have hcm := cm_eq hr.2 hp
    exact ⟨fun e => by rw [alP, if_pos (by rw [hcm]; exact e)], fun e => by rw [alP, if_neg (by rw [hcm, e]; decide)]⟩)
  have HA0 : Hid (alP t p 0 = ⟨N, 0, 0, 0⟩) := hide (by rw [alP, hN])
  obtain ⟨hA, hP⟩ := two34 w (.int .i64 t.n) (.slice a t.s.length ca) (.slice b t.d.length cb) (.int .i64 p.n) (.int .u64 (p.x : Int)) (.int .u64 (p.z : Int)) (.int .i64 p.ph)
  have HB0 := hide (bkp (bnew w (.cells #[.int .i64 t.n, .slice a t.s.length ca, .slice b t.d.length cb] 29)) (bnew _ (.cells #[.int .i64 p.n, .int .u64 (p.x : Int), .int .u64 (p.z : Int), .int .i64 p.ph] 25)))
  have HI0 := hide (And.intro HB0.out (And.intro hA hP))
  have hsz0 : ((w.alloc (.cells #[.int .i64 (N : Int), .slice a N ca, .slice b N cb] 29)).alloc (.cells #[.int .i64 p.n, .int .u64 (p.x : Int), .int .u64 (p.z : Int), .int .i64 p.ph] 25)).heap.size = w.heap.size + 2 := by simp
  unfold tV
  rw [hN, hls, hld] at HI0
  rw [hN, hls, hld]
  generalize hAA : alP t p = A at *
  obtain ⟨R, hR⟩ : ∃ R, (if decide ((A N).ph = p.ph) = true then (1 : Int) else -1) = R := ⟨_, rfl⟩
  rw [hR]
  have HR := hide hR
  clear hR
  clear h hc h0 h64 hls hld hN hA hP HB0 hp hAA
  obtain ⟨pn, px, pz, pph⟩ := p
  unfold pV at HCM ⊢
  simp only at *
  go_enter Tryz.func58, Tryz.ntmps58
  go_wp2_with fail
  have hga : w.heap.size + 2 = w.heap.size + 1 + 1 := rfl
  have HI1 : Hid (Below w.heap.size w (((w.alloc (.cells #[.int .i64 (N : Int), .slice a N ca, .slice b N cb] 29)).alloc (.cells #[.int .i64 pn, .int .u64 (px : Int), .int .u64 (pz : Int), .int .i64 pph] 25)).alloc (.cells #[.int .i64 (N : Int), .int .u64 0, .int .u64 0, .int .i64 0] 25)) /\ At3 (((w.alloc (.cells #[.int .i64 (N : Int), .slice a N ca, .slice b N cb] 29)).alloc (.cells #[.int .i64 pn, .int .u64 (px : Int), .int .u64 (pz : Int), .int .i64 pph] 25)).alloc (.cells #[.int .i64 (N : Int), .int .u64 0, .int .u64 0, .int .i64 0] 25)) w.heap.size (.int .i64 (N : Int)) (.slice a N ca) (.slice b N cb) /\ At4 (((w.alloc (.cells #[.int .i64 (N : Int), .slice a N ca, .slice b N cb] 29)).alloc (.cells #[.int .i64 pn, .int .u64 (px : Int), .int .u64 (pz : Int), .int .i64 pph] 25)).alloc (.cells #[.int .i64 (N : Int), .int .u64 0, .int .u64 0, .int .i64 0] 25)) (w.heap.size + 1) (.int .i64 pn) (.int .u64 (px : Int)) (.int .u64 (pz : Int)) (.int .i64 pph) /\ At4 (((w.alloc (.cells #[.int .i64 (N : Int), .slice a N ca, .slice b N cb] 29)).alloc (.cells #[.int .i64 pn, .int .u64 (px : Int), .int .u64 (pz : Int), .int .i64 pph] 25)).alloc (.cells #[.int .i64 (N : Int), .int .u64 0, .int .u64 0, .int .i64 0] 25)) (w.heap.size + 1 + 1) (.int .i64 (A 0).n) (.int .u64 ((A 0).x : Int)) (.int .u64 ((A 0).z : Int)) (.int .i64 (A 0).ph)) := hide ⟨bkp HI0.out.1 (bnew _ _), HI0.out.2.1.below (bnew _ _), HI0.out.2.2.below (bnew _ _), by rw [HA0.out, ← hga, ← hsz0]; exact At4.new _ _ _ _ _⟩
  clear HI0 HA0 hsz0 hga
  generalize ((w.alloc (.cells #[.int .i64 (N : Int), .slice a N ca, .slice b N cb] 29)).alloc (.cells #[.int .i64 pn, .int .u64 (px : Int), .int .u64 (pz : Int), .int .i64 pph] 25)).alloc (.cells #[.int .i64 (N : Int), .int .u64 0, .int .u64 0, .int .i64 0] 25) = W0 at *
  go_loopw [6] (fun vi wr => ∃ i : Nat, vi = .int .i64 (i : Int) /\ i <= N /\ Hid (Below w.heap.size w wr /\ At3 wr w.heap.size (.int .i64 (N : Int)) (.slice a N ca) (.slice b N cb) /\ At4 wr (w.heap.size + 1) (.int .i64 pn) (.int .u64 (px : Int)) (.int .u64 (pz : Int)) (.int .i64 pph) /\ At4 wr (w.heap.size + 1 + 1) (.int .i64 (A i).n) (.int .u64 ((A i).x : Int)) (.int .u64 ((A i).z : Int)) (.int .i64 (A i).ph))) (fun vi _ => N - (Go.RowKit.intOf vi).toNat)
  case atStart => exact ⟨0, rfl, Nat.zero_le _, HI1⟩
  case round =>
    obtain ⟨i, rfl, hi, HI⟩ := hrel
    clear HI1
    obtain ⟨q0, q1, q2, q3⟩ := HI.out.2.1.cells
    by_cases hlt : i < N
    . have hd : decide ((i : Int) < (N : Int)) = true := decide_eq_true (by omega)
      obtain ⟨⟨gs, os, rfl, -, -⟩, ⟨gd, od, rfl, -, -⟩⟩ := HG.out i hlt _ HI.out.1
      have c3 := HCM.out i hlt
      have c4 := HPR.out i hlt
      obtain ⟨ht1, ht2⟩ := HT.out i hlt
      have HC : Hid (∀ W, Below wr.heap.size wr W -> (W.cell? ⟨w.heap.size, 0, none⟩ = some (.int .i64 (N : Int)) /\ W.cell? ⟨w.heap.size, 1, none⟩ = some (.slice (some ⟨gs, os, none⟩) N ca) /\ W.cell? ⟨w.heap.size, 2, none⟩ = some (.slice (some ⟨gd, od, none⟩) N cb) /\ w.heap.size < W.heap.size) /\ (W.cell? ⟨w.heap.size + 1, 0, none⟩ = some (.int .i64 pn) /\ W.cell? ⟨w.heap.size + 1, 1, none⟩ = some (.int .u64 (px : Int)) /\ W.cell? ⟨w.heap.size + 1, 2, none⟩ = some (.int .u64 (pz : Int)) /\ W.cell? ⟨w.heap.size + 1, 3, none⟩ = some (.int .i64 pph) /\ w.heap.size + 1 < W.heap.size) /\ (W.cell? ⟨w.heap.size + 1 + 1, 0, none⟩ = some (.int .i64 (A i).n) /\ W.cell? ⟨w.heap.size + 1 + 1, 1, none⟩ = some (.int .u64 ((A i).x : Int)) /\ W.cell? ⟨w.heap.size + 1 + 1, 2, none⟩ = some (.int .u64 ((A i).z : Int)) /\ W.cell? ⟨w.heap.size + 1 + 1, 3, none⟩ = some (.int .i64 (A i).ph) /\ w.heap.size + 1 + 1 < W.heap.size) /\ Pc W gs (os + i * 4) (t.s.getD i oP) /\ Pc W gd (od + i * 4) (t.d.getD i oP) /\ gs < W.heap.size /\ gd < W.heap.size) := hide (fun W hb => by
        obtain ⟨⟨gs', os', e1, k1, p1⟩, ⟨gd', od', e2, k2, p2⟩⟩ := HG.out i hlt _ (bkp HI.out.1 hb)
        cases e1
        cases e2
        exact ⟨(HI.out.2.1.below hb).cells, (HI.out.2.2.1.below hb).cells, (HI.out.2.2.2.below hb).cells, p1, p2, k1, k2⟩)
      generalize comB (t.d.getD i oP) ⟨pn, px, pz, pph⟩ = r at *
      obtain ⟨B, hB⟩ : ∃ B, A (i + 1) = B := ⟨_, rfl⟩
      rw [hB] at ht1 ht2
      have HNX := hide hB
      clear hB
      generalize pdP (A i) (t.s.getD i oP) = C at *
      generalize t.d.getD i oP = dd at *
      generalize t.s.getD i oP = ss at *
      generalize A i = AA at *
      obtain ⟨m1, y1, z1, p1⟩ := dd
      obtain ⟨m2, y2, z2, p2⟩ := ss
      obtain ⟨m3, y3, z3, p3⟩ := AA
      obtain ⟨m4, y4, z4, p4⟩ := C
      unfold pV at c4
      simp only at *
      cases r
      all_goals (
        go_wp2_with fail
        refine wp_region_quiet_C (C := fun W => Below wr.heap.size wr W) (by kernel_rfl) (by kernel_rfl) (bdrew (Below.refl _ _) 1) ?_
        refine unhideP ?_
        repeat
          refine wpQuiet_stepH (fun K hK => ?_)
          go_simp
          first
            | (refine hK _ ?_; clear hK K)
            | (apply Exists.intro
               refine ⟨fun W hW => ?_, hK _ ?_⟩
               first
                 | ((with_reducible refine Calls.mono (c3 _) ?_); rintro e x ⟨rfl, hb⟩; exact ⟨rfl, bkp hW hb⟩)
                 | (obtain ⟨⟨p0, p1, p2, p3⟩, ⟨a0, a1, a2, a3, a4⟩, ⟨f0, f1, f2, f3, f4⟩, ⟨b0, b1, b2, b3⟩, ⟨d0, d1, d2, d3⟩, e1, e2⟩ := HC.out W hW; go_simp; rfl)
               clear hK K)
        refine wpQuiet_nilH ?_
        intro w5 hW
        have HW5 := hide hW
        have HI5 := hide (And.intro (bkp HI.out.1 hW) (And.intro (HI.out.2.1.below hW) (And.intro (HI.out.2.2.1.below hW) (HI.out.2.2.2.below hW))))
        clear hW HI q0 q1 q2 q3)
      . have hB := ht2 (by trivial)
        subst hB
        clear ht1 ht2
        go_wp2_with fail
        have HC5 : Hid (∀ W, Below w5.heap.size w5 W -> Below wr.heap.size wr W) := hide (fun W hW => bkp HW5.out hW)
        refine wp_region_quiet_last (C := fun W => Below w5.heap.size w5 W) (by kernel_rfl) 7 rfl (by kernel_rfl) (by kernel_rfl) (bdrew (Below.refl _ _) 1) ?_
        simp only [List.take_succ_cons, List.take_zero]
        repeat
          refine wpQuiet_step (fun K hK => ?_)
          go_simp
          first
            | (refine hK _ ?_; clear hK K)
            | (apply Exists.intro
               refine ⟨fun W hW => ?_, hK _ ?_⟩
               first
                 | ((with_reducible refine Calls.mono (c4 _) ?_); rintro e x ⟨rfl, hb⟩; exact ⟨rfl, bkp hW hb⟩)
                 | (obtain ⟨⟨p0, p1, p2, p3⟩, ⟨a0, a1, a2, a3, a4⟩, ⟨f0, f1, f2, f3, f4⟩, ⟨b0, b1, b2, b3⟩, ⟨d0, d1, d2, d3⟩, e1, e2⟩ := HC.out W (HC5.out W hW); go_simp; rfl)
               clear hK K)
        refine wpQuiet_nil ?_
        intro W hW
        have hR := HI5.out.2.2.2.below hW
        have HN1 := hide (And.intro (below_setRow (bkp HI5.out.1 hW) (show w.heap.size <= w.heap.size + 1 + 1 by omega) #[.int .i64 m4, .int .u64 (y4 : Int), .int .u64 (z4 : Int), .int .i64 p4]) (And.intro ((HI5.out.2.1.below hW).offR (k := w.heap.size + 1 + 1) (cs := #[.int .i64 m4, .int .u64 (y4 : Int), .int .u64 (z4 : Int), .int .i64 p4]) (by omega)) (And.intro (At4.offR (HI5.out.2.2.1.below hW) (k := w.heap.size + 1 + 1) (cs := #[.int .i64 m4, .int .u64 (y4 : Int), .int .u64 (z4 : Int), .int .i64 p4]) (by omega)) (At4.rowP (HI5.out.2.2.2.below hW) (a' := .int .i64 m4) (b' := .int .u64 (y4 : Int)) (c' := .int .u64 (z4 : Int)) (d' := .int .i64 p4)))))
        unfold At4 at hR
        clear hW HC HI5 HW5 HC5
        go_wp2_with (first
          | (refine wpList_store_row rfl _ _ _ rfl (w.heap.size + 1 + 1) _ rfl rfl _ _ hR (by exact infoP) (by rfl) (allP _ _ _ _) ?_))
        go_roundw
        case rel => exact ⟨i + 1, by go_num, by omega, hide ⟨HN1.out.1, HN1.out.2.1, HN1.out.2.2.1, by rw [HNX.out]; exact HN1.out.2.2.2⟩⟩
        case measure => simp [Go.RowKit.intOf]; omega
      . have hB := ht1 (by trivial)
        subst hB
        clear ht1 ht2 HC HW5
        go_wp2_with fail
        go_roundw
        case rel => exact ⟨i + 1, by go_num, by omega, hide ⟨HI5.out.1, HI5.out.2.1, HI5.out.2.2.1, by rw [HNX.out]; exact HI5.out.2.2.2⟩⟩
        case measure => simp [Go.RowKit.intOf]; omega
    . obtain rfl : N = i := by omega
      obtain ⟨x0, x1, x2, x3, x4⟩ := HI.out.2.2.1.cells
      obtain ⟨y0, y1, y2, y3, y4⟩ := HI.out.2.2.2.cells
      have HF := hide HI.out.1
      have hq : ((A N).ph == pph) = decide ((A N).ph = pph) := by
        by_cases e : (A N).ph = pph
        . rw [decide_eq_true e]; simpa using e
        . rw [decide_eq_false e]; exact beq_false_of_ne e
      have hR := HR.out
      clear HR
      generalize decide ((A N).ph = pph) = rr at *
      cases rr
      . have hR' : (-1 : Int) = R := hR
        subst hR'
        clear HI hR
        go_wp2_with fail
        go_ret
        exact ⟨rfl, HF.out⟩
      . have hR' : (1 : Int) = R := hR
        subst hR'
        clear HI hR
        go_wp2_with fail
        go_ret
        exact ⟨rfl, HF.out⟩
theorem mem_doc {t : TT} {N : Nat} (hc : chB t = true) (hN : t.n = (N : Int)) {p : P} (hp : Rr N p) : (loI t p ≥ 0 /\ memI t p = 0) ∨ (loI t p = -1 /\ memI t p = if decide ((alP t p N).ph = p.ph) = true then 1 else -1) := by
  unfold loI memI
  have hn : t.n.toNat = N := by rw [hN, Int.toNat_natCast]
  cases h : lsB t p
  . right
    refine ⟨by simp, ?_⟩
    rw [hn, al_sign hc hN hp h]
    simp
  . left
    refine ⟨?_, by simp⟩
    rw [if_pos rfl]
    omega
theorem dMember (t : TT) (a b : Option Addr) (ca cb : Nat) (p : P) (hp : Wd p) (w : World) (h : Th w t a b ca cb) :
    Calls Tryz.prog 32 #[tV t a b ca cb, pV p] w fun e w' => e = .returned (.tuple #[.int .i64 (mbI t p), .int .i64 (csI t p)]) /\ Below w.heap.size w w' := by
  have HC1 := hide (fun W (hb : Below w.heap.size w W) => dRightT t a b ca cb W (h.below hb))
  have HC2 := hide (fun W => dRight p hp W)
  have HC3 : Hid (chB t = true -> ∀ N : Nat, t.n = (N : Int) -> Rr N p -> ∀ W, Below w.heap.size w W -> Calls Tryz.prog 50 #[tV t a b ca cb, pV p] W fun e w' => e = .returned (.int .i64 (loI t p)) /\ Below W.heap.size W w') := hide (fun hc N hN hr W hb => dLoose t a b ca cb hc p N hN hr W (h.below hb))
  have HC4 : Hid (chB t = true -> ∀ N : Nat, t.n = (N : Int) -> Rr N p -> ∀ W, Below w.heap.size w W -> Calls Tryz.prog 58 #[tV t a b ca cb, pV p] W fun e w' => e = .returned (.int .i64 (if decide ((alP t p N).ph = p.ph) = true then 1 else -1)) /\ Below W.heap.size W w') := hide (fun hc N hN hr W hb => dSign t a b ca cb hc p N hN hr W (h.below hb))
  obtain ⟨hA, hP⟩ := two34 w (.int .i64 t.n) (.slice a t.s.length ca) (.slice b t.d.length cb) (.int .i64 p.n) (.int .u64 (p.x : Int)) (.int .u64 (p.z : Int)) (.int .i64 p.ph)
  have HB0 := hide (bkp (bnew w (.cells #[.int .i64 t.n, .slice a t.s.length ca, .slice b t.d.length cb] 29)) (bnew _ (.cells #[.int .i64 p.n, .int .u64 (p.x : Int), .int .u64 (p.z : Int), .int .i64 p.ph] 25)))
  have HA0 := hide hA
  have HP0 := hide hP
  have hsg := sg_eq p t.n
  have HS : Hid (chB t = true -> sgB p t.n = true -> ∃ N : Nat, t.n = (N : Int) /\ Rr N p) := hide (fun hc hs => by
    obtain ⟨h0, -⟩ := sz_of (ch_size hc)
    obtain ⟨N, hN⟩ : ∃ N : Nat, t.n = (N : Int) := ⟨t.n.toNat, by omega⟩
    refine ⟨N, hN, ?_⟩
    unfold sgB at hs
    rw [Bool.and_eq_true, Bool.and_eq_true, decide_eq_true_eq, hN] at hs
    exact ⟨hs.2.1, hs.1⟩)
  have HM : Hid (∀ N : Nat, chB t = true -> t.n = (N : Int) -> Rr N p -> (loI t p ≥ 0 /\ memI t p = 0) ∨ (loI t p = -1 /\ memI t p = if decide ((alP t p N).ph = p.ph) = true then 1 else -1)) := hide (fun N hc hN hr => mem_doc hc hN hr)
  clear hA hP h hp
  obtain ⟨m, hm⟩ : ∃ m, mbI t p = m := ⟨_, rfl⟩
  obtain ⟨c, hc⟩ : ∃ c, csI t p = c := ⟨_, rfl⟩
  rw [hm, hc]
  have HV : Hid ((chB t = false -> m = 0 /\ c = 140) /\ (chB t = true -> sgB p t.n = false -> m = 0 /\ c = 2) /\ (chB t = true -> sgB p t.n = true -> m = memI t p /\ c = 0)) := hide (by
    subst hm
    subst hc
    unfold mbI csI
    cases chB t <;> cases sgB p t.n <;> simp)
  clear hm hc
  unfold tV at HC1 HC3 HC4 ⊢
  cases hch : chB t with
  | false =>
    obtain ⟨rfl, rfl⟩ := HV.out.1 hch
    rw [hch] at HC1
    generalize t.s.length = ns at *
    generalize t.d.length = nd at *
    clear HC3 HC4 HS HM HV hsg hch
    generalize t.n = tn at *
    obtain ⟨pn, px, pz, pph⟩ := p
    unfold pV at HC2 ⊢
    simp only at *
    go_enter Tryz.func32, Tryz.ntmps32
    go_wp2_with fail
    refine (HC1.out _ HB0.out).mono ?_
    rintro e w1 ⟨rfl, hb1⟩
    have HB1 := hide (bkp HB0.out hb1)
    clear hb1 HB0 HA0 HP0 HC1
    go_wp2_with fail
    go_ret2
    exact ⟨rfl, HB1.out⟩
  | true =>
    have HNO := hide (HV.out.2.1 hch)
    have HYES := hide (HV.out.2.2 hch)
    have HS' := hide (HS.out hch)
    have HM' := hide (fun N => HM.out N hch)
    have HC3' := hide (HC3.out hch)
    have HC4' := hide (HC4.out hch)
    rw [hch] at HC1
    clear HC3 HC4 HS HM HV hch
    have hru : ∀ r, rt p = r -> sgB p t.n = (r && decide (p.n = t.n) && !decide (p.ph.tmod 2 = 1)) := fun r e => by rw [hsg, e]
    obtain ⟨r, hr⟩ : ∃ r, rt p = r := ⟨_, rfl⟩
    have hs1 := hru r hr
    rw [hr] at HC2
    clear hsg hru hr
    generalize sgB p t.n = sg at *
    have HF : Hid (∀ N : Nat, t.n = (N : Int) -> Rr N p -> sg = true -> ∀ W, Below w.heap.size w W -> Calls Tryz.prog 50 #[.agg #[.int .i64 t.n, .slice a t.s.length ca, .slice b t.d.length cb], pV p] W fun e w' => e = .returned (.int .i64 (loI t p)) /\ Below W.heap.size W w') := hide (fun N hN hr _ W hb => HC3'.out N hN hr W hb)
    clear HC3'
    generalize t.s.length = ns at *
    generalize t.d.length = nd at *
    by_cases hs : sg = true
    . obtain ⟨N, hN, hrr⟩ := HS'.out hs
      obtain ⟨rfl, rfl⟩ := HYES.out hs
      have hcase := HM'.out N hN hrr
      have HL := hide (HF.out N hN hrr hs)
      have HG := hide (HC4'.out N hN hrr)
      clear HF HC4' HM' HYES HNO HS'
      subst hs
      have hr1 : r = true /\ p.n = t.n /\ ¬ p.ph.tmod 2 = 1 := by
        have := hs1.symm
        rw [Bool.and_eq_true, Bool.and_eq_true, decide_eq_true_eq, Bool.not_eq_true', decide_eq_false_iff_not] at this
        exact ⟨this.1.1, this.1.2, this.2⟩
      obtain ⟨rfl, hpn, hpp⟩ := hr1
      generalize (if decide ((alP t p N).ph = p.ph) = true then (1 : Int) else -1) = S at *
      generalize memI t p = M at *
      generalize loI t p = lo at *
      clear hs1 hrr hN
      generalize t.n = tn at *
      obtain ⟨pn, px, pz, pph⟩ := p
      unfold pV at HC2 HL HG ⊢
      simp only at *
      subst hpn
      have e1 : (Int.tmod pph 2 == 1) = false := beq_false_of_ne hpp
      clear hpp
      go_enter Tryz.func32, Tryz.ntmps32
      go_wp2_with fail
      refine (HC1.out _ HB0.out).mono ?_
      rintro e w1 ⟨rfl, hb1⟩
      have HB1 := hide (bkp HB0.out hb1)
      have HA1 := hide (HA0.out.below hb1)
      have HP1 := hide (HP0.out.below hb1)
      clear hb1 HB0 HA0 HP0 HC1
      obtain ⟨f0, f1, f2, f3, f4⟩ := HP1.out.cells
      go_wp2_with fail
      refine (HC2.out _).mono ?_
      rintro e w2 ⟨rfl, hb2⟩
      have HB2 := hide (bkp HB1.out hb2)
      have HA2 := hide (HA1.out.below hb2)
      have HP2 := hide (HP1.out.below hb2)
      clear hb2 HB1 HA1 HP1 HC2 f0 f1 f2 f3 f4
      obtain ⟨f0, f1, f2, f3, f4⟩ := HP2.out.cells
      obtain ⟨x0, x1, x2, x3⟩ := HA2.out.cells
      go_wp2_with fail
      refine (HL.out _ HB2.out).mono ?_
      rintro e w3 ⟨rfl, hb3⟩
      have HB3 := hide (bkp HB2.out hb3)
      have HA3 := hide (HA2.out.below hb3)
      have HP3 := hide (HP2.out.below hb3)
      clear hb3 HB2 HA2 HP2 HL f0 f1 f2 f3 f4 x0 x1 x2 x3
      rcases hcase with ⟨hlo, rfl⟩ | ⟨rfl, rfl⟩
      . have hd : decide (0 <= lo) = true := decide_eq_true hlo
        clear hlo
        go_wp2_with fail
        go_ret2
        exact ⟨rfl, HB3.out⟩
      . obtain ⟨f0, f1, f2, f3, f4⟩ := HP3.out.cells
        obtain ⟨x0, x1, x2, x3⟩ := HA3.out.cells
        go_wp2_with fail
        refine (HG.out _ HB3.out).mono ?_
        rintro e w4 ⟨rfl, hb4⟩
        have HB4 := hide (bkp HB3.out hb4)
        clear hb4 HB3 HA3 HP3 HG f0 f1 f2 f3 f4 x0 x1 x2 x3
        go_wp2_with fail
        go_ret2
        exact ⟨rfl, HB4.out⟩
    . have hs' : sg = false := eq_false_of_ne_true hs
      obtain ⟨rfl, rfl⟩ := HNO.out hs'
      clear HF HC4' HM' HYES HNO HS' hs
      subst hs'
      generalize t.n = tn at *
      obtain ⟨pn, px, pz, pph⟩ := p
      unfold pV at HC2 ⊢
      simp only at *
      have hcs : r = false ∨ (r = true /\ (pn != tn) = true) ∨ (r = true /\ pn = tn /\ (Int.tmod pph 2 == 1) = true) := by
        cases r
        . exact .inl rfl
        . right
          by_cases e : pn = tn
          . right
            refine ⟨rfl, e, ?_⟩
            rw [decide_eq_true e] at hs1
            by_cases f : Int.tmod pph 2 = 1
            . simpa using f
            . rw [decide_eq_false f] at hs1; cases hs1
          . exact .inl ⟨rfl, bne_iff_ne.2 e⟩
      clear hs1
      rcases hcs with rfl | ⟨rfl, e1⟩ | ⟨rfl, rfl, e1⟩
      all_goals (
        go_enter Tryz.func32, Tryz.ntmps32
        go_wp2_with fail
        refine (HC1.out _ HB0.out).mono ?_
        rintro e w1 ⟨rfl, hb1⟩
        have HB1 := hide (bkp HB0.out hb1)
        have HA1 := hide (HA0.out.below hb1)
        have HP1 := hide (HP0.out.below hb1)
        clear hb1 HB0 HA0 HP0 HC1
        obtain ⟨f0, f1, f2, f3, f4⟩ := HP1.out.cells
        go_wp2_with fail
        refine (HC2.out _).mono ?_
        rintro e w2 ⟨rfl, hb2⟩
        have HB2 := hide (bkp HB1.out hb2)
        have HA2 := hide (HA1.out.below hb2)
        have HP2 := hide (HP1.out.below hb2)
        clear hb2 HB1 HA1 HP1 HC2 f0 f1 f2 f3 f4
        obtain ⟨f0, f1, f2, f3, f4⟩ := HP2.out.cells
        obtain ⟨x0, x1, x2, x3⟩ := HA2.out.cells
        go_wp2_with fail
        go_ret2
        exact ⟨rfl, HB2.out⟩)
end Go.Proofs.YtpehekonjdneaaaGreatDoor.Tbl
