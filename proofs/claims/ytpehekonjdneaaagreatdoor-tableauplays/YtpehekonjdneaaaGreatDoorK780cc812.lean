import Derived.Test.YtpehekonjdneaaaGreatDoorKab4afffd
import Derived.Test.YtpehekonjdneaaaGreatDoorK2b7b3820
set_option maxRecDepth 100000
set_option maxHeartbeats 4000000
namespace Go.Proofs.YtpehekonjdneaaaGreatDoor.Tbl
open Go.RowKit Go.Shelf Go.Proofs.YtpehekonjdneaaaGreatDoor.Pau Go.Proofs.YtpehekonjdneaaaGreatDoor.Gt
def enc (f : Nat -> Nat) : Nat -> Nat
  | 0 => 0
  | k + 1 => enc f k ||| (f k * 2 ^ k)
theorem enc_bt {f : Nat -> Nat} (hf : ∀ i, f i < 2) : ∀ k i, bt (enc f k) i = if i < k then f i else 0
  | 0, i => by rw [if_neg (Nat.not_lt_zero _)]; exact bt_zero _
  | k + 1, i => by
    have ih := enc_bt hf k i
    have hp := bt_pow (f k) k i (hf k)
    rw [enc, bt_or', ih, hp]
    . by_cases h1 : i = k
      . rw [if_neg (by omega), if_pos h1, if_pos (by omega), h1]; omega
      . rw [if_neg h1]
        by_cases h2 : i < k
        . rw [if_pos h2, if_pos (by omega)]; omega
        . rw [if_neg h2, if_neg (by omega)]
    . rw [ih, hp]
      by_cases h1 : i = k
      . left; rw [if_neg (by omega)]
      . right; rw [if_neg h1]
theorem enc_lt {f : Nat -> Nat} (hf : ∀ i, f i < 2) : ∀ k, enc f k < 2 ^ k
  | 0 => Nat.one_pos
  | k + 1 => by
    have ih := enc_lt hf k
    have hk := hf k
    have h2 : (2 : Nat) ^ (k + 1) = 2 ^ k * 2 := Nat.pow_succ 2 k
    rw [enc]
    refine Nat.or_lt_two_pow (by omega) ?_
    have : f k = 0 ∨ f k = 1 := by omega
    rcases this with e | e <;> rw [e] <;> omega
theorem vs_gn {t : TT} {N : Nat} (hc : chB t = true) (hN : t.n = (N : Int)) (c : Nat) : ∀ k, k <= N -> ∃ g, Gn N t.s g /\ bp g = vs (fun i => bp (t.s.getD i oP)) c k
  | 0, _ => ⟨_, .one, rfl⟩
  | k + 1, hk => by
    obtain ⟨g, hg, e⟩ := vs_gn hc hN c k (by omega)
    have hl := (sz_of (ch_size hc)).2.2.1
    rw [hN, Int.toNat_natCast] at hl
    rw [vs]
    split
    . refine ⟨pdP g (t.s.getD k oP), .mul hg (.own (mem_at (by omega))), ?_⟩
      rw [bp_pd (gn_kg hc hN hg).rr (sgB_iff.1 (sg_of hc hN (by omega)).1).1, e]
    . exact ⟨g, hg, e⟩
theorem cn_full {t : TT} {N : Nat} (hc : chB t = true) (hN : t.n = (N : Int)) : (redS N t.s (2 * N)).2 = N := by
  obtain ⟨h1, h2, pv, h3⟩ := red_inv hc hN (2 * N)
  have hl := (sz_of (ch_size hc)).2.2.1
  rw [hN, Int.toNat_natCast] at hl
  have hle : (redS N t.s (2 * N)).2 <= N := by have := redS_rank N t.s (2 * N); omega
  refine Classical.byContradiction fun hne => ?_
  have hlt : (redS N t.s (2 * N)).2 < N := by omega
  have hrr : ∀ p ∈ (redS N t.s (2 * N)).1, Rr N p := fun p hp => (gn_kg hc hN (h1 p hp)).rr
  have h64 := n64_of hc hN
  have sy := ch_sy hc hN
  generalize redS N t.s (2 * N) = s at *
  obtain ⟨m, r⟩ := s
  simp only at *
  let G : Nat -> P := fun c => Classical.choose (vs_gn hc hN c N (Nat.le_refl _))
  have hG : ∀ c, Gn N t.s (G c) /\ bp (G c) = vs (fun i => bp (t.s.getD i oP)) c N := fun c => Classical.choose_spec (vs_gn hc hN c N (Nat.le_refl _))
  have hGm : ∀ c, Gn N m (G c) := fun c => Gn.sub h2 (hG c).1
  have hb : ∀ c i, (fun i => bitN N (G c) (pv i)) i < 2 := fun c i => bit_lt _ _ _
  have hod : ∀ c j, j < N -> om (bp (G c)) (bp (t.d.getD j oP)) = bt c j := fun c j hj => by
    rw [(hG c).2, vs_om, sm_one N j hj (fun i hi hne => by rw [om_comm, sy.ds j i hj hi, if_neg (fun e => hne e.symm)]; rfl), om_comm, sy.ds j j hj hj, if_pos rfl, Nat.mul_one]
    exact Nat.mod_eq_of_lt (bt_lt _ _)
  have hpw : (2 : Nat) ^ r < 2 ^ N := Nat.pow_lt_pow_right (by decide) hlt
  obtain ⟨i, hi, e⟩ := onto (2 ^ N) (fun c => enc (fun i => bitN N (G c) (pv i)) r) (fun c hc => Nat.lt_trans (enc_lt (hb c) r) hpw) (fun a b ha hb' e => by
    have hbits : ∀ i, i < r -> bitN N (G a) (pv i) = bitN N (G b) (pv i) := fun i hi => by
      have ea := enc_bt (hb a) r i
      have eb := enc_bt (hb b) r i
      rw [if_pos hi] at ea eb
      rw [← ea, ← eb]
      exact congrArg (fun x => bt x i) e
    have hall : bp (G a) = bp (G b) := bit_ext (gn_kg hc hN (hG a).1).rr (gn_kg hc hN (hG b).1).rr (fun c hc' => by
      rw [(ec_sum hrr h64 h3 (hGm a)).2 c hc', (ec_sum hrr h64 h3 (hGm b)).2 c hc', sm_congr r (fun q hq => by rw [hbits q hq])])
    exact bt_le_ext ha hb' (fun j hj => by rw [← hod a j hj, ← hod b j hj, hall])) (2 ^ r) hpw
  have h5 := enc_lt (hb i) r
  have h6 : enc (fun j => bitN N (G i) (pv j)) r = 2 ^ r := e
  omega
def apOk (n : Int) (l : List Int) (i : Nat) : Prop := 0 <= l.getD i 0 /\ l.getD i 0 < n /\ ∀ k, k < i -> l.getD k 0 ≠ l.getD i 0
theorem or_bt (m q j : Nat) : bt (m ||| 2 ^ q) j = 0 ↔ bt m j = 0 /\ j ≠ q := by
  have hp : bt (2 ^ q) j = if j = q then 1 else 0 := by have := bt_pow 1 q j (by decide); rw [Nat.one_mul] at this; exact this
  have h2 := bt_lt m j
  rw [bt_or, hp]
  by_cases e : j = q
  . rw [if_pos e]; simp [e]
  . rw [if_neg e]
    by_cases h : bt m j = 0 <;> simp [h, e]
theorem ul_iff {n : Int} : ∀ (l : List Int) (m : Nat), ulG n l m = true ↔ ∀ i, i < l.length -> 0 <= l.getD i 0 /\ l.getD i 0 < n /\ bt m (l.getD i 0).toNat = 0 /\ ∀ k, k < i -> l.getD k 0 ≠ l.getD i 0
  | [], m => by simp [ulG]
  | q :: l, m => by
    rw [ulG, Bool.and_eq_true, Bool.and_eq_true, Bool.and_eq_true, decide_eq_true_eq, decide_eq_true_eq, decide_eq_true_eq, ul_iff l (m ||| 2 ^ q.toNat)]
    constructor
    . rintro ⟨⟨⟨h1, h2⟩, h3⟩, h4⟩ i hi
      cases i with
      | zero => exact ⟨h1, h2, h3, fun k hk => absurd hk (Nat.not_lt_zero _)⟩
      | succ i =>
        have hi' : i < l.length := by simpa using hi
        obtain ⟨a, b, c, d⟩ := h4 i hi'
        have c' := (or_bt _ _ _).1 c
        refine ⟨a, b, c'.1, fun k hk => ?_⟩
        cases k with
        | zero => intro e; exact c'.2 (by show (l.getD i 0).toNat = q.toNat; have : q = l.getD i 0 := e; rw [this])
        | succ k => exact d k (by omega)
    . intro h
      obtain ⟨h1, h2, h3, -⟩ := h 0 (by simp)
      refine ⟨⟨⟨h1, h2⟩, h3⟩, fun i hi => ?_⟩
      obtain ⟨a, b, c, d⟩ := h (i + 1) (by simp; omega)
      refine ⟨a, b, (or_bt _ _ _).2 ⟨c, fun e => ?_⟩, fun k hk => d (k + 1) (by omega)⟩
      have a' : 0 <= l.getD i 0 := a
      have e' : (l.getD i 0).toNat = q.toNat := e
      have h1' : 0 <= q := h1
      exact d 0 (by omega) (by show q = l.getD i 0; omega)
theorem ul_yes {n : Int} {l : List Int} (h : ∀ i, i < l.length -> apOk n l i) : ulB n l = true := (ul_iff l 0).2 (fun i hi => ⟨(h i hi).1, (h i hi).2.1, bt_zero _, (h i hi).2.2⟩)
theorem ul_no {n : Int} {l : List Int} {i : Nat} (hi : i < l.length) (h : ¬ apOk n l i) : ulB n l = false := by
  cases e : ulB n l
  . rfl
  . exact absurd ((fun h => ⟨h.1, h.2.1, h.2.2.2⟩) ((ul_iff l 0).1 e i hi)) h
theorem dApart (l : List Int) (hl : l.length <= 1000000000000000) (n : Int) (ao : Option Addr) (c : Nat) (w : World) (hN : Ns w ao l) :
    Calls Tryz.prog 55 #[.slice ao l.length c, .int .i64 n] w fun e w' => e = .returned (.bool (ulB n l)) /\ Below w.heap.size w w' := by
  have HY : Hid ((∀ i, i < l.length -> apOk n l i) -> ulB n l = true) := hide ul_yes
  have HNO : Hid (∀ i, i < l.length -> ¬ apOk n l i -> ulB n l = false) := hide (fun i hi h => ul_no hi h)
  obtain ⟨k, hk⟩ : ∃ k, l.length = k := ⟨_, rfl⟩
  rw [hk] at hl HY HNO ⊢
  generalize ulB n l = R at *
  rcases hN with hnil | ⟨g, off, rfl, hcell⟩
  . obtain rfl : k = 0 := by rw [← hk, hnil]; rfl
    have hR : R = true := HY.out (fun i hi => absurd hi (Nat.not_lt_zero _))
    subst hR
    clear HY HNO hk hnil
    go_enter Tryz.func55, Tryz.ntmps55
    go_wp2_with fail
    go_loopw [5] (fun vi wr => vi = .int .i64 0 /\ Hid (Below w.heap.size w wr)) (fun _ _ => 0)
    case atStart => exact ⟨rfl, hide (Below.refl _ _)⟩
    case round =>
      obtain ⟨rfl, HI⟩ := hrel
      go_wp2_with fail
      go_ret
      exact ⟨rfl, HI.out⟩
  . have HCL : Hid (∀ V, Below w.heap.size w V -> ∀ j, j < k -> V.cell? ⟨g, off + j, none⟩ = some (.int .i64 (l.getD j 0)) /\ g < V.heap.size) := hide (fun V hb j hj => by
      have e : l[j]? = some (l.getD j 0) := by rw [List.getD_eq_getElem?_getD, List.getElem?_eq_getElem (by omega)]; rfl
      have h1 := hcell j _ e
      have hlt : g < w.heap.size := World.block_lt_of_cell? _ _ h1
      exact ⟨(hb.cell (p := ⟨g, off + j, none⟩) hlt).trans h1, Nat.lt_of_lt_of_le hlt hb.size⟩)
    clear hcell hk
    go_enter Tryz.func55, Tryz.ntmps55
    go_wp2_with fail
    go_loopw [5] (fun vi wr => ∃ i : Nat, vi = .int .i64 (i : Int) /\ i <= k /\ Hid (∀ j, j < i -> apOk n l j) /\ Hid (Below w.heap.size w wr)) (fun vi _ => k - (Go.RowKit.intOf vi).toNat)
    case atStart => exact ⟨0, rfl, Nat.zero_le _, hide (fun j hj => absurd hj (Nat.not_lt_zero _)), hide (Below.refl _ _)⟩
    case round =>
      obtain ⟨i, rfl, hi, HG, HB⟩ := hrel
      by_cases h : i < k
      . have hd : decide ((i : Int) < (k : Int)) = true := decide_eq_true (by omega)
        obtain ⟨a0, a1⟩ := HCL.out _ HB.out i h
        have HCi := hide (fun V hb => HCL.out V hb i h)
        have HNi := hide (HNO.out i h)
        have HOK : Hid (0 <= l.getD i 0 -> l.getD i 0 < n -> (∀ k, k < i -> l.getD k 0 ≠ l.getD i 0) -> apOk n l i) := hide (fun h1 h2 h3 => ⟨h1, h2, h3⟩)
        have HBD : Hid (¬ (0 <= l.getD i 0 /\ l.getD i 0 < n) -> ¬ apOk n l i) := hide (fun h1 h2 => h1 ⟨h2.1, h2.2.1⟩)
        have HBE : Hid (∀ j, j < i -> l.getD j 0 = l.getD i 0 -> ¬ apOk n l i) := hide (fun j hj e h2 => h2.2.2 j hj e)
        generalize l.getD i 0 = q at *
        by_cases h1 : q < 0
        . have d1 : decide (q < 0) = true := decide_eq_true h1
          have hR : R = false := HNi.out (HBD.out (by omega))
          clear h1 HNi HBD HOK HBE HY HNO
          subst hR
          go_wp2_with fail
          go_ret
          exact ⟨rfl, HB.out⟩
        . by_cases h2 : n <= q
          . have d1 : decide (q < 0) = false := decide_eq_false h1
            have d2 : decide (n <= q) = true := decide_eq_true h2
            have hR : R = false := HNi.out (HBD.out (by omega))
            clear h1 h2 HNi HBD HOK HBE HY HNO
            subst hR
            go_wp2_with fail
            go_ret
            exact ⟨rfl, HB.out⟩
          . have d1 : decide (q < 0) = false := decide_eq_false h1
            have d2 : decide (n <= q) = false := decide_eq_false h2
            have HOK2 := hide (HOK.out (by omega) (by omega))
            clear h1 h2 HOK HBD
            go_wp2_with fail
            clear a0 a1
            go_loopw [6] (fun vj w2 => ∃ j : Nat, vj = .int .i64 (j : Int) /\ j <= i /\ Hid (∀ k, k < j -> l.getD k 0 ≠ q) /\ Hid (Below w.heap.size w w2)) (fun vj _ => i - (Go.RowKit.intOf vj).toNat)
            case atStart => exact ⟨0, rfl, Nat.zero_le _, hide (fun k hk => absurd hk (Nat.not_lt_zero _)), HB⟩
            case round =>
              obtain ⟨j, rfl, hj, HJ, HB2⟩ := hrel
              clear HB
              by_cases hji : j < i
              . have dj : decide ((j : Int) < (i : Int)) = true := decide_eq_true (by omega)
                have HCj := hide (fun V hb => HCL.out V hb j (by omega))
                have hbe := HBE.out j hji
                have HJ2 : Hid (l.getD j 0 ≠ q -> ∀ k, k < j + 1 -> l.getD k 0 ≠ q) := hide (fun hne k hk => by
                  by_cases e : k = j
                  . rw [e]; exact hne
                  . exact HJ.out k (by omega))
                generalize l.getD j 0 = qj at *
                by_cases e : qj = q
                . have de : (qj == q) = true := beq_iff_eq.2 e
                  have hR : R = false := HNi.out (hbe e)
                  clear e hbe HJ2 HY HNO HNi HOK2
                  subst hR
                  obtain ⟨b0, b1⟩ := HCi.out _ HB2.out
                  obtain ⟨c0, c1⟩ := HCj.out _ HB2.out
                  have HBD2 := hide (fun z => bdrew HB2.out z)
                  go_wp2_with fail
                  go_quiet (fail)
                  go_wp2_with fail
                  go_ret
                  exact ⟨rfl, HBD2.out _⟩
                . have de : (qj == q) = false := beq_false_of_ne e
                  have HJ3 := hide (HJ2.out e)
                  clear e hbe HJ2 HY HNO HNi HOK2
                  obtain ⟨b0, b1⟩ := HCi.out _ HB2.out
                  obtain ⟨c0, c1⟩ := HCj.out _ HB2.out
                  have HBD2 := hide (fun z => bdrew HB2.out z)
                  go_wp2_with fail
                  go_quiet (fail)
                  go_wp2_with fail
                  go_roundw
                  case rel => exact ⟨j + 1, by go_num, by omega, HJ3, hide (HBD2.out _)⟩
                  case measure => simp [Go.RowKit.intOf]; omega
              . obtain rfl : i = j := by omega
                have dj : decide ((i : Int) < (i : Int)) = false := decide_eq_false (by omega)
                have HGN : Hid (∀ k, k < i + 1 -> apOk n l k) := hide (fun k hk => by
                  by_cases e : k = i
                  . rw [e]; exact HOK2.out HJ.out
                  . exact HG.out k (by omega))
                go_wp2_with fail
                go_roundw
                case rel => exact ⟨i + 1, by go_num, by omega, HGN, HB2⟩
                case measure => simp [Go.RowKit.intOf]; omega
      . obtain rfl : k = i := by omega
        have hd : decide ((k : Int) < (k : Int)) = false := decide_eq_false (by omega)
        have hR : R = true := HY.out HG.out
        subst hR
        go_wp2_with fail
        go_ret
        exact ⟨rfl, HB.out⟩
theorem dReduced0 (ao : Option Addr) (cc : Nat) (w : World) : Calls Tryz.prog 62 #[.slice ao 0 cc, .int .i64 0] w fun e w' => ∃ ao' c', e = .returned (.slice ao' 0 c') /\ Below w.heap.size w w' := by
  go_enter Tryz.func62, Tryz.ntmps62
  go_wp2_with (at_builtin; refine app_rowP rfl _ _ rfl rfl ao cc [] 0 w.heap.size rfl rfl (.inl rfl) (by decide) rfl ?_)
  intro ao1 c1 w1 hp1 hb1
  have HB := hide hb1
  clear hp1 hb1
  go_wp2_with fail
  go_loopw [6, 7] (fun va vc wr => va = .int .i64 0 /\ vc = .int .i64 0 /\ Hid (Below w.heap.size w wr)) (fun _ _ _ => 0)
  case atStart => exact ⟨rfl, rfl, HB⟩
  case round =>
    obtain ⟨rfl, rfl, HI⟩ := hrel
    go_wp2_with fail
    go_ret
    exact ⟨_, _, rfl, HI.out⟩
theorem dCanon (t : TT) (a b : Option Addr) (ca cb : Nat) (w : World) (h : Th w t a b ca cb) :
    Calls Tryz.prog 36 #[tV t a b ca cb] w fun e w' => ∃ ao c, e = .returned (.tuple #[.slice ao (cnL t).length c, .int .i64 (chI t)]) /\ PIn w' ao (cnL t) /\ Below w.heap.size w w' := by
  have HC1 := hide (fun W (hb : Below w.heap.size w W) => dRightT t a b ca cb W (h.below hb))
  have HA0 := hide (At3.new w (.int .i64 t.n) (.slice a t.s.length ca) (.slice b t.d.length cb))
  have HB0 := hide (bnew w (.cells #[.int .i64 t.n, .slice a t.s.length ca, .slice b t.d.length cb] 29))
  by_cases hc : chB t = true
  . obtain ⟨h0, h64, hls, hld⟩ := sz_of (ch_size hc)
    obtain ⟨N, hN⟩ : ∃ N : Nat, t.n = (N : Int) := ⟨t.n.toNat, by omega⟩
    rw [hN, Int.toNat_natCast] at hls hld
    have hrr : ∀ p ∈ t.s, Rr N p := by have := (ch_rr hc).1; rw [hN, Int.toNat_natCast] at this; exact this
    have hch : chI t = 0 := by unfold chI; rw [if_pos hc]
    have hln : (cnL t).length = N := by rw [cn_len hc, hls]
    have hcn : (redS N t.s (2 * N)).1 = cnL t := by unfold cnL; rw [if_pos hc, hN, Int.toNat_natCast]
    have hfull := cn_full hc hN
    have HC2 : Hid (∀ W, Below w.heap.size w W -> Calls Tryz.prog 62 #[.slice a N ca, .int .i64 (N : Int)] W fun e w' => ∃ ao c, e = .returned (.slice ao N c) /\ PIn w' ao (cnL t) /\ Below W.heap.size W w') := hide (fun W hb => by
      rcases Nat.eq_zero_or_pos N with e | e
      . subst e
        refine (dReduced0 a ca W).mono ?_
        rintro e w' ⟨ao', c', rfl, hb'⟩
        exact ⟨ao', c', rfl, .inl (List.length_eq_zero_iff.1 hln), hb'⟩
      . have := dReduced N t.s hrr (by omega) (by omega) (by omega) a ca W (h.s.below hb)
        rw [hfull, hcn, hls] at this
        refine this.mono ?_
        rintro e w' ⟨g, c', rfl, hp, -, -, hb'⟩
        exact ⟨_, c', rfl, hp.pin, hb'⟩)
    rw [hch, hln]
    rw [hc] at HC1
    unfold tV at HC1 ⊢
    rw [hls, hld, hN] at HC1 HA0 HB0 ⊢
    generalize cnL t = L at *
    clear hc h0 h64 hls hld hN hrr hch hln hcn hfull h
    go_enter Tryz.func36, Tryz.ntmps36
    go_wp2_with fail
    refine (HC1.out _ HB0.out).mono ?_
    rintro e w1 ⟨rfl, hb1⟩
    have HB1 := hide (bkp HB0.out hb1)
    obtain ⟨x0, x1, x2, x3⟩ := (HA0.out.below hb1).cells
    clear hb1 HA0 HB0 HC1
    go_wp2_with fail
    refine (HC2.out _ HB1.out).mono ?_
    rintro e w2 ⟨ao, c, rfl, hp, hb2⟩
    have HX := hide (And.intro hp (bkp HB1.out hb2))
    clear hp hb2 HB1 HC2 x0 x1 x2 x3
    go_wp2_with fail
    go_ret2
    exact ⟨ao, c, rfl, HX.out.1, HX.out.2⟩
  . have hch : chI t = 140 := by unfold chI; rw [if_neg hc]
    have hcn : cnL t = [] := by unfold cnL; rw [if_neg hc]
    rw [hch, hcn]
    rw [Bool.eq_false_iff.2 hc] at HC1
    unfold tV at HC1 ⊢
    simp only [List.length_nil]
    generalize t.n = n at *
    generalize t.s.length = ns at *
    generalize t.d.length = nd at *
    clear hc hch hcn h
    go_enter Tryz.func36, Tryz.ntmps36
    go_wp2_with fail
    refine (HC1.out _ HB0.out).mono ?_
    rintro e w1 ⟨rfl, hb1⟩
    have HB1 := hide (bkp HB0.out hb1)
    clear hb1 HA0 HB0 HC1
    go_wp2_with fail
    go_ret2
    exact ⟨none, 0, rfl, .inl rfl, HB1.out⟩
theorem and_run14 (x m : Nat) (hx : x < 18446744073709551616) (hm : m < 18446744073709551616) : bits .and .u64 (x : Int) (m : Int) = ((x &&& m : Nat) : Int) := u64_and_nat _ _ hx hm
theorem dCut_no (t : TT) (a b : Option Addr) (ca cb : Nat) (l : List Int) (hl : l.length <= 1000000000000000) (ao : Option Addr) (c : Nat) (hno : ¬ (chB t = true /\ ulB t.n l = true)) (w : World) (h : Th w t a b ca cb) (hN : Ns w ao l) :
    Calls Tryz.prog 34 #[tV t a b ca cb, .slice ao l.length c] w fun e w' => e = .returned (.tuple #[.int .i64 (cuR t l).1, .int .i64 (cuR t l).2]) /\ Below w.heap.size w w' := by
  have HC1 := hide (fun W (hb : Below w.heap.size w W) => dRightT t a b ca cb W (h.below hb))
  have HC2 := hide (fun W (hb : Below w.heap.size w W) => dApart l hl t.n ao c W (hN.below hb))
  have HA0 := hide (At3.new w (.int .i64 t.n) (.slice a t.s.length ca) (.slice b t.d.length cb))
  have HB0 := hide (bnew w (.cells #[.int .i64 t.n, .slice a t.s.length ca, .slice b t.d.length cb] 29))
  unfold cuR
  unfold tV at HC1 ⊢
  by_cases hc : chB t = true
  . have hu : ulB t.n l = false := by cases e : ulB t.n l; rfl; exact absurd ⟨hc, e⟩ hno
    rw [if_pos hc, hu, if_neg (by decide)]
    rw [hc] at HC1
    rw [hu] at HC2
    clear hno hc hu h hN hl
    generalize t.n = n at *
    generalize t.s.length = ns at *
    generalize t.d.length = nd at *
    generalize l.length = nl at *
    go_enter Tryz.func34, Tryz.ntmps34
    go_wp2_with fail
    refine (HC1.out _ HB0.out).mono ?_
    rintro e w1 ⟨rfl, hb1⟩
    have HB1 := hide (bkp HB0.out hb1)
    obtain ⟨x0, x1, x2, x3⟩ := (HA0.out.below hb1).cells
    clear hb1 HA0 HB0 HC1
    go_wp2_with fail
    refine (HC2.out _ HB1.out).mono ?_
    rintro e w2 ⟨rfl, hb2⟩
    have HB2 := hide (bkp HB1.out hb2)
    clear hb2 HB1 HC2 x0 x1 x2 x3
    go_wp2_with fail
    go_ret2
    exact ⟨rfl, HB2.out⟩
  . rw [if_neg hc]
    rw [Bool.eq_false_iff.2 hc] at HC1
    clear hno hc h hN hl HC2
    generalize t.n = n at *
    generalize t.s.length = ns at *
    generalize t.d.length = nd at *
    generalize l.length = nl at *
    go_enter Tryz.func34, Tryz.ntmps34
    go_wp2_with fail
    refine (HC1.out _ HB0.out).mono ?_
    rintro e w1 ⟨rfl, hb1⟩
    have HB1 := hide (bkp HB0.out hb1)
    clear hb1 HA0 HB0 HC1
    go_wp2_with fail
    go_ret2
    exact ⟨rfl, HB1.out⟩
theorem dCut_ok (t : TT) (a b : Option Addr) (ca cb : Nat) (l : List Int) (hl : l.length <= 1000000000000000) (ao : Option Addr) (c : Nat) (hc : chB t = true) (hu : ulB t.n l = true) (w : World) (h : Th w t a b ca cb) (hN : Ns w ao l) :
    Calls Tryz.prog 34 #[tV t a b ca cb, .slice ao l.length c] w fun e w' => e = .returned (.tuple #[.int .i64 (((redS t.n.toNat (cuL t l) (2 * t.n.toNat)).2 : Int) - (l.length : Int)), .int .i64 0]) /\ Below w.heap.size w w' := by
  obtain ⟨h0, h64, hls, hld⟩ := sz_of (ch_size hc)
  obtain ⟨N, hNn⟩ : ∃ N : Nat, t.n = (N : Int) := ⟨t.n.toNat, by omega⟩
  have hN64 : N <= 64 := by omega
  rw [hNn, Int.toNat_natCast] at hls hld
  have hrr := (ch_rr hc).1
  rw [hNn, Int.toNat_natCast] at hrr
  have HC1 := hide (fun W (hb : Below w.heap.size w W) => dRightT t a b ca cb W (h.below hb))
  have HC2 := hide (fun W (hb : Below w.heap.size w W) => dApart l hl t.n ao c W (hN.below hb))
  rw [hc] at HC1
  rw [hu] at HC2
  have hin := ul_len hN64 l 0 (by rw [← hNn]; exact hu)
  have hmk := mk_lt hN64 l 0 hin (by decide)
  have hcl : cuL t l = (List.range N).map (fun i => mkP (mkG l 0) (N : Int) (t.s.getD i oP)) := by unfold cuL; rw [hls, hNn]
  have hcr : ∀ p ∈ cuL t l, Rr N p := by
    intro p hp
    rw [hcl] at hp
    obtain ⟨i, hi, rfl⟩ := List.mem_map.1 hp
    exact rr_mk (hrr _ (List.mem_of_getElem? (get_of (by rw [hls]; exact List.mem_range.1 hi)))) _
  have hcn : (cuL t l).length = N := by rw [hcl]; simp
  have hrk := redS_rank N (cuL t l) (2 * N)
  rw [hcn] at hrk
  have HC3 : Hid (∀ W ao' c', PIn W ao' (cuL t l) -> Calls Tryz.prog 62 #[.slice ao' N c', .int .i64 (N : Int)] W fun e w' => ∃ x y, e = .returned (.slice x (redS N (cuL t l) (2 * N)).2 y) /\ Below W.heap.size W w') := hide (fun W ao' c' hp => by
    rcases Nat.eq_zero_or_pos N with e | e
    . subst e
      have ez : (redS 0 (cuL t l) (2 * 0)).2 = 0 := rfl
      rw [ez]
      exact dReduced0 ao' c' W
    . have := dReduced N (cuL t l) hcr hN64 (by omega) (by omega) ao' c' W hp
      rw [hcn] at this
      refine this.mono ?_
      rintro e w' ⟨g, y, rfl, -, -, -, hb'⟩
      exact ⟨_, y, rfl, hb'⟩)
  rw [hNn, Int.toNat_natCast]
  have HTK : Hid (∀ i, i < N -> (cuL t l).take i ++ [mkP (mkG l 0) (N : Int) (t.s.getD i oP)] = (cuL t l).take (i + 1)) := hide (fun i hi => by rw [hcl]; exact take_succ_map N _ i hi)
  have HTE : Hid ((cuL t l).take N = cuL t l) := hide (List.take_of_length_le (by omega))
  have HTL : Hid (∀ i, i <= N -> ((cuL t l).take i).length = i) := hide (fun i hi => by rw [List.length_take, hcn]; omega)
  have HWD : Hid (∀ i, i < N -> Wd (t.s.getD i oP)) := hide (fun i hi => h.ws.getD (by omega))
  have HRS : Hid (∀ i, i < N -> ∃ gs os, a = some ⟨gs, os, none⟩ /\ ∀ V, Below w.heap.size w V -> Pc V gs (os + i * 4) (t.s.getD i oP) /\ gs < V.heap.size) := hide (fun i hi => by
    obtain ⟨gs, os, e, hh⟩ := h.s.get (by omega)
    exact ⟨gs, os, e, fun V hb => ⟨(hh i _ (get_of (by omega))).below hb, ((hh i _ (get_of (by omega))).below hb).lt⟩⟩)
  have HA0 := hide (At3.new w (.int .i64 t.n) (.slice a t.s.length ca) (.slice b t.d.length cb))
  have HB0 := hide (bnew w (.cells #[.int .i64 t.n, .slice a t.s.length ca, .slice b t.d.length cb] 29))
  have HNS := hide hN
  unfold tV at HC1 ⊢
  rw [hls, hld, hNn] at HC1 HA0 HB0 ⊢
  rw [hNn] at HC2
  have hsub : wrap64 (((redS N (cuL t l) (2 * N)).2 : Int) - (l.length : Int)) = ((redS N (cuL t l) (2 * N)).2 : Int) - (l.length : Int) := by unfold wrap64; omega
  generalize (redS N (cuL t l) (2 * N)).2 = rk at *
  generalize cuL t l = L at *
  have HM0 : Hid (mkG l 0 = mkG (l.drop 0) 0) := hide (by rw [List.drop_zero])
  generalize mkG l 0 = M at *
  obtain ⟨k, hk⟩ : ∃ k, l.length = k := ⟨_, rfl⟩
  have HK := hide hk
  have HIN := hide hin
  have HMK := hide hmk
  rw [hk] at hl hsub HC2 ⊢
  have HSUB := hide hsub
  clear hsub
  clear hcl hcr hcn hrk hin hmk hls hld hNn hrr hc hu h h0 h64 hk hN
  have hsh := shl_one
  have hor := or_run
  obtain ⟨i0, hi, hz0, hz1, hz2⟩ := info_parts infoP3
  have HNC : Hid (∀ V, Below w.heap.size w V -> ∀ i q, l[i]? = some q -> ∃ g off, ao = some ⟨g, off, none⟩ /\ V.cell? ⟨g, off + i, none⟩ = some (.int .i64 q) /\ g < V.heap.size) := hide (fun V hb i q hq => by
    have hne : l ≠ [] := fun e => by rw [e] at hq; simp at hq
    obtain ⟨g, off, e, hc⟩ := (HNS.out.below hb).resolve_left hne
    exact ⟨g, off, e, hc i q hq, World.block_lt_of_cell? _ _ (hc i q hq)⟩)
  rcases Nat.eq_zero_or_pos N with hz | hpos
  . have HZ := hide hz
    clear hz HRS
    go_enter Tryz.func34, Tryz.ntmps34
    go_wp2_with fail
    refine (HC1.out _ HB0.out).mono ?_
    rintro e w1 ⟨rfl, hb1⟩
    have HB1 := hide (bkp HB0.out hb1)
    have HA1 := hide (HA0.out.below hb1)
    clear hb1 HA0 HB0 HC1
    obtain ⟨x0, x1, x2, x3⟩ := HA1.out.cells
    go_wp2_with fail
    refine (HC2.out _ HB1.out).mono ?_
    rintro e w2 ⟨rfl, hb2⟩
    have HI2 : Hid (Below w.heap.size w w2 /\ At3 w2 w.heap.size (.int .i64 (N : Int)) (.slice a N ca) (.slice b N cb)) := hide ⟨bkp HB1.out hb2, HA1.out.below hb2⟩
    clear hb2 HB1 HA1 HC2 x0 x1 x2 x3
    go_wp2_with fail
    go_loopw [6, 7] (fun vm vi wr => ∃ i m : Nat, vm = .int .u64 (m : Int) /\ vi = .int .i64 (i : Int) /\ i <= k /\ m < 18446744073709551616 /\ Hid (M = mkG (l.drop i) m) /\ Hid (Below w.heap.size w wr /\ At3 wr w.heap.size (.int .i64 (N : Int)) (.slice a N ca) (.slice b N cb))) (fun _ vi _ => k - (Go.RowKit.intOf vi).toNat)
    case atStart => exact ⟨0, 0, rfl, rfl, Nat.zero_le _, by decide, HM0, HI2⟩
    case round =>
      obtain ⟨i, m, rfl, rfl, hi', hm, HS, HI⟩ := hrel
      clear HI2 HM0
      by_cases h : i < k
      . have hd : decide ((i : Int) < (k : Int)) = true := decide_eq_true (by omega)
        obtain ⟨q, hq⟩ : ∃ q, l[i]? = some q := ⟨_, List.getElem?_eq_getElem (by rw [HK.out]; exact h)⟩
        have hbd := HIN.out q (List.mem_of_getElem? hq)
        obtain ⟨gq, oq, rfl, a0, a1⟩ := HNC.out _ HI.out.1 i q hq
        have hdr : l.drop i = q :: l.drop (i + 1) := by
          have hlt := (List.getElem?_eq_some_iff.1 hq).1
          have he := (List.getElem?_eq_some_iff.1 hq).2
          rw [List.drop_eq_getElem_cons hlt, he]
        have HS2 : Hid (M = mkG (l.drop (i + 1)) (m ||| 2 ^ q.toNat)) := hide (by rw [HS.out, hdr, mkG])
        obtain ⟨x, rfl⟩ : ∃ x : Nat, q = (x : Int) := ⟨q.toNat, by omega⟩
        rw [Int.toNat_natCast] at HS2
        have hx : x < 64 := by omega
        have hx64 : (x : Int) <= 64 := by omega
        have s1 := hsh x hx
        have o1 := hor m x hm hx
        have hm2 := or_lt64 hm hx
        clear hq hdr HS hbd
        generalize m ||| 2 ^ x = m2 at *
        have o2 : bits .or .u64 (m : Int) ((2 : Int) ^ x) = (m2 : Int) := by rw [show ((2 : Int) ^ x) = ((2 ^ x : Nat) : Int) by simp]; exact o1
        go_wp2_with fail
        go_roundw
        case rel => exact ⟨i + 1, m2, by first | rfl | simp [*], by go_num, by omega, hm2, HS2, HI⟩
        case measure => simp [Go.RowKit.intOf]; omega
      . obtain rfl : k = i := by omega
        have hd : decide ((k : Int) < (k : Int)) = false := decide_eq_false (by omega)
        have hMm : M = m := by rw [HS.out, List.drop_eq_nil_of_le (by rw [HK.out]; omega)]; rfl
        have hMn := hMm.symm
        subst hMn
        clear HS HIN HMK hsh hor
        go_wp2_with fail
        go_loopw [8, 9] (fun vl vi wr => ∃ (i : Nat) (a1 : Option Addr) (c1 : Nat), vl = .slice a1 i c1 /\ vi = .int .i64 (i : Int) /\ i <= N /\ Hid (Gr wr (w.heap.size + 1) a1 c1 (L.take i)) /\ Hid (Below w.heap.size w wr /\ At3 wr w.heap.size (.int .i64 (N : Int)) (.slice a N ca) (.slice b N cb))) (fun _ vi _ => N - (Go.RowKit.intOf vi).toNat)
        case atStart => exact ⟨0, none, 0, rfl, rfl, Nat.zero_le _, hide (Gr.nil _ _), HI⟩
        case round =>
          obtain ⟨i, a1, c1, rfl, rfl, hi2, HG, HI3⟩ := hrel
          clear HI
          have HI := HI3
          clear HI3
          obtain ⟨x0, x1, x2, x3⟩ := HI.out.2.cells
          by_cases h : i < N
          . exact absurd h (by have := HZ.out; omega)
          . obtain rfl : N = i := by omega
            have hd : decide ((N : Int) < (N : Int)) = false := decide_eq_false (by omega)
            have HPI : Hid (PIn wr a1 L) := hide (by have := HG.out.pin.1; rw [HTE.out] at this; exact this)
            go_wp2_with fail
            refine (HC3.out _ _ _ HPI.out).mono ?_
            rintro e w9 ⟨x, y, rfl, hb9⟩
            have HB9 := hide (bkp HI.out.1 hb9)
            clear hb9 HI HPI HG x0 x1 x2 x3
            go_wp2_with fail
            go_ret2
            exact ⟨congrArg (fun z => Ending.returned (Value.tuple #[.int .i64 z, .int .i64 0])) HSUB.out, HB9.out⟩
  . obtain ⟨gs, os, rfl, -⟩ := HRS.out 0 hpos
    have HRS' : Hid (∀ i, i < N -> ∀ V, Below w.heap.size w V -> Pc V gs (os + i * 4) (t.s.getD i oP) /\ gs < V.heap.size) := hide (fun i hi' V hb => by
      obtain ⟨g', o', e, hh⟩ := HRS.out i hi'
      cases e
      exact hh V hb)
    clear HRS hpos
    have HRS := HRS'
    clear HRS'
    go_enter Tryz.func34, Tryz.ntmps34
    go_wp2_with fail
    refine (HC1.out _ HB0.out).mono ?_
    rintro e w1 ⟨rfl, hb1⟩
    have HB1 := hide (bkp HB0.out hb1)
    have HA1 := hide (HA0.out.below hb1)
    clear hb1 HA0 HB0 HC1
    obtain ⟨x0, x1, x2, x3⟩ := HA1.out.cells
    go_wp2_with fail
    refine (HC2.out _ HB1.out).mono ?_
    rintro e w2 ⟨rfl, hb2⟩
    have HI2 : Hid (Below w.heap.size w w2 /\ At3 w2 w.heap.size (.int .i64 (N : Int)) (.slice (some ⟨gs, os, none⟩) N ca) (.slice b N cb)) := hide ⟨bkp HB1.out hb2, HA1.out.below hb2⟩
    clear hb2 HB1 HA1 HC2 x0 x1 x2 x3
    go_wp2_with fail
    go_loopw [6, 7] (fun vm vi wr => ∃ i m : Nat, vm = .int .u64 (m : Int) /\ vi = .int .i64 (i : Int) /\ i <= k /\ m < 18446744073709551616 /\ Hid (M = mkG (l.drop i) m) /\ Hid (Below w.heap.size w wr /\ At3 wr w.heap.size (.int .i64 (N : Int)) (.slice (some ⟨gs, os, none⟩) N ca) (.slice b N cb))) (fun _ vi _ => k - (Go.RowKit.intOf vi).toNat)
    case atStart => exact ⟨0, 0, rfl, rfl, Nat.zero_le _, by decide, HM0, HI2⟩
    case round =>
      obtain ⟨i, m, rfl, rfl, hi', hm, HS, HI⟩ := hrel
      clear HI2 HM0
      by_cases h : i < k
      . have hd : decide ((i : Int) < (k : Int)) = true := decide_eq_true (by omega)
        obtain ⟨q, hq⟩ : ∃ q, l[i]? = some q := ⟨_, List.getElem?_eq_getElem (by rw [HK.out]; exact h)⟩
        have hbd := HIN.out q (List.mem_of_getElem? hq)
        obtain ⟨gq, oq, rfl, a0, a1⟩ := HNC.out _ HI.out.1 i q hq
        have hdr : l.drop i = q :: l.drop (i + 1) := by
          have hlt := (List.getElem?_eq_some_iff.1 hq).1
          have he := (List.getElem?_eq_some_iff.1 hq).2
          rw [List.drop_eq_getElem_cons hlt, he]
        have HS2 : Hid (M = mkG (l.drop (i + 1)) (m ||| 2 ^ q.toNat)) := hide (by rw [HS.out, hdr, mkG])
        obtain ⟨x, rfl⟩ : ∃ x : Nat, q = (x : Int) := ⟨q.toNat, by omega⟩
        rw [Int.toNat_natCast] at HS2
        have hx : x < 64 := by omega
        have hx64 : (x : Int) <= 64 := by omega
        have s1 := hsh x hx
        have o1 := hor m x hm hx
        have hm2 := or_lt64 hm hx
        clear hq hdr HS hbd
        generalize m ||| 2 ^ x = m2 at *
        have o2 : bits .or .u64 (m : Int) ((2 : Int) ^ x) = (m2 : Int) := by rw [show ((2 : Int) ^ x) = ((2 ^ x : Nat) : Int) by simp]; exact o1
        go_wp2_with fail
        go_roundw
        case rel => exact ⟨i + 1, m2, by first | rfl | simp [*], by go_num, by omega, hm2, HS2, HI⟩
        case measure => simp [Go.RowKit.intOf]; omega
      . obtain rfl : k = i := by omega
        have hd : decide ((k : Int) < (k : Int)) = false := decide_eq_false (by omega)
        have hMm : M = m := by rw [HS.out, List.drop_eq_nil_of_le (by rw [HK.out]; omega)]; rfl
        have hMn := hMm.symm
        subst hMn
        clear HS HIN HMK hsh hor
        go_wp2_with fail
        go_loopw [8, 9] (fun vl vi wr => ∃ (i : Nat) (a1 : Option Addr) (c1 : Nat), vl = .slice a1 i c1 /\ vi = .int .i64 (i : Int) /\ i <= N /\ Hid (Gr wr (w.heap.size + 1) a1 c1 (L.take i)) /\ Hid (Below w.heap.size w wr /\ At3 wr w.heap.size (.int .i64 (N : Int)) (.slice (some ⟨gs, os, none⟩) N ca) (.slice b N cb))) (fun _ vi _ => N - (Go.RowKit.intOf vi).toNat)
        case atStart => exact ⟨0, none, 0, rfl, rfl, Nat.zero_le _, hide (Gr.nil _ _), HI⟩
        case round =>
          obtain ⟨i, a1, c1, rfl, rfl, hi2, HG, HI3⟩ := hrel
          clear HI
          have HI := HI3
          clear HI3
          obtain ⟨x0, x1, x2, x3⟩ := HI.out.2.cells
          by_cases h : i < N
          . have hd : decide ((i : Int) < (N : Int)) = true := decide_eq_true (by omega)
            have HP := hide (fun V hb => HRS.out i h V hb)
            have hwd := HWD.out i h
            have HTK' := hide (HTK.out i h)
            have HTL' := hide (HTL.out i (by omega))
            generalize t.s.getD i oP = pp at *
            obtain ⟨pn, px, pz, pf⟩ := pp
            unfold mkP at HTK'
            simp only at HTK' hwd
            have A1 := and_run14 px m hwd.1 hm
            have A2 := and_run14 pz m hwd.2 hm
            have hone := c4_one (⟨(N : Int), px &&& m, pz &&& m, 0⟩ : P)
            have hc4 : c4 (⟨(N : Int), px &&& m, pz &&& m, 0⟩ : P) = [.int .i64 (N : Int), .int .u64 ((px &&& m : Nat) : Int), .int .u64 ((pz &&& m : Nat) : Int), .int .i64 0] := rfl
            have HC4 := hide hc4
            rw [hc4] at hone
            clear hc4 hwd
            generalize px &&& m = qx at *
            generalize pz &&& m = qz at *
            have HOW : Hid (∀ W, Below wr.heap.size wr W -> W.ownsRow (w.heap.size + 1) 25 4 (.slice a1 i c1) i (fl (L.take i))) := hide (fun W hW => by
              have := HG.out.below hW
              unfold Gr at this
              rw [HTL'.out] at this
              exact this)
            obtain ⟨⟨r0, r1, r2, r3⟩, r4⟩ := HP.out _ HI.out.1
            simp only at r0 r1 r2 r3
            go_wp2_with fail
            have HSV : Hid (∀ V, Below (w.heap.size + 1) wr V -> (Below (w.heap.size + 1) wr V /\ (V.cell? ⟨w.heap.size, 0, none⟩ = some (.int .i64 (N : Int)) /\ V.cell? ⟨w.heap.size, 1, none⟩ = some (.slice (some ⟨gs, os, none⟩) N ca)) /\ V.cell? ⟨gs, os + i * 4 + 1, none⟩ = some (.int .u64 (px : Int)) /\ V.cell? ⟨gs, os + i * 4 + 2, none⟩ = some (.int .u64 (pz : Int)) /\ gs < V.heap.size)) := hide (fun V hV => by
              have hat : At3 V w.heap.size (.int .i64 (N : Int)) (.slice (some ⟨gs, os, none⟩) N ca) (.slice b N cb) := (hV.block w.heap.size (by omega)).trans HI.out.2
              obtain ⟨k0, k1, -, -⟩ := hat.cells
              obtain ⟨⟨-, c1', c2', -⟩, c4'⟩ := HP.out V (HI.out.1.trans (hV.mono (by omega)))
              exact ⟨hV, ⟨k0, k1⟩, c1', c2', c4'⟩)
            have HD0 : Hid (Below (w.heap.size + 1) wr wr.drew) := hide (Below.refl _ _).drew
            have hsz : w.heap.size + 1 <= wr.heap.size := HI.out.2.lt
            have HD1 : Hid (∀ o, Below (w.heap.size + 1) wr (wr.alloc o).drew) := hide (fun o => ((bnew wr o).mono hsz).drew)
            have HGL : Hid (∀ k, (Value.slice a1 i c1).ownBlock = some k -> w.heap.size + 1 <= k) := hide (fun k hk => by
              cases a1 with
              | none => cases hk
              | some p => exact (HG.out.lt (show blk (some p) = some k from hk)).1)
            clear r0 r1 r2 r3 r4 x0 x1 x2 x3
            go_region_held3 (fun V => Below (w.heap.size + 1) wr V /\ (V.cell? ⟨w.heap.size, 0, none⟩ = some (.int .i64 (N : Int)) /\ V.cell? ⟨w.heap.size, 1, none⟩ = some (.slice (some ⟨gs, os, none⟩) N ca)) /\ V.cell? ⟨gs, os + i * 4 + 1, none⟩ = some (.int .u64 (px : Int)) /\ V.cell? ⟨gs, os + i * 4 + 2, none⟩ = some (.int .u64 (pz : Int)) /\ gs < V.heap.size)
              (first | exact HSV.out _ HD0.out | exact HSV.out _ (HD1.out _) | exact HSV.out _ (by assumption))
              (first
                | (refine step_append_lies _ rfl (.tmp 38) (.tmp 58) 27 rfl (w.heap.size + 1) 25 i0 _ 4 32 Tryz.underlying27 hi hz0 hz1 hz2 rfl (by decide) (.slice a1 i c1) i (fl (L.take i)) (by simp [Act.eval]) (HOW.out _ (bnew _ _).drew) ⟨wr.heap.size, 0, none⟩ 1 1 [.int .i64 (N : Int), .int .u64 (qx : Int), .int .u64 (qz : Int), .int .i64 0] (by simp [Act.eval]) rfl (World.news_of_block (heap_alloc_new wr _)) hone (by decide) (by unfold maxLen; omega) (by omega) (by simp; omega) _ rfl ?_; intro g7 c7 w7 ho7 hgr7 hat7 hlt7; have hb7 : Below (w.heap.size + 1) wr w7 := (HD1.out _).grown hgr7 (by simp; omega) HGL.out))
            have HG2 : Hid (Gr w7 (w.heap.size + 1) (some ⟨g7, 0, none⟩) c7 (L.take (i + 1))) := hide (by
              rw [← HTK'.out]
              exact Gr.snoc HTL'.out.symm (by rw [HC4.out]; exact ho7))
            have HIn : Hid (Below w.heap.size w w7 /\ At3 w7 w.heap.size (.int .i64 (N : Int)) (.slice (some ⟨gs, os, none⟩) N ca) (.slice b N cb)) := hide ⟨HI.out.1.trans (hb7.mono (by omega)), (hb7.block w.heap.size (by omega)).trans HI.out.2⟩
            clear ho7 hgr7 hat7 hlt7 hb7 HOW HSV HD0 HD1 HGL hone A1 A2 HP HG
            go_wp2_with fail
            go_roundw
            case rel => exact ⟨i + 1, some ⟨g7, 0, none⟩, c7, rfl, by go_num, by omega, HG2, HIn⟩
            case measure => simp [Go.RowKit.intOf]; omega
          . obtain rfl : N = i := by omega
            have hd : decide ((N : Int) < (N : Int)) = false := decide_eq_false (by omega)
            have HPI : Hid (PIn wr a1 L) := hide (by have := HG.out.pin.1; rw [HTE.out] at this; exact this)
            go_wp2_with fail
            refine (HC3.out _ _ _ HPI.out).mono ?_
            rintro e w9 ⟨x, y, rfl, hb9⟩
            have HB9 := hide (bkp HI.out.1 hb9)
            clear hb9 HI HPI HG x0 x1 x2 x3
            go_wp2_with fail
            go_ret2
            exact ⟨congrArg (fun z => Ending.returned (Value.tuple #[.int .i64 z, .int .i64 0])) HSUB.out, HB9.out⟩
theorem dCut (t : TT) (a b : Option Addr) (ca cb : Nat) (l : List Int) (hl : l.length <= 1000000000000000) (ao : Option Addr) (c : Nat) (w : World) (h : Th w t a b ca cb) (hN : Ns w ao l) :
    Calls Tryz.prog 34 #[tV t a b ca cb, .slice ao l.length c] w fun e w' => e = .returned (.tuple #[.int .i64 (cuR t l).1, .int .i64 (cuR t l).2]) /\ Below w.heap.size w w' := by
  by_cases hh : chB t = true /\ ulB t.n l = true
  . have e : cuR t l = (((redS t.n.toNat (cuL t l) (2 * t.n.toNat)).2 : Int) - (l.length : Int), 0) := by unfold cuR; rw [if_pos hh.1, if_pos hh.2]
    rw [e]
    exact dCut_ok t a b ca cb l hl ao c hh.1 hh.2 w h hN
  . exact dCut_no t a b ca cb l hl ao c hh w h hN
end Go.Proofs.YtpehekonjdneaaaGreatDoor.Tbl
