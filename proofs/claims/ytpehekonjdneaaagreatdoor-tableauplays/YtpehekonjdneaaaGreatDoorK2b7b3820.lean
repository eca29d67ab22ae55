import Derived.Test.YtpehekonjdneaaaGreatDoorK9efa4021
set_option maxRecDepth 100000
set_option maxHeartbeats 8000000
namespace Go.Proofs.YtpehekonjdneaaaGreatDoor.Tbl
open Go.RowKit Go.Shelf Go.Proofs.YtpehekonjdneaaaGreatDoor.Pau Go.Proofs.YtpehekonjdneaaaGreatDoor.Gt
theorem dBit (N : Nat) (p : P) (hp : Rr N p) (c : Nat) (hc : c < 2 * N) (w : World) : Calls Tryz.prog 85 #[pV p, .int .i64 (c : Int)] w fun e w' => e = .returned (.bool (bitB N c p)) /\ Below w.heap.size w w' := by
  have hN := hp.n64
  have hw := hp.wd
  have hpn := hp.2
  have b1 := bit_run p.x c hw.1
  have b2 := bit_run p.z (c - N) hw.2
  have r1 := bt_lt p.x c
  have r2 := bt_lt p.z (c - N)
  unfold bitB bitN
  obtain ⟨n, x, z, ph⟩ := p
  simp only at *
  subst hpn
  unfold pV
  simp only
  have HB := hide (bnew w (.cells #[.int .i64 (N : Int), .int .u64 (x : Int), .int .u64 (z : Int), .int .i64 ph] 25))
  clear hp
  by_cases h : c < N
  . rw [if_pos h]
    have d1 : decide ((c : Int) < (N : Int)) = true := decide_eq_true (by omega)
    generalize bt x c = r at *
    have hr : r = 0 ∨ r = 1 := by omega
    clear b2 r1 r2
    rcases hr with rfl | rfl
    all_goals (
      go_enter Tryz.func85, Tryz.ntmps85
      go_wp2_with fail
      go_ret
      exact ⟨rfl, HB.out⟩)
  . rw [if_neg h]
    obtain ⟨d, rfl⟩ : ∃ d, c = N + d := ⟨c - N, by omega⟩
    rw [show N + d - N = d by omega] at b2 r2 ⊢
    have d1 : decide (((N + d : Nat) : Int) < (N : Int)) = false := decide_eq_false (by omega)
    have e1 : wrap64 (((N + d : Nat) : Int) - (N : Int)) = (d : Int) := by unfold wrap64; omega
    have hd64 : (d : Int) <= 64 := by omega
    generalize bt z d = r at *
    have hr : r = 0 ∨ r = 1 := by omega
    clear b1 r1 r2
    rcases hr with rfl | rfl
    all_goals (
      go_enter Tryz.func85, Tryz.ntmps85
      go_wp2_with fail
      go_ret
      exact ⟨rfl, HB.out⟩)
theorem sw_comm {l : List P} {K r : Nat} (hK : K < l.length) (hr : r < l.length) : (l.set K (l.getD r oP)).set r (l.getD K oP) = (l.set r (l.getD K oP)).set K (l.getD r oP) := by
  refine List.ext_getElem? fun j => ?_
  simp only [List.getElem?_set, List.length_set]
  by_cases e1 : r = j <;> by_cases e2 : K = j <;> simp_all
theorem mul_at (l : List P) (q : P) (k : Nat) (T : P -> Bool) (i j : Nat) (hj : j < l.length) (h : i <= j ∨ j = k) : (upd l (mulF q k T) i)[j]? = some (l.getD j oP) := by
  rw [upd_at _ _ _ _ hj]
  by_cases e : j < i
  . have hk : j = k := by omega
    rw [if_pos e]
    unfold mulF
    rw [if_neg (fun h => h.1 hk)]
  . rw [if_neg e]
theorem find_of {N c : Nat} {l : List P} {r K : Nat} (hr : r <= K) (hK : K < l.length) (h0 : ∀ j, r <= j -> j < K -> bitB N c (l.getD j oP) = false) (h1 : bitB N c (l.getD K oP) = true) : (l.drop r).any (bitB N c) = true /\ pvK N c (l, r) = K := by
  have hg : (l.drop r)[K - r]? = some (l.getD K oP) := by rw [List.getElem?_drop, show r + (K - r) = K by omega]; exact get_of hK
  refine ⟨List.any_eq_true.2 ⟨_, List.mem_of_getElem? hg, h1⟩, ?_⟩
  show r + (l.drop r).findIdx (bitB N c) = K
  have e : (l.drop r).findIdx (bitB N c) = K - r := by
    rw [List.findIdx_eq (by rw [List.length_drop]; omega)]
    refine ⟨?_, fun j hj => ?_⟩
    . rw [(List.getElem?_eq_some_iff.1 hg).2]; exact h1
    . have hj2 : (l.drop r)[j]? = some (l.getD (r + j) oP) := by rw [List.getElem?_drop]; exact get_of (by omega)
      rw [(List.getElem?_eq_some_iff.1 hj2).2]
      exact h0 (r + j) (by omega) (by omega)
  omega
theorem none_of {N c : Nat} {l : List P} {r : Nat} (h0 : ∀ j, r <= j -> j < l.length -> bitB N c (l.getD j oP) = false) : ¬ (l.drop r).any (bitB N c) = true := fun h => by
  obtain ⟨x, hx, hb⟩ := List.any_eq_true.1 h
  obtain ⟨j, hj, e⟩ := List.mem_iff_getElem.1 hx
  have hj' := hj
  rw [List.length_drop] at hj'
  have : (l.drop r)[j]? = some (l.getD (r + j) oP) := by rw [List.getElem?_drop]; exact get_of (by omega)
  rw [(List.getElem?_eq_some_iff.1 this).2] at e
  rw [← e, h0 (r + j) (by omega) (by omega)] at hb
  cases hb
theorem dReduced (N : Nat) (l : List P) (hl : ∀ p ∈ l, Rr N p) (hN : N <= 64) (hn : l.length <= 64) (h0 : 0 < l.length) (ao : Option Addr) (cc : Nat) (w : World) (hI : PIn w ao l) :
    Calls Tryz.prog 62 #[.slice ao l.length cc, .int .i64 (N : Int)] w fun e w' => ∃ g c', e = .returned (.slice (some ⟨g, 0, none⟩) (redS N l (2 * N)).2 c') /\ PO w' g (redS N l (2 * N)).1 /\ w.heap.size <= g /\ (redS N l (2 * N)).2 <= c' /\ Below w.heap.size w w' := by
  have HR : Hid (∀ c, (redS N l c).1.length = l.length /\ (redS N l c).2 <= l.length /\ ∀ p ∈ (redS N l c).1, Rr N p) := hide (fun c => ⟨redS_len _ _ _, redS_rank _ _ _, redS_rr hl c⟩)
  have HSU : Hid (∀ c, redS N l (c + 1) = redC N c (redS N l c)) := hide (fun c => rfl)
  have HS0 : Hid (redS N l 0 = (l, 0)) := hide rfl
  have HST : Hid (∀ c, (redS N l c).2 = l.length -> ∀ d, (redS N l (c + d)) = redS N l c) := hide (fun c hc d => by
    induction d with
    | zero => rfl
    | succ d ih =>
      rw [show c + (d + 1) = c + d + 1 by omega, redS, ih]
      unfold redC
      rw [if_neg]
      rw [List.drop_eq_nil_of_le (by rw [redS_len]; omega)]
      simp)
  have HBT : Hid (∀ p, Rr N p -> ∀ c, c < 2 * N -> ∀ W, Calls Tryz.prog 85 #[pV p, .int .i64 (c : Int)] W fun e w' => e = .returned (.bool (bitB N c p)) /\ Below W.heap.size W w') := hide (fun p hp c hc W => dBit N p hp c hc W)
  have HTM : Hid (∀ p q, Rr N p -> Rr N q -> ∀ W, Calls Tryz.prog 52 #[pV p, pV q] W fun e w' => e = .returned (pV (pdP p q)) /\ Below W.heap.size W w') := hide (fun p q hp hq W => dTimes p q hp.wd hq.wd W)
  have HL : Hid (l.length = l.length) := hide rfl
  have HLE := hide (And.intro h0 hn)
  have HP := hide hI
  obtain ⟨n, hnn⟩ : ∃ n, l.length = n := ⟨_, rfl⟩
  have HNL := hide hnn
  rw [hnn] at h0 hn HR HST ⊢
  clear hI hl hnn HL HLE
  have hr0 : (redS N l 0).2 = 0 := by rw [HS0.out]
  generalize redS N l = S at *
  have h2n : wrap64 (2 * (N : Int)) = ((2 * N : Nat) : Int) := by unfold wrap64; omega
  go_enter Tryz.func62, Tryz.ntmps62
  go_wp2_with (at_builtin; refine app_rowP rfl _ _ rfl rfl ao cc l n w.heap.size HNL.out rfl HP.out (by omega) rfl ?_)
  intro ao1 c1 w1 hp1 hc1 hb1
  obtain ⟨g, rfl, hg, hpo⟩ := get_some hp1 (by rw [HNL.out]; exact h0)
  have HI0 : Hid (Below w.heap.size w w1 /\ PO w1 g (S 0).1) := hide ⟨hb1, by rw [HS0.out]; exact hpo⟩
  have HC := hide (And.intro hc1 hg)
  clear hp1 hc1 hb1 hg hpo HP
  go_wp2_with fail
  go_loopw [6, 7] (fun va vc wr => ∃ c : Nat, va = .int .i64 ((S c).2 : Int) /\ vc = .int .i64 (c : Int) /\ c <= 2 * N /\ Hid (Below w.heap.size w wr /\ PO wr g (S c).1)) (fun _ vc _ => 2 * N - (Go.RowKit.intOf vc).toNat)
  case atStart => exact ⟨0, by rw [hr0]; rfl, rfl, Nat.zero_le _, HI0⟩
  case round =>
    obtain ⟨c, rfl, rfl, hc, HI⟩ := hrel
    clear HI0 hr0
    obtain ⟨q1, q2, q3⟩ := HR.out c
    have HST' := hide (HST.out c)
    have HSU' := hide (HSU.out c)
    by_cases hlt : c < 2 * N
    . by_cases hrn : (S c).2 < n
      . have HN0 : Hid ((∀ j, (S c).2 <= j -> j < n -> bitB N c ((S c).1.getD j oP) = false) -> S (c + 1) = S c) := hide (fun hh => by
          rw [HSU'.out]
          exact red_none (l := (S c).1) (r := (S c).2) (none_of (fun j h1 h2 => hh j h1 (by omega))))
        have HN1 : Hid (∀ K, (S c).2 <= K -> K < n -> (∀ j, (S c).2 <= j -> j < K -> bitB N c ((S c).1.getD j oP) = false) -> bitB N c ((S c).1.getD K oP) = true -> S (c + 1) = (mlL (((S c).1.set K ((S c).1.getD (S c).2 oP)).set (S c).2 ((S c).1.getD K oP)) ((S c).1.getD K oP) (S c).2 (bitB N c), (S c).2 + 1)) := hide (fun K h1 h2 h3 h4 => by
          have hf := find_of h1 (by omega) h3 h4
          rw [HSU'.out, sw_comm (by omega) (by omega)]
          have := red_some (l := (S c).1) (r := (S c).2) hf.1
          rw [hf.2] at this
          exact this)
        have HRW : Hid (∀ j, j < n -> Rr N ((S c).1.getD j oP)) := hide (fun j hj => rr_at q3 (by omega))
        have d1 : decide ((c : Int) < ((2 * N : Nat) : Int)) = true := decide_eq_true (by omega)
        have d2 : decide (((S c).2 : Int) < (n : Int)) = true := decide_eq_true (by omega)
        have HML : Hid ((S c).1.length = n) := hide q1
        clear HSU HSU' HST HST' HR HS0 q1 q3
        generalize S c = s at *
        obtain ⟨m, r⟩ := s
        simp only at *
        go_wp2_with fail
        go_loopw [8] (fun vk w2 => ∃ K : Nat, vk = .int .i64 (K : Int) /\ r <= K /\ K <= n /\ Hid (∀ j, r <= j -> j < K -> bitB N c (m.getD j oP) = false) /\ Hid (Below w.heap.size w w2 /\ PO w2 g m)) (fun vk _ => n - (Go.RowKit.intOf vk).toNat)
        case atStart => exact ⟨r, rfl, Nat.le_refl _, by omega, hide (fun j h1 h2 => by omega), HI⟩
        case round =>
          obtain ⟨K, rfl, hrK, hKn, HB0, HIk⟩ := hrel
          clear HI
          by_cases hk : K < n
          . have dk : decide ((K : Int) < (n : Int)) = true := decide_eq_true (by omega)
            have dk2 : ((K : Int) == (n : Int)) = false := beq_false_of_ne (by omega)
            have cb := HBT.out _ (HRW.out K hk) c hlt
            obtain ⟨bK, hbK⟩ : ∃ x, bitB N c (m.getD K oP) = x := ⟨_, rfl⟩
            rw [hbK] at cb
            have HbK := hide hbK
            have HPK : Hid (∀ V, PO V g m -> Pc V g (K * 4) (m.getD K oP)) := hide (fun V ho => ho.at (get_of (by rw [HML.out]; exact hk)))
            have HPr : Hid (∀ V, PO V g m -> Pc V g (r * 4) (m.getD r oP)) := hide (fun V ho => ho.at (get_of (by rw [HML.out]; omega)))
            clear hbK
            cases bK with
            | false =>
              have HBN : Hid (∀ j, r <= j -> j < K + 1 -> bitB N c (m.getD j oP) = false) := hide (fun j h1 h2 => by
                by_cases e : j = K
                . rw [e]; exact HbK.out
                . exact HB0.out j h1 (by omega))
              clear HbK HB0 HN0 HN1 HPr
              generalize m.getD K oP = pk at *
              obtain ⟨mK, xK, zK, fK⟩ := pk
              obtain ⟨a0, a1, a2, a3⟩ := HPK.out _ HIk.out.2
              have kl := HIk.out.2.lt
              unfold pV at cb
              simp only at a0 a1 a2 a3 cb
              go_wp2_with fail
              refine (cb _).mono ?_
              rintro e w3 ⟨rfl, hb3⟩
              have HI3 := hide (And.intro (bkp HIk.out.1 hb3) (HIk.out.2.below hb3))
              clear hb3 HIk a0 a1 a2 a3 kl cb
              go_wp2_with fail
              go_roundw
              case rel => exact ⟨K + 1, by go_num, by omega, by omega, HBN, HI3⟩
              case measure => simp [Go.RowKit.intOf]; omega
            | true =>
              have HNX := hide (HN1.out K hrK hk HB0.out HbK.out)
              have hRK := HRW.out K hk
              have hRr := HRW.out r (by omega)
              have HRM : Hid (∀ j, j < n -> Rr N (((m.set K (m.getD r oP)).set r (m.getD K oP)).getD j oP)) := hide (fun j hj => by
                rw [getD_set _ (by rw [List.length_set, HML.out]; exact hj), getD_set _ (by rw [HML.out]; exact hj)]
                split
                . exact hRK
                . split
                  . exact hRr
                  . exact HRW.out j hj)
              have HMr : Hid (((m.set K (m.getD r oP)).set r (m.getD K oP)).getD r oP = m.getD K oP) := hide (by rw [getD_set _ (by rw [List.length_set, HML.out]; omega), if_pos rfl])
              have HMM : Hid (((m.set K (m.getD r oP)).set r (m.getD K oP)).length = n) := hide (by rw [List.length_set, List.length_set, HML.out])
              have HSK : Hid (∀ V, PO V g m -> PO (set4 V g (K * 4) (m.getD r oP)) g (m.set K (m.getD r oP))) := hide (fun V ho => ho.set _)
              have HSr : Hid (∀ V, PO V g (m.set K (m.getD r oP)) -> PO (set4 V g (r * 4) (m.getD K oP)) g ((m.set K (m.getD r oP)).set r (m.getD K oP))) := hide (fun V ho => ho.set _)
              have HOr : Hid (∃ y, ∀ V, PO V g (m.set K (m.getD r oP)) -> Pc V g (r * 4) y) := hide ⟨_, fun V ho => ho.at (get_of (by rw [List.length_set, HML.out]; omega))⟩
              have HTM' := hide (fun j (hj : j < n) => HTM.out _ _ (HRM.out j hj) hRK)
              have HBT' := hide (fun j (hj : j < n) => HBT.out _ (HRM.out j hj) c hlt)
              clear HbK HB0 HN0 HN1 hRK hRr HRW HTM HBT HRM
              generalize (m.set K (m.getD r oP)).set r (m.getD K oP) = M at *
              generalize m.set K (m.getD r oP) = M1 at *
              generalize m.getD K oP = pk at *
              generalize m.getD r oP = pr at *
              obtain ⟨mK, xK, zK, fK⟩ := pk
              obtain ⟨mR, xR, zR, fR⟩ := pr
              obtain ⟨⟨mo, xo, zo, fo⟩, HOr2⟩ := HOr.out
              have HOR := hide HOr2
              clear HOr2 HOr
              obtain ⟨a0, a1, a2, a3⟩ := HPK.out _ HIk.out.2
              have kl := HIk.out.2.lt
              unfold pV at cb
              simp only at a0 a1 a2 a3 cb
              go_wp2_with fail
              refine (cb _).mono ?_
              rintro e w3 ⟨rfl, hb3⟩
              have HI3 := hide (And.intro (bkp HIk.out.1 hb3) (HIk.out.2.below hb3))
              clear hb3 HIk a0 a1 a2 a3 kl cb
              obtain ⟨a0, a1, a2, a3⟩ := HPK.out _ HI3.out.2
              have kl := HI3.out.2.lt
              simp only at a0 a1 a2 a3
              have hbn := bnew w3 (.cells #[.int .i64 mK, .int .u64 (xK : Int), .int .u64 (zK : Int), .int .i64 fK] 25)
              have HI4 := hide (And.intro (bkp HI3.out.1 hbn) (And.intro (HI3.out.2.below hbn) (At4.new w3 (.int .i64 mK) (.int .u64 (xK : Int)) (.int .u64 (zK : Int)) (.int .i64 fK))))
              have HGX : Hid (w3.heap.size ≠ g) := hide (by omega)
              clear hbn
              go_upto_region 12 with fail
              generalize w3.alloc (.cells #[.int .i64 mK, .int .u64 (xK : Int), .int .u64 (zK : Int), .int .i64 fK] 25) = V1 at *
              generalize w3.heap.size = gx at *
              clear a0 a1 a2 a3 kl HI3
              obtain ⟨a0, a1, a2, a3⟩ := HPK.out _ HI4.out.2.1
              obtain ⟨b0, b1, b2, b3⟩ := HPr.out _ HI4.out.2.1
              have ff := HI4.out.2.1.fz
              have kl := HI4.out.2.1.lt
              simp only at a0 a1 a2 a3 b0 b1 b2 b3
              have HI5 : Hid (Below w.heap.size w (set4 V1 g (K * 4) ⟨mR, xR, zR, fR⟩) /\ PO (set4 V1 g (K * 4) ⟨mR, xR, zR, fR⟩) g M1 /\ At4 (set4 V1 g (K * 4) ⟨mR, xR, zR, fR⟩) gx (.int .i64 mK) (.int .u64 (xK : Int)) (.int .u64 (zK : Int)) (.int .i64 fK)) := hide ⟨below_set4 HI4.out.1 HC.out.2, HSK.out _ HI4.out.2.1, At4.off4 HI4.out.2.2 HGX.out⟩
              unfold set4 at HI5
              go_upto_region 13 with fail
              generalize (((V1.setCell ⟨g, K * 4, none⟩ (.int .i64 mR)).setCell ⟨g, K * 4 + 1, none⟩ (.int .u64 (xR : Int))).setCell ⟨g, K * 4 + 2, none⟩ (.int .u64 (zR : Int))).setCell ⟨g, K * 4 + 3, none⟩ (.int .i64 fR) = V2 at *
              clear a0 a1 a2 a3 b0 b1 b2 b3 ff kl HI4
              obtain ⟨a0, a1, a2, a3⟩ := HOR.out _ HI5.out.2.1
              obtain ⟨b0, b1, b2, b3, b4⟩ := HI5.out.2.2.cells
              have ff := HI5.out.2.1.fz
              have kl := HI5.out.2.1.lt
              simp only at a0 a1 a2 a3
              have HI6 : Hid (Below w.heap.size w (set4 V2 g (r * 4) ⟨mK, xK, zK, fK⟩) /\ PO (set4 V2 g (r * 4) ⟨mK, xK, zK, fK⟩) g M) := hide ⟨below_set4 HI5.out.1 HC.out.2, HSr.out _ HI5.out.2.1⟩
              unfold set4 at HI6
              go_upto_region 14 with fail
              generalize (((V2.setCell ⟨g, r * 4, none⟩ (.int .i64 mK)).setCell ⟨g, r * 4 + 1, none⟩ (.int .u64 (xK : Int))).setCell ⟨g, r * 4 + 2, none⟩ (.int .u64 (zK : Int))).setCell ⟨g, r * 4 + 3, none⟩ (.int .i64 fK) = V3 at *
              clear a0 a1 a2 a3 b0 b1 b2 b3 b4 ff kl HI5 HPK HPr HSK HSr HOR
              have HU0 : Hid (upd M (mulF ⟨mK, xK, zK, fK⟩ r (bitB N c)) 0 = M) := hide (upd_zero _ _)
              have HUE : Hid (upd M (mulF ⟨mK, xK, zK, fK⟩ r (bitB N c)) n = mlL M ⟨mK, xK, zK, fK⟩ r (bitB N c)) := hide (by unfold mlL; rw [HMM.out])
              have HUA : Hid (∀ i j, j < n -> (i <= j ∨ j = r) -> (upd M (mulF ⟨mK, xK, zK, fK⟩ r (bitB N c)) i)[j]? = some (M.getD j oP)) := hide (fun i j hj hh => mul_at _ _ _ _ _ _ (by rw [HMM.out]; exact hj) hh)
              have HUS : Hid (∀ i, i ≠ r -> bitB N c (M.getD i oP) = true -> (upd M (mulF ⟨mK, xK, zK, fK⟩ r (bitB N c)) i).set i (pdP (M.getD i oP) ⟨mK, xK, zK, fK⟩) = upd M (mulF ⟨mK, xK, zK, fK⟩ r (bitB N c)) (i + 1)) := hide (fun i h1 h2 => mul_step _ _ _ _ _ h1 h2)
              have HUB : Hid (∀ i, (i = r ∨ bitB N c (M.getD i oP) = false) -> upd M (mulF ⟨mK, xK, zK, fK⟩ r (bitB N c)) (i + 1) = upd M (mulF ⟨mK, xK, zK, fK⟩ r (bitB N c)) i) := hide (fun i h1 => mul_stay _ _ _ _ _ h1)
              generalize upd M (mulF ⟨mK, xK, zK, fK⟩ r (bitB N c)) = U at *
              generalize mlL M ⟨mK, xK, zK, fK⟩ r (bitB N c) = ML at *
              go_wp2_with fail
              go_loopw [10] (fun vi w5 => ∃ i : Nat, vi = .int .i64 (i : Int) /\ i <= n /\ Hid (Below w.heap.size w w5 /\ PO w5 g (U i))) (fun vi _ => n - (Go.RowKit.intOf vi).toNat)
              case atStart => exact ⟨0, rfl, Nat.zero_le _, hide ⟨HI6.out.1, by rw [HU0.out]; exact HI6.out.2⟩⟩
              case round =>
                obtain ⟨i, rfl, hi, HIi⟩ := hrel
                clear HI6 HU0
                by_cases hin : i < n
                . have di : decide ((i : Int) < (n : Int)) = true := decide_eq_true (by omega)
                  by_cases eir : i = r
                  . have e1 : ((i : Int) != (r : Int)) = false := by rw [eir]; simp
                    have HU := hide (HUB.out i (.inl eir))
                    clear eir
                    go_wp2_with fail
                    go_roundw
                    case rel => exact ⟨i + 1, by go_num, by omega, hide ⟨HIi.out.1, by rw [HU.out]; exact HIi.out.2⟩⟩
                    case measure => simp [Go.RowKit.intOf]; omega
                  . have e1 : ((i : Int) != (r : Int)) = true := bne_iff_ne.2 (by omega)
                    have cb := HBT'.out i hin
                    have ct := HTM'.out i hin
                    have hus := HUS.out i eir
                    have hub := HUB.out i
                    have HPi : Hid (∀ V, PO V g (U i) -> Pc V g (i * 4) (M.getD i oP) /\ Pc V g (r * 4) ⟨mK, xK, zK, fK⟩) := hide (fun V ho => ⟨ho.at (HUA.out i i hin (.inl (Nat.le_refl _))), by have := ho.at (HUA.out i r (by omega) (.inr rfl)); rw [HMr.out] at this; exact this⟩)
                    generalize pdP (M.getD i oP) ⟨mK, xK, zK, fK⟩ = QI at *
                    obtain ⟨bI, hbI⟩ : ∃ x, bitB N c (M.getD i oP) = x := ⟨_, rfl⟩
                    rw [hbI] at cb hus hub
                    clear hbI
                    generalize M.getD i oP = pi at *
                    obtain ⟨mI, xI, zI, fI⟩ := pi
                    obtain ⟨mQ, xQ, zQ, fQ⟩ := QI
                    unfold pV at cb ct
                    simp only at cb ct
                    obtain ⟨⟨a0, a1, a2, a3⟩, -⟩ := HPi.out _ HIi.out.2
                    have kl := HIi.out.2.lt
                    simp only at a0 a1 a2 a3
                    go_wp2_with fail
                    refine (cb _).mono ?_
                    rintro e w6 ⟨rfl, hb6⟩
                    have HI7 := hide (And.intro (bkp HIi.out.1 hb6) (HIi.out.2.below hb6))
                    clear hb6 HIi a0 a1 a2 a3 kl cb
                    cases bI with
                    | false =>
                      have HU := hide (hub (.inr rfl))
                      clear hus hub
                      go_wp2_with fail
                      go_roundw
                      case rel => exact ⟨i + 1, by go_num, by omega, hide ⟨HI7.out.1, by rw [HU.out]; exact HI7.out.2⟩⟩
                      case measure => simp [Go.RowKit.intOf]; omega
                    | true =>
                      have HU := hide (hus rfl)
                      clear hus hub
                      go_wp2_with fail
                      have HCC : Hid (∀ W, Below w6.heap.size w6 W -> Pc W g (i * 4) ⟨mI, xI, zI, fI⟩ /\ Pc W g (r * 4) ⟨mK, xK, zK, fK⟩ /\ g < W.heap.size) := hide (fun W hW => ⟨(HPi.out W (HI7.out.2.below hW)).1, (HPi.out W (HI7.out.2.below hW)).2, (HI7.out.2.below hW).lt⟩)
                      refine wp_region_quiet_last (C := fun W => Below w6.heap.size w6 W) (by kernel_rfl) 12 rfl (by kernel_rfl) (by kernel_rfl) (bdrew (Below.refl _ _) 1) ?_
                      simp only [List.take_succ_cons, List.take_zero]
                      repeat
                        refine wpQuiet_step (fun K hK => ?_)
                        go_simp
                        first
                          | (refine hK _ ?_; clear hK K)
                          | (apply Exists.intro
                             refine ⟨fun W hW => ?_, hK _ ?_⟩
                             first
                               | ((with_reducible refine Calls.mono (ct _) ?_); rintro e x ⟨rfl, hb⟩; exact ⟨rfl, bkp hW hb⟩)
                               | (obtain ⟨⟨a0, a1, a2, a3⟩, ⟨b0, b1, b2, b3⟩, e2⟩ := HCC.out W hW; go_simp; rfl)
                             clear hK K)
                      refine wpQuiet_nil ?_
                      intro W hW
                      have HX : Hid (Below w.heap.size w (set4 W g (i * 4) ⟨mQ, xQ, zQ, fQ⟩) /\ PO (set4 W g (i * 4) ⟨mQ, xQ, zQ, fQ⟩) g (U (i + 1))) := hide ⟨below_set4 (bkp HI7.out.1 hW) HC.out.2, by
                        have := (HI7.out.2.below hW).set (i := i) ⟨mQ, xQ, zQ, fQ⟩
                        rw [HU.out] at this
                        exact this⟩
                      obtain ⟨⟨a0, a1, a2, a3⟩, -⟩ := HPi.out _ (HI7.out.2.below hW)
                      have ff := (HI7.out.2.below hW).fz
                      have kl := (HI7.out.2.below hW).lt
                      simp only at a0 a1 a2 a3
                      clear hW HCC HI7 HPi
                      go_wp2_with fail
                      go_roundw
                      case rel => exact ⟨i + 1, by go_num, by omega, HX⟩
                      case measure => simp [Go.RowKit.intOf]; omega
                . obtain rfl : n = i := by omega
                  have di : decide ((n : Int) < (n : Int)) = false := decide_eq_false (by omega)
                  go_wp2_with fail
                  go_roundw
                  case rel => exact ⟨c + 1, by rw [HNX.out]; go_num, by go_num, by omega, hide ⟨HIi.out.1, by rw [HNX.out, ← HUE.out]; exact HIi.out.2⟩⟩
                  case measure => simp [Go.RowKit.intOf]; omega
          . obtain rfl : n = K := by omega
            have dk : decide ((n : Int) < (n : Int)) = false := decide_eq_false (by omega)
            have dk2 : ((n : Int) == (n : Int)) = true := by simp
            have HNX := hide (HN0.out HB0.out)
            go_wp2_with fail
            go_roundw
            case rel => exact ⟨c + 1, by rw [HNX.out], by go_num, by omega, hide ⟨HIk.out.1, by rw [HNX.out]; exact HIk.out.2⟩⟩
            case measure => simp [Go.RowKit.intOf]; omega
      . have er : (S c).2 = n := by omega
        have HE : Hid (S (2 * N) = S c) := hide (by
          have := HST'.out er (2 * N - c)
          rw [show c + (2 * N - c) = 2 * N by omega] at this
          exact this)
        have d1 : decide ((c : Int) < ((2 * N : Nat) : Int)) = true := decide_eq_true (by omega)
        have d2 : decide (((S c).2 : Int) < (n : Int)) = false := decide_eq_false (by omega)
        have HQ : Hid ((S c).2 <= n) := hide q2
        generalize S c = s at *
        obtain ⟨m, r⟩ := s
        simp only at *
        have hr1 : r <= c1 := by have h7 := HQ.out; have h8 := HC.out.1; omega
        first | clear er | skip
        go_wp2_with fail
        go_ret
        exact ⟨g, c1, by rw [HE.out]; rfl, by rw [HE.out]; exact HI.out.2, HC.out.2, by rw [HE.out]; exact hr1, HI.out.1⟩
    . have ec : c = 2 * N := by omega
      have HQ : Hid ((S c).2 <= n) := hide q2
      have d1 : decide ((c : Int) < ((2 * N : Nat) : Int)) = false := decide_eq_false (by omega)
      have HE : Hid (S (2 * N) = S c) := hide (by rw [ec])
      generalize S c = s at *
      obtain ⟨m, r⟩ := s
      simp only at *
      have hr1 : r <= c1 := by have h7 := HQ.out; have h8 := HC.out.1; omega
      first | clear er | skip
      go_wp2_with fail
      go_ret
      exact ⟨g, c1, by rw [HE.out]; rfl, by rw [HE.out]; exact HI.out.2, HC.out.2, by rw [HE.out]; exact hr1, HI.out.1⟩
end Go.Proofs.YtpehekonjdneaaaGreatDoor.Tbl
