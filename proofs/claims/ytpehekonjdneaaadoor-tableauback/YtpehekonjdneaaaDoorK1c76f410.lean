import Derived.Test.YtpehekonjdneaaaDoorK1255b1c2
set_option maxRecDepth 100000
set_option maxHeartbeats 8000000
namespace Go.Proofs.YtpehekonjdneaaaDoor.Tbl
open Go.RowKit Go.Proofs.YtpehekonjdneaaaDoor.Pau Go.Proofs.YtpehekonjdneaaaDoor.Gt
def chI (t : TT) : Int := if chB t = true then 0 else 140
theorem ch_size {t : TT} (h : chB t = true) : szB t = true := by
  unfold chB at h
  simp only [Bool.and_eq_true] at h
  exact h.1.1
theorem sz_of {t : TT} (h : szB t = true) : 0 <= t.n /\ t.n <= 64 /\ t.s.length = t.n.toNat /\ t.d.length = t.n.toNat := by
  have := of_decide_eq_true h
  omega
theorem ch_no {t : TT} (h : szB t = false) : chI t = 140 := by
  unfold chI
  rw [if_neg]
  intro e
  rw [ch_size e] at h
  cases h
theorem tCheck_sz (t : TT) (a b : Option Addr) (ca cb : Nat) (hz : szB t = false) (w : World) :
    Calls Tryd.prog 10 #[tV t a b ca cb] w fun e w' => e = .returned (.int .i64 140) /\ Below w.heap.size w w' := by
  have hz' := of_decide_eq_false hz
  unfold tV
  generalize t.s.length = ns at *
  generalize t.d.length = nd at *
  obtain ⟨n, sl, dl⟩ := t
  simp only at *
  clear hz
  have HB := hide (bnew w (.cells #[.int .i64 n, .slice a ns ca, .slice b nd cb] 24))
  by_cases h1 : n < 0
  . have d1 : decide (n < 0) = true := decide_eq_true h1
    clear hz'
    go_enter Tryd.func10, Tryd.ntmps10
    go_wp2_with fail
    go_ret
    exact ⟨rfl, HB.out⟩
  . have d1 : decide (n < 0) = false := decide_eq_false h1
    by_cases h2 : 64 < n
    . have d2 : decide (64 < n) = true := decide_eq_true h2
      clear hz'
      go_enter Tryd.func10, Tryd.ntmps10
      go_wp2_with fail
      go_ret
      exact ⟨rfl, HB.out⟩
    . have d2 : decide (64 < n) = false := decide_eq_false h2
      by_cases h3 : (ns : Int) = n
      . have d3 : ((ns : Int) != n) = false := by simpa using h3
        have d4 : ((nd : Int) != n) = true := by
          have : ¬ (nd : Int) = n := fun e => hz' ⟨by omega, by omega, h3, e⟩
          simpa using this
        clear hz' h3
        go_enter Tryd.func10, Tryd.ntmps10
        go_wp2_with fail
        go_ret
        exact ⟨rfl, HB.out⟩
      . have d3 : ((ns : Int) != n) = true := by simpa using h3
        clear hz' h3
        go_enter Tryd.func10, Tryd.ntmps10
        go_wp2_with fail
        go_ret
        exact ⟨rfl, HB.out⟩
theorem all_range {f : Nat -> Bool} {n : Nat} : (List.range n).all f = true ↔ ∀ k, k < n -> f k = true := by
  rw [List.all_eq_true]
  exact ⟨fun h k hk => h k (List.mem_range.2 hk), fun h k hk => h k (List.mem_range.1 hk)⟩
theorem ch_iff {t : TT} : chB t = true ↔ szB t = true /\ (∀ k, k < t.n.toNat -> sg2 t k = true) /\ ∀ i, i < t.n.toNat -> ∀ j, j < t.n.toNat -> prB t i j = true := by
  unfold chB
  rw [Bool.and_eq_true, Bool.and_eq_true, all_range, all_range, and_assoc]
  simp only [all_range]
theorem chI_no {t : TT} (h : ¬ chB t = true) : chI t = 140 := if_neg h
theorem tCheck (t : TT) (a b : Option Addr) (ca cb : Nat) (w : World) (h : Th w t a b ca cb) :
    Calls Tryd.prog 10 #[tV t a b ca cb] w fun e w' => e = .returned (.int .i64 (chI t)) /\ Below w.heap.size w w' := by
  cases hz : szB t with
  | false =>
    rw [ch_no hz]
    exact tCheck_sz t a b ca cb hz w
  | true =>
    obtain ⟨h0, h64, hls, hld⟩ := sz_of hz
    obtain ⟨N, hN⟩ : ∃ N : Nat, t.n = (N : Int) := ⟨t.n.toNat, by omega⟩
    rw [hN, Int.toNat_natCast] at hls hld
    have hN64 : N <= 64 := by omega
    have HG : Hid (∀ k, k < N -> ∀ W, Below w.heap.size w W -> (∃ gs os, a = some ⟨gs, os, none⟩ /\ gs < W.heap.size /\ Pc W gs (os + k * 4) (t.s.getD k oP)) /\ (∃ gd od, b = some ⟨gd, od, none⟩ /\ gd < W.heap.size /\ Pc W gd (od + k * 4) (t.d.getD k oP))) := hide (fun k hk W hb => ⟨(h.s.below hb).at (get_of (by omega)), (h.d.below hb).at (get_of (by omega))⟩)
    have HS1 : Hid (∀ k, k < N -> ∀ W, Calls Tryd.prog 25 #[pV (t.s.getD k oP), .int .i64 (N : Int)] W fun e w' => e = .returned (.bool (sgB (t.s.getD k oP) t.n)) /\ Below W.heap.size W w') := hide (fun k hk W => by rw [hN]; exact tSigned _ (h.ws.getD (by omega)) _ W)
    have HS2 : Hid (∀ k, k < N -> ∀ W, Calls Tryd.prog 25 #[pV (t.d.getD k oP), .int .i64 (N : Int)] W fun e w' => e = .returned (.bool (sgB (t.d.getD k oP) t.n)) /\ Below W.heap.size W w') := hide (fun k hk W => by rw [hN]; exact tSigned _ (h.wd.getD (by omega)) _ W)
    have HP : Hid (∀ i j, i < N -> j < N -> ∀ W, Below w.heap.size w W -> Calls Tryd.prog 26 #[.agg #[.int .i64 (N : Int), .slice a N ca, .slice b N cb], .int .i64 (i : Int), .int .i64 (j : Int)] W fun e w' => e = .returned (.bool (prB t i j)) /\ Below W.heap.size W w') := hide (fun i j hi hj W hb => by
      have := tPaired t a b ca cb i j (by omega) (by omega) (by omega) (by omega) W (h.below hb)
      unfold tV at this
      rw [hN, hls, hld] at this
      exact this)
    have HI : Hid ((∀ k, k < N -> sg2 t k = true) -> (∀ i, i < N -> ∀ j, j < N -> prB t i j = true) -> chI t = 0) := hide (fun h1 h2 => by
      unfold chI
      exact if_pos (ch_iff.2 ⟨hz, by rw [hN]; exact h1, by rw [hN]; exact h2⟩))
    have HN1 : Hid (∀ k, k < N -> sg2 t k = false -> chI t = 140) := hide (fun k hk e => chI_no (fun hc => by have := (ch_iff.1 hc).2.1 k (by omega); rw [e] at this; cases this))
    have HN2 : Hid (∀ i j, i < N -> j < N -> prB t i j = false -> chI t = 140) := hide (fun i j hi hj e => chI_no (fun hc => by have := (ch_iff.1 hc).2.2 i (by omega) j (by omega); rw [e] at this; cases this))
    have HSG : Hid (∀ k, sg2 t k = (sgB (t.s.getD k oP) t.n && sgB (t.d.getD k oP) t.n)) := hide (fun k => rfl)
    unfold tV
    rw [hN, hls, hld]
    generalize chI t = R at *
    generalize t.n = tn at *
    clear h hz h0 h64 hls hld hN
    have HB := hide (bnew w (.cells #[.int .i64 (N : Int), .slice a N ca, .slice b N cb] 24))
    have HA := hide (At3.new w (.int .i64 (N : Int)) (.slice a N ca) (.slice b N cb))
    have d2 : decide (64 < (N : Int)) = false := decide_eq_false (by omega)
    have d3 : ((N : Int) != (N : Int)) = false := by simp
    go_enter Tryd.func10, Tryd.ntmps10
    go_wp2_with fail
    go_loopw [32] (fun vi wr => ∃ i : Nat, vi = .int .i64 (i : Int) /\ i <= N /\ Hid (∀ k, k < i -> sg2 t k = true) /\ Hid (Below w.heap.size w wr /\ At3 wr w.heap.size (.int .i64 (N : Int)) (.slice a N ca) (.slice b N cb))) (fun vi _ => N - (Go.RowKit.intOf vi).toNat)
    case atStart => exact ⟨0, rfl, Nat.zero_le _, hide (fun k hk => absurd hk (Nat.not_lt_zero _)), hide ⟨HB.out, HA.out⟩⟩
    case round =>
      obtain ⟨i, rfl, hi, HK, HW⟩ := hrel
      clear HB HA
      by_cases hlt : i < N
      . have hd : decide ((i : Int) < (N : Int)) = true := decide_eq_true (by omega)
        obtain ⟨⟨gs, os, rfl, -, -⟩, ⟨gd, od, rfl, -, -⟩⟩ := HG.out i hlt _ HW.out.1
        have c1 := HS1.out i hlt
        have c2 := HS2.out i hlt
        have hsg := HSG.out i
        have hn1 := HN1.out i hlt
        have HCC : Hid (∀ W, Below wr.heap.size wr W -> (W.cell? ⟨w.heap.size, 0, none⟩ = some (.int .i64 (N : Int)) /\ W.cell? ⟨w.heap.size, 1, none⟩ = some (.slice (some ⟨gs, os, none⟩) N ca) /\ W.cell? ⟨w.heap.size, 2, none⟩ = some (.slice (some ⟨gd, od, none⟩) N cb) /\ w.heap.size < W.heap.size) /\ Pc W gs (os + i * 4) (t.s.getD i oP) /\ Pc W gd (od + i * 4) (t.d.getD i oP) /\ gs < W.heap.size /\ gd < W.heap.size) := hide (fun W hb => by
          have hb' := bkp HW.out.1 hb
          obtain ⟨⟨gs', os', e1, q1, p1⟩, ⟨gd', od', e2, q2, p2⟩⟩ := HG.out i hlt _ hb'
          cases e1
          cases e2
          exact ⟨(HW.out.2.below hb).cells, p1, p2, q1, q2⟩)
        generalize sgB (t.s.getD i oP) tn = r1 at *
        generalize sgB (t.d.getD i oP) tn = r2 at *
        generalize t.s.getD i oP = s1 at *
        generalize t.d.getD i oP = d1 at *
        obtain ⟨m1, x1, z1, p1⟩ := s1
        obtain ⟨m2, x2, z2, p2⟩ := d1
        unfold pV at c1 c2
        simp only at c1 c2
        obtain ⟨⟨q0, q1, q2, q3⟩, -⟩ := HCC.out wr (Below.refl _ _)
        have HE : Hid (r1 = true -> r2 = true -> ∀ k, k < i + 1 -> sg2 t k = true) := hide (fun e1 e2 k hk => by
          by_cases e : k = i
          . subst e; rw [hsg, e1, e2]; rfl
          . exact HK.out k (by omega))
        have HF : Hid ((r1 && r2) = false -> R = 140) := hide (fun e => hn1 (by rw [hsg, e]))
        clear hsg hn1
        cases r1
        rotate_left
        cases r2
        all_goals (
          go_wp2_with fail
          refine wp_region_quiet_C (C := fun W => Below wr.heap.size wr W) (by kernel_rfl) (by kernel_rfl) (bdrew (Below.refl _ _) 1) ?_
          refine unhideP ?_
          repeat
            refine wpQuiet_stepH (fun K hK => ?_)
            go_simp
            first
              | (refine hK _ ?_; clear hK K)
              | (apply Exists.intro
                 refine ⟨fun W hW => ?_, hK _ ?_⟩
                 first
                   | ((with_reducible refine Calls.mono (c1 _) ?_); rintro e x ⟨rfl, hb⟩; exact ⟨rfl, bkp hW hb⟩)
                   | ((with_reducible refine Calls.mono (c2 _) ?_); rintro e x ⟨rfl, hb⟩; exact ⟨rfl, bkp hW hb⟩)
                   | (obtain ⟨⟨p0, p1, p2, p3⟩, ⟨a0, a1, a2, a3⟩, ⟨b0, b1, b2, b3⟩, e1, e2⟩ := HCC.out W hW; go_simp; rfl)
                 clear hK K)
          refine wpQuiet_nilH ?_
          intro W hW
          have HX := hide (And.intro (bkp HW.out.1 hW) (HW.out.2.below hW))
          clear hW HCC HW q0 q1 q2 q3 c1 c2
          go_wp2_with fail)
        . have hR := HF.out rfl
          subst hR
          go_ret
          exact ⟨rfl, HX.out.1⟩
        . have HE' := hide (HE.out (by trivial) (by trivial))
          go_roundw
          case rel => exact ⟨i + 1, by go_num, by omega, HE', HX⟩
          case measure => simp [Go.RowKit.intOf]; omega
        . have hR := HF.out rfl
          subst hR
          go_ret
          exact ⟨rfl, HX.out.1⟩
      . obtain rfl : N = i := by omega
        have hd : decide ((N : Int) < (N : Int)) = false := decide_eq_false (by omega)
        have HI2 := hide (HI.out HK.out)
        obtain ⟨q0, q1, q2, q3⟩ := HW.out.2.cells
        clear HI HK HN1 HSG HS1 HS2
        go_wp2_with fail
        clear q0 q1 q2 q3
        go_loopw [58] (fun vi wr => ∃ i : Nat, vi = .int .i64 (i : Int) /\ i <= N /\ Hid (∀ k, k < i -> ∀ j, j < N -> prB t k j = true) /\ Hid (Below w.heap.size w wr /\ At3 wr w.heap.size (.int .i64 (N : Int)) (.slice a N ca) (.slice b N cb))) (fun vi _ => N - (Go.RowKit.intOf vi).toNat)
        case atStart => exact ⟨0, rfl, Nat.zero_le _, hide (fun k hk => absurd hk (Nat.not_lt_zero _)), HW⟩
        case round =>
          rename_i wr1
          obtain ⟨i, rfl, hi, HK, HV⟩ := hrel
          clear HW
          by_cases hlt : i < N
          . have hd1 : decide ((i : Int) < (N : Int)) = true := decide_eq_true (by omega)
            obtain ⟨q0, q1, q2, q3⟩ := HV.out.2.cells
            go_wp2_with fail
            clear q0 q1 q2 q3
            go_loopw [63] (fun vj wr => ∃ j : Nat, vj = .int .i64 (j : Int) /\ j <= N /\ Hid (∀ k, k < j -> prB t i k = true) /\ Hid (Below w.heap.size w wr /\ At3 wr w.heap.size (.int .i64 (N : Int)) (.slice a N ca) (.slice b N cb))) (fun vj _ => N - (Go.RowKit.intOf vj).toNat)
            case atStart => exact ⟨0, rfl, Nat.zero_le _, hide (fun k hk => absurd hk (Nat.not_lt_zero _)), HV⟩
            case round =>
              rename_i wr2
              obtain ⟨j, rfl, hj, HJ, HU⟩ := hrel
              clear HV
              obtain ⟨q0, q1, q2, q3⟩ := HU.out.2.cells
              by_cases hjt : j < N
              . have hd2 : decide ((j : Int) < (N : Int)) = true := decide_eq_true (by omega)
                have c1 := HP.out i j hlt hjt _ HU.out.1
                have hn2 := HN2.out i j hlt hjt
                have HE : Hid (prB t i j = true -> ∀ k, k < j + 1 -> prB t i k = true) := hide (fun e k hk => by
                  by_cases e' : k = j
                  . subst e'; exact e
                  . exact HJ.out k (by omega))
                generalize prB t i j = r at *
                cases r
                . have hR := hn2 rfl
                  subst hR
                  go_wp2_with (go_at_call 26; refine c1.mono ?_; rintro e w1 ⟨rfl, hb1⟩; have HX := hide (And.intro (bkp HU.out.1 hb1) (HU.out.2.below hb1)))
                  go_ret
                  exact ⟨rfl, HX.out.1⟩
                . have HE' := hide (HE.out rfl)
                  clear hn2
                  go_wp2_with (go_at_call 26; refine c1.mono ?_; rintro e w1 ⟨rfl, hb1⟩; have HX := hide (And.intro (bkp HU.out.1 hb1) (HU.out.2.below hb1)))
                  go_roundw
                  case rel => exact ⟨j + 1, by go_num, by omega, HE', HX⟩
                  case measure => simp [Go.RowKit.intOf]; omega
              . obtain rfl : N = j := by omega
                have hd2 : decide ((N : Int) < (N : Int)) = false := decide_eq_false (by omega)
                have HE' : Hid (∀ k, k < i + 1 -> ∀ j, j < N -> prB t k j = true) := hide (fun k hk j hj => by
                  by_cases e' : k = i
                  . subst e'; exact HJ.out j hj
                  . exact HK.out k (by omega) j hj)
                go_wp2_with fail
                go_roundw
                case rel => exact ⟨i + 1, by go_num, by omega, HE', HU⟩
                case measure => simp [Go.RowKit.intOf]; omega
          . obtain rfl : N = i := by omega
            have hR := HI2.out HK.out
            subst hR
            go_wp2_with fail
            go_ret
            exact ⟨rfl, HV.out.1⟩
def PO (w : World) (g : Nat) (l : List P) : Prop := ∃ cur : Array Value, w.heap[g]? = some (.cells cur 49 (0, 0)) /\ ∀ (i : Nat) p, l[i]? = some p -> cur[i * 4]? = some (.int .i64 p.n) /\ cur[i * 4 + 1]? = some (.int .u64 (p.x : Int)) /\ cur[i * 4 + 2]? = some (.int .u64 (p.z : Int)) /\ cur[i * 4 + 3]? = some (.int .i64 p.ph)
theorem cell_at {w : World} {g i : Nat} {cur : Array Value} {t : TypeId} {fr : Nat × Nat} {v : Value} (hg : w.heap[g]? = some (.cells cur t fr)) (h : cur[i]? = some v) : w.cell? ⟨g, i, none⟩ = some v := by
  simp [World.cell?, hg, h]
theorem PO.at {w : World} {g : Nat} {l : List P} (h : PO w g l) {i : Nat} {p : P} (hi : l[i]? = some p) : Pc w g (i * 4) p := by
  obtain ⟨cur, h, hc⟩ := h
  obtain ⟨h0, h1, h2, h3⟩ := hc i p hi
  exact ⟨cell_at h h0, cell_at h h1, cell_at h h2, cell_at h h3⟩
namespace PO
variable {w w' : World} {g : Nat} {l : List P}
theorem lt (h : PO w g l) : g < w.heap.size := by
  obtain ⟨cur, h, -⟩ := h
  exact (Array.getElem?_eq_some_iff.1 h).1
theorem pin (h : PO w g l) : PIn w (some ⟨g, 0, none⟩) l := .inr ⟨g, 0, rfl, fun i p hi => by rw [Nat.zero_add]; exact h.at hi⟩
theorem fz (h : PO w g l) (j : Nat) : w.frozen? ⟨g, j, none⟩ = false := by
  obtain ⟨cur, h, -⟩ := h
  simp [World.frozen?, h]
theorem of_block (h : PO w g l) (e : w'.heap[g]? = w.heap[g]?) : PO w' g l := by
  obtain ⟨cur, h, hc⟩ := h
  exact ⟨cur, e.trans h, hc⟩
theorem below (h : PO w g l) (hb : Below w.heap.size w w') : PO w' g l := h.of_block (hb.block g h.lt)
theorem mono (h : PO w g l) {l' : List P} (hl : ∀ (i : Nat) p, l'[i]? = some p -> l[i]? = some p) : PO w g l' := by
  obtain ⟨cur, h, hc⟩ := h
  exact ⟨cur, h, fun i p hi => hc i p (hl i p hi)⟩
end PO
def set4 (w : World) (g o : Nat) (p : P) : World := (((w.setCell ⟨g, o, none⟩ (.int .i64 p.n)).setCell ⟨g, o + 1, none⟩ (.int .u64 (p.x : Int))).setCell ⟨g, o + 2, none⟩ (.int .u64 (p.z : Int))).setCell ⟨g, o + 3, none⟩ (.int .i64 p.ph)
theorem set_heap {w : World} {g o : Nat} {cur : Array Value} {t : TypeId} {fr : Nat × Nat} (h : w.heap[g]? = some (.cells cur t fr)) (v : Value) : (w.setCell ⟨g, o, none⟩ v).heap[g]? = some (.cells (cur.setIfInBounds o v) t fr) := by
  simp [World.setCell, Array.getElem?_modify, h]
theorem PO.set {w : World} {g : Nat} {l : List P} (h : PO w g l) {i : Nat} (p : P) : PO (set4 w g (i * 4) p) g (l.set i p) := by
  obtain ⟨cur, h, hc⟩ := h
  refine ⟨_, set_heap (set_heap (set_heap (set_heap h _) _) _) _, fun j q hj => ?_⟩
  rw [List.getElem?_set] at hj
  by_cases e : i = j
  . subst e
    rw [if_pos rfl] at hj
    split at hj
    . cases hj
      rename_i hlt
      obtain ⟨h0, h1, h2, h3⟩ := hc i _ (List.getElem?_eq_getElem hlt)
      have s0 := (Array.getElem?_eq_some_iff.1 h0).1
      have s1 := (Array.getElem?_eq_some_iff.1 h1).1
      have s2 := (Array.getElem?_eq_some_iff.1 h2).1
      have s3 := (Array.getElem?_eq_some_iff.1 h3).1
      refine ⟨?_, ?_, ?_, ?_⟩ <;> simp [s0, s1, s2, s3]
    . cases hj
  . rw [if_neg e] at hj
    obtain ⟨h0, h1, h2, h3⟩ := hc j q hj
    have n0 : ∀ a b, a < 4 -> b < 4 -> ¬ i * 4 + a = j * 4 + b := by omega
    have m0 : ∀ b, b < 4 -> ¬ i * 4 = j * 4 + b := by omega
    have m1 : ∀ a, a < 4 -> ¬ i * 4 + a = j * 4 := by omega
    have m2 : ¬ i * 4 = j * 4 := by omega
    refine ⟨?_, ?_, ?_, ?_⟩ <;> simp [n0, m0, m1, m2, h0, h1, h2, h3]
theorem set4_heap (w : World) (g o : Nat) (p : P) (k : Nat) (h : k ≠ g) : (set4 w g o p).heap[k]? = w.heap[k]? := by
  unfold set4
  rw [Below.heap_setCell _ _ _ _ h, Below.heap_setCell _ _ _ _ h, Below.heap_setCell _ _ _ _ h, Below.heap_setCell _ _ _ _ h]
theorem PO.off {w : World} {g k o : Nat} {l : List P} {p : P} (h : PO w g l) (hk : g ≠ k) : PO (set4 w k o p) g l := h.of_block (set4_heap _ _ _ _ _ hk)
theorem below_set4 {B : Nat} {a w : World} (h : Below B a w) {g o : Nat} {p : P} (hg : B <= g) : Below B a (set4 w g o p) := (((h.setCell (p := ⟨g, o, none⟩) hg _).setCell (p := ⟨g, o + 1, none⟩) hg _).setCell (p := ⟨g, o + 2, none⟩) hg _).setCell (p := ⟨g, o + 3, none⟩) hg _
theorem At3.off {w : World} {g k o : Nat} {a b c : Value} {p : P} (h : At3 w g a b c) (hk : g ≠ k) : At3 (set4 w k o p) g a b c := (set4_heap _ _ _ _ _ hk).trans h
theorem At4.off4 {w : World} {g k o : Nat} {a b c d : Value} {p : P} (h : At4 w g a b c d) (hk : g ≠ k) : At4 (set4 w k o p) g a b c d := (set4_heap _ _ _ _ _ hk).trans h
theorem infoP3 : (Tryd.prog.info? 49).map (fun i => (i.zero, i.size, i.bytes)) = some (some (.agg #[.int .i64 0, .int .u64 0, .int .u64 0, .int .i64 0]), 4, 32) := by kernel_rfl
def pRow (n : Nat) : Array Value := madeCells #[.int .i64 0, .int .u64 0, .int .u64 0, .int .i64 0] (n * 4)
theorem make_p (n : Nat) (hn : n <= 4096) (w : World) : (Instr.makeSlice 22 (.int .i64 (n : Int)) (.int .i64 (n : Int))).run Tryd.prog w = .ok (.slice (some ⟨w.heap.size, 0, none⟩) n n) (w.alloc (.cells (pRow n) 49)) := by
  obtain ⟨i, hi, hz⟩ := Option.map_eq_some_iff.1 infoP3
  simp only [Prod.mk.injEq] at hz
  obtain ⟨h1, h2, h3⟩ := hz
  have hr := run_make (P := Tryd.prog) w 22 49 i _ Tryd.underlying22 hi h1 .i64 .i64 n n (by omega) (Int.le_refl _) (by rw [h3]; omega) (by omega)
  rw [h2, Int.toNat_natCast] at hr
  exact hr
theorem made_at (z : Array Value) (n i : Nat) (h : i < n) : (madeCells z n)[i]? = some (z[i % z.size]!) := by
  unfold madeCells
  rw [Array.getElem?_map, Array.getElem?_range, if_pos h]
  rfl
theorem PO.made (w : World) (n : Nat) : PO (w.alloc (.cells (pRow n) 49)) w.heap.size (List.replicate n oP) := by
  refine ⟨_, heap_alloc_new _ _, fun i p hi => ?_⟩
  rw [List.getElem?_replicate] at hi
  split at hi
  . cases hi
    rename_i hlt
    unfold pRow
    rw [made_at _ _ _ (by omega), made_at _ _ _ (by omega), made_at _ _ _ (by omega), made_at _ _ _ (by omega)]
    have e0 : i * 4 % 4 = 0 := by omega
    have e1 : (i * 4 + 1) % 4 = 1 := by omega
    have e2 : (i * 4 + 2) % 4 = 2 := by omega
    have e3 : (i * 4 + 3) % 4 = 3 := by omega
    simp [e0, e1, e2, e3, oP]
  . cases hi
structure To (w : World) (B : Nat) (t : TT) (g1 g2 : Nat) : Prop where
  s : PO w g1 t.s
  d : PO w g2 t.d
  b1 : B <= g1
  b2 : B <= g2
  ne : g1 ≠ g2
theorem To.below {w w' : World} {B : Nat} {t : TT} {g1 g2 : Nat} (h : To w B t g1 g2) (hb : Below w.heap.size w w') : To w' B t g1 g2 := ⟨h.s.below hb, h.d.below hb, h.b1, h.b2, h.ne⟩
def zT (n : Nat) : TT := ⟨n, List.replicate n oP, List.replicate n oP⟩
theorem all3 (n : Int) (a b : Option Addr) (k l c d : Nat) : (#[Value.int .i64 n, .slice a k c, .slice b l d]).all (·.oneCell') = true := by simp [Value.oneCell']
theorem three_new (w : World) (o1 o2 o3 : Obj) : (((w.alloc o1).alloc o2).alloc o3).heap[w.heap.size]? = some o1 /\ (((w.alloc o1).alloc o2).alloc o3).heap[w.heap.size + 1]? = some o2 /\ (((w.alloc o1).alloc o2).alloc o3).heap[w.heap.size + 1 + 1]? = some o3 := by
  refine ⟨?_, ?_, ?_⟩
  . rw [Below.heap_alloc _ _ _ (by simp; omega), Below.heap_alloc _ _ _ (by simp)]
    exact heap_alloc_new _ _
  . rw [Below.heap_alloc _ _ _ (by simp)]
    have := heap_alloc_new (w.alloc o1) o2
    simpa using this
  . have := heap_alloc_new ((w.alloc o1).alloc o2) o3
    simpa using this
theorem made_row {w : World} {g n : Nat} (h : w.heap[g]? = some (.cells (pRow n) 49)) : PO w g (List.replicate n oP) := by
  obtain ⟨cur, h1, h2⟩ := PO.made w n
  rw [heap_alloc_new] at h1
  cases h1
  exact ⟨_, h, h2⟩
theorem tBlank (n : Nat) (hn : n <= 64) (w : World) :
    Calls Tryd.prog 30 #[.int .i64 (n : Int)] w fun e w' => ∃ g1 g2, e = .returned (.agg #[.int .i64 (n : Int), .slice (some ⟨g1, 0, none⟩) n n, .slice (some ⟨g2, 0, none⟩) n n]) /\ To w' w.heap.size (zT n) g1 g2 /\ Below w.heap.size w w' := by
  have hm := fun W => make_p n (by omega) W
  have H1 := hide (three_new w (.cells #[.int .i64 (n : Int), .slice (some ⟨w.heap.size + 1, 0, none⟩) n n, .slice (some ⟨w.heap.size + 1 + 1, 0, none⟩) n n] 24) (.cells (pRow n) 49) (.cells (pRow n) 49))
  have H2 := hide (three_new w (.cells #[.int .i64 (n : Int), .slice (some ⟨w.heap.size + 1 + 1, 0, none⟩) n n, .slice (some ⟨w.heap.size + 1, 0, none⟩) n n] 24) (.cells (pRow n) 49) (.cells (pRow n) 49))
  have HB : Hid (∀ o1 o2 o3 : Obj, Below w.heap.size w (((w.alloc o1).alloc o2).alloc o3)) := hide (fun o1 o2 o3 => bkp (bkp (bnew _ _) (bnew _ _)) (bnew _ _))
  go_enter Tryd.func30, Tryd.ntmps30
  go_wp2_with fail
  go_region
  . go_wp2_with fail
    obtain ⟨e1, e2, e3⟩ := H1.out
    refine bodyPost_ret (results_c rfl _ _ w.heap.size _ _ _ _ rfl e1 Tryd.underlying24 rfl (by exact infoT)) rfl ?_
    exact ⟨_, _, rfl, ⟨made_row e2, made_row e3, by omega, by omega, by omega⟩, (HB.out _ _ _).drew⟩
  . go_wp2_with fail
    obtain ⟨e1, e2, e3⟩ := H2.out
    refine bodyPost_ret (results_c rfl _ _ w.heap.size _ _ _ _ rfl e1 Tryd.underlying24 rfl (by exact infoT)) rfl ?_
    exact ⟨_, _, rfl, ⟨made_row e3, made_row e2, by omega, by omega, by omega⟩, (HB.out _ _ _).drew⟩
def fillL (N : Nat) (f : Nat -> P) (q : Nat) : List P := (List.range N).map (fun k => if k < q then f k else oP)
theorem fill_zero (N : Nat) (f : Nat -> P) : fillL N f 0 = List.replicate N oP := by
  unfold fillL
  rw [List.eq_replicate_iff]
  simp
theorem fill_len (N : Nat) (f : Nat -> P) (q : Nat) : (fillL N f q).length = N := by simp [fillL]
theorem fill_succ (N : Nat) (f : Nat -> P) (q : Nat) : (fillL N f q).set q (f q) = fillL N f (q + 1) := by
  unfold fillL
  refine List.ext_getElem? fun j => ?_
  rw [List.getElem?_set]
  simp only [List.getElem?_map, List.length_map, List.length_range]
  by_cases e : q = j
  . subst e
    rw [if_pos rfl]
    by_cases h : q < N
    . rw [if_pos h, List.getElem?_range h]
      simp
    . rw [if_neg h, List.getElem?_eq_none (by simp; omega)]
      rfl
  . rw [if_neg e]
    by_cases h : j < N
    . rw [List.getElem?_range h]
      simp only [Option.map_some, Option.some.injEq]
      by_cases h2 : j < q
      . rw [if_pos h2, if_pos (by omega)]
      . rw [if_neg h2, if_neg (by omega)]
    . rw [List.getElem?_eq_none (by simp; omega)]
      rfl
theorem fill_all (N : Nat) (f : Nat -> P) : fillL N f N = (List.range N).map f := by
  unfold fillL
  refine List.map_congr_left fun k hk => ?_
  rw [if_pos (List.mem_range.1 hk)]
def nzP (N q : Nat) : P := ⟨N, 0, 2 ^ q, 0⟩
def nxP (N q : Nat) : P := ⟨N, 2 ^ q, 0, 0⟩
def newT (N : Nat) : TT := ⟨N, (List.range N).map (nzP N), (List.range N).map (nxP N)⟩
theorem pow_lt64 {q : Nat} (h : q < 64) : 2 ^ q < 18446744073709551616 := by
  have h2 : 2 ^ q < 2 ^ 64 := Nat.pow_lt_pow_right (by decide) h
  exact Nat.lt_of_lt_of_eq h2 (by decide)
theorem shl_one (q : Nat) (h : q < 64) : IntKind.u64.wrap ((2 : Int) ^ q) = ((2 ^ q : Nat) : Int) := by
  have h2 := pow_lt64 h
  rw [wrapU, show ((2 : Int) ^ q) = ((2 ^ q : Nat) : Int) by simp]
  generalize 2 ^ q = m at *
  omega
theorem tNew_ok (N : Nat) (hN : N <= 64) (w : World) :
    Calls Tryd.prog 14 #[.int .i64 (N : Int)] w fun e w' => ∃ g1 g2, e = .returned (.tuple #[.agg #[.int .i64 (N : Int), .slice (some ⟨g1, 0, none⟩) N N, .slice (some ⟨g2, 0, none⟩) N N], .int .i64 0]) /\ To w' w.heap.size (newT N) g1 g2 /\ Below w.heap.size w w' := by
  have c1 := fun W => tBlank N hN W
  have d1 : decide ((N : Int) < 0) = false := decide_eq_false (by omega)
  have d2 : decide (64 < (N : Int)) = false := decide_eq_false (by omega)
  have HB0 := hide (bnew w (.cells #[.int .i64 0, .slice none 0 0, .slice none 0 0] 24))
  have HA0 := hide (At3.new w (.int .i64 0) (.slice none 0 0) (.slice none 0 0))
  go_enter Tryd.func14, Tryd.ntmps14
  go_wp2_with fail
  refine (c1 _).mono ?_
  rintro e w1 ⟨g1, g2, rfl, ht, hb1⟩
  have hbn := bnew w1 (.cells #[.int .i64 (N : Int), .slice (some ⟨g1, 0, none⟩) N N, .slice (some ⟨g2, 0, none⟩) N N] 24)
  have HB1 := hide (bkp (bkp HB0.out hb1) hbn)
  have HA1 := hide ((HA0.out.below hb1).below hbn)
  have HT1 := hide (At3.new w1 (.int .i64 (N : Int)) (.slice (some ⟨g1, 0, none⟩) N N) (.slice (some ⟨g2, 0, none⟩) N N))
  have HO1 := hide (ht.below hbn)
  have hlt1 := ht.s.lt
  have hlt2 := ht.d.lt
  have hg1 := ht.b1
  have hg2 := ht.b2
  simp only [World.size_alloc] at hg1 hg2
  clear ht hb1 hbn HB0 HA0
  go_wp2_with fail
  generalize w1.alloc (.cells #[.int .i64 (N : Int), .slice (some ⟨g1, 0, none⟩) N N, .slice (some ⟨g2, 0, none⟩) N N] 24) = W1 at *
  generalize w1.heap.size = gt at *
  have HI0 : Hid (Below w.heap.size w W1 /\ At3 W1 w.heap.size (.int .i64 0) (.slice none 0 0) (.slice none 0 0) /\ At3 W1 gt (.int .i64 (N : Int)) (.slice (some ⟨g1, 0, none⟩) N N) (.slice (some ⟨g2, 0, none⟩) N N) /\ PO W1 g1 (fillL N (nzP N) 0) /\ PO W1 g2 (fillL N (nxP N) 0)) := hide ⟨HB1.out, HA1.out, HT1.out, by rw [fill_zero]; exact HO1.out.s, by rw [fill_zero]; exact HO1.out.d⟩
  have hne := HO1.out.ne
  have h64 := shl_one
  clear HB1 HA1 HT1 HO1
  go_loopw [16] (fun vi wr => ∃ q : Nat, vi = .int .i64 (q : Int) /\ q <= N /\ Hid (Below w.heap.size w wr /\ At3 wr w.heap.size (.int .i64 0) (.slice none 0 0) (.slice none 0 0) /\ At3 wr gt (.int .i64 (N : Int)) (.slice (some ⟨g1, 0, none⟩) N N) (.slice (some ⟨g2, 0, none⟩) N N) /\ PO wr g1 (fillL N (nzP N) q) /\ PO wr g2 (fillL N (nxP N) q))) (fun vi _ => N - (Go.RowKit.intOf vi).toNat)
  case atStart => exact ⟨0, rfl, Nat.zero_le _, HI0⟩
  case round =>
    obtain ⟨q, rfl, hq, HI⟩ := hrel
    clear HI0
    obtain ⟨t0, t1, t2, t3⟩ := HI.out.2.2.1.cells
    by_cases hlt : q < N
    . have hd : decide ((q : Int) < (N : Int)) = true := decide_eq_true (by omega)
      have h64' := h64 q (by omega)
      have hp1 := HI.out.2.2.2.1.at (get_of (l := fillL N (nzP N) q) (i := q) (by rw [fill_len]; exact hlt))
      generalize (fillL N (nzP N) q).getD q oP = p1 at *
      obtain ⟨n1, x1, z1, ph1⟩ := p1
      obtain ⟨a0, a1, a2, a3⟩ := hp1
      have f1 := HI.out.2.2.2.1.fz
      have k1 := HI.out.2.2.2.1.lt
      simp only at a0 a1 a2 a3
      have HX : Hid (Below w.heap.size w (set4 wr g1 (q * 4) (nzP N q)) /\ At3 (set4 wr g1 (q * 4) (nzP N q)) w.heap.size (.int .i64 0) (.slice none 0 0) (.slice none 0 0) /\ At3 (set4 wr g1 (q * 4) (nzP N q)) gt (.int .i64 (N : Int)) (.slice (some ⟨g1, 0, none⟩) N N) (.slice (some ⟨g2, 0, none⟩) N N) /\ PO (set4 wr g1 (q * 4) (nzP N q)) g1 (fillL N (nzP N) (q + 1)) /\ PO (set4 wr g1 (q * 4) (nzP N q)) g2 (fillL N (nxP N) q)) := hide ⟨below_set4 HI.out.1 (by omega), HI.out.2.1.off (by omega), HI.out.2.2.1.off (by omega), by rw [← fill_succ]; exact HI.out.2.2.2.1.set _, HI.out.2.2.2.2.off (by omega)⟩
      clear HI
      go_wp2_with fail
      go_region
      change Exit.then _ _ _ _ (set4 wr g1 (q * 4) (nzP N q)).drew
      clear a0 a1 a2 a3 f1 k1 t0 t1 t2 t3
      generalize set4 wr g1 (q * 4) (nzP N q) = W2 at *
      obtain ⟨t0, t1, t2, t3⟩ := HX.out.2.2.1.cells
      have hp1 := HX.out.2.2.2.2.at (get_of (l := fillL N (nxP N) q) (i := q) (by rw [fill_len]; exact hlt))
      generalize (fillL N (nxP N) q).getD q oP = p1 at *
      obtain ⟨n1, x1, z1, ph1⟩ := p1
      obtain ⟨a0, a1, a2, a3⟩ := hp1
      have f1 := HX.out.2.2.2.2.fz
      have k1 := HX.out.2.2.2.2.lt
      simp only at a0 a1 a2 a3
      have HY : Hid (Below w.heap.size w (set4 W2 g2 (q * 4) (nxP N q)) /\ At3 (set4 W2 g2 (q * 4) (nxP N q)) w.heap.size (.int .i64 0) (.slice none 0 0) (.slice none 0 0) /\ At3 (set4 W2 g2 (q * 4) (nxP N q)) gt (.int .i64 (N : Int)) (.slice (some ⟨g1, 0, none⟩) N N) (.slice (some ⟨g2, 0, none⟩) N N) /\ PO (set4 W2 g2 (q * 4) (nxP N q)) g1 (fillL N (nzP N) (q + 1)) /\ PO (set4 W2 g2 (q * 4) (nxP N q)) g2 (fillL N (nxP N) (q + 1))) := hide ⟨below_set4 HX.out.1 (by omega), HX.out.2.1.off (by omega), HX.out.2.2.1.off (by omega), HX.out.2.2.2.1.off (by omega), by rw [← fill_succ]; exact HX.out.2.2.2.2.set _⟩
      clear HX
      go_wp2_with fail
      go_region
      change Exit.inBlock _ _ _ _ (set4 W2 g2 (q * 4) (nxP N q)).drew.drew
      clear a0 a1 a2 a3 f1 k1 t0 t1 t2 t3
      generalize set4 W2 g2 (q * 4) (nxP N q) = W3 at *
      go_wp2_with fail
      go_roundw
      case rel => exact ⟨q + 1, by go_num, by omega, hide ⟨HY.out.1.drew.drew, HY.out.2.1, HY.out.2.2.1, HY.out.2.2.2.1, HY.out.2.2.2.2⟩⟩
      case measure => simp [Go.RowKit.intOf]; omega
    . obtain rfl : N = q := by omega
      have hR := HI.out.2.1
      unfold At3 at hR
      have HZ : Hid (To (wr.setRow w.heap.size #[.int .i64 (N : Int), .slice (some ⟨g1, 0, none⟩) N N, .slice (some ⟨g2, 0, none⟩) N N]) w.heap.size (newT N) g1 g2) := hide ⟨(HI.out.2.2.2.1.of_block (setRow_other _ _ _ _ (by omega))).mono (fun i p h => by rw [fill_all]; exact h), (HI.out.2.2.2.2.of_block (setRow_other _ _ _ _ (by omega))).mono (fun i p h => by rw [fill_all]; exact h), by omega, by omega, hne⟩
      have HB := hide HI.out.1
      clear HI
      go_wp2_with (first
        | (refine wpList_store_row rfl _ _ _ rfl w.heap.size _ rfl rfl _ _ hR (by exact infoT) (by rfl) (all3 _ _ _ _ _ _ _) ?_))
      refine bodyPost_ret (results_ct rfl _ _ w.heap.size _ _ _ _ rfl (setRow_heap _ _ _ _ _ _ hR) Tryd.underlying24 rfl (by exact infoT)) rfl ?_
      exact ⟨g1, g2, rfl, HZ.out, below_setRow HB.out (Nat.le_refl _) _⟩
end Go.Proofs.YtpehekonjdneaaaDoor.Tbl
