/- Layer 20: a map's chart (gen_ao20.py). -/
import Derived.Test.YtipceoeihiaieaaDoorAn20
namespace Go.Proofs.YtipceoeihiaieaaDoor.Rou
open Go.RowKit

/-- A chart, or none: the number tells. -/
def ChP (e : Ending) (w' : World) (B : Nat) (N : Int) (ps : List Pr) : Prop :=
  (RtP N ps ∧ ∃ C ao cp L, e = .returned (.tuple #[.pointer (some ⟨C, 0, none⟩), .int .i64 0]) ∧ Ch w' B C N ao cp L ∧ LP N.toNat ps L ∧ (∀ a, a < N.toNat → Asc (L a)) ∧ ∀ a, (L a).length ≤ 1000) ∨
  (¬ RtP N ps ∧ e = .returned (.tuple #[.pointer none, .int .i64 200]))
theorem chp_no {w' : World} {B : Nat} {N : Int} {ps : List Pr} (h : ¬ RtP N ps) : ChP (.returned (.tuple #[.pointer none, .int .i64 200])) w' B N ps := .inr ⟨h, rfl⟩
theorem LI.next2 {N t : Nat} {ps : List Pr} {q : Pr} (hq : ps[t]? = some q) (hv : 0 ≤ q.1 ∧ q.1 < (N : Int) ∧ 0 ≤ q.2 ∧ q.2 < (N : Int)) (h : LI N t ps (lks ps t)) : LI N (t + 1) ps (lks ps (t + 1)) := by
  have hp : ps.getD t (0, 0) = q := by simp [List.getD, hq]
  unfold lks
  rw [hp]
  obtain ⟨v1, v2, v3, v4⟩ := hv
  have e1 : ((q.1.toNat : Nat) : Int) = q.1 := Int.toNat_of_nonneg v1
  have e2 : ((q.2.toNat : Nat) : Int) = q.2 := Int.toNat_of_nonneg v3
  refine ⟨fun a p hm => ?_, fun j p hj hjp => ?_, nd_lnk (nd_lnk h.nd)⟩
  · rw [mem_lnk, mem_lnk, e1, e2] at hm
    rcases hm with (hm | ⟨rfl, rfl⟩) | ⟨rfl, rfl⟩
    · obtain ⟨h1, h2, h3, j, hj, h4⟩ := h.sub a p hm
      exact ⟨h1, h2, h3, j, by omega, h4⟩
    · exact ⟨e1.symm, v3, v4, t, by omega, .inl hq⟩
    · exact ⟨e2.symm, v1, v2, t, by omega, .inr hq⟩
  · rw [mem_lnk, mem_lnk, mem_lnk, mem_lnk, e1, e2]
    by_cases e : j = t
    · subst e
      rw [hq] at hjp
      cases hjp
      exact ⟨.inl (.inr ⟨rfl, rfl⟩), .inr ⟨rfl, rfl⟩⟩
    · have := h.all j p (by omega) hjp
      exact ⟨.inl (.inl this.1), .inl (.inl this.2)⟩
theorem lnk_len (L : Nat → List Pr) (i : Nat) (y : Int) (a : Nat) : (lnk L i y a).length ≤ (L a).length + 1 := by
  unfold lnk upd
  split
  · next e =>
    subst e
    split
    · omega
    · simp
  · omega
/-- A chart with nothing in it. -/
theorem Ch.start (w : World) (M : Nat) (n : Int) (ps : List Pr) (h : M ≤ w.heap.size) : Ch (w.alloc (.cells (chC n (fun _ => none) (fun _ => 0) (lks ps 0)).toArray 42)) M w.heap.size n (fun _ => none) (fun _ => 0) (lks ps 0) :=
  ⟨heap_alloc_new _ _, fun i _ => PO.nil _ _, fun i j _ _ _ k hk => (by cases hk), h⟩
/-- A chart whose row has been sorted. -/
theorem Ch.sorted {w w' : World} {B C : Nat} {n : Int} {ao : Nat → Option Addr} {cp : Nat → Nat} {L : Nat → List Pr} (h : Ch w B C n ao cp L) {i : Nat} (hi : i < 64) {l : List Pr} (hp : l.Perm (L i)) (hO : PO w' B (ao i) (cp i) l) (hb : ∀ x, x < w.heap.size → ob (ao i) ≠ some x → w'.heap[x]? = w.heap[x]?) : Ch w' B C n ao cp (upd L i l) := by
  have hC := (hb C h.cell.2.2.2 (own_ne (h.own i hi) h.hd (by decide))).trans h.hd
  refine ⟨?_, fun j hj => ?_, h.pw, h.bc⟩
  · rw [hC]
    congr 3
    unfold chC
    congr 1
    refine List.map_congr_left fun j _ => ?_
    by_cases e : j = i
    · subst e
      rw [upd_at, hp.length_eq]
    · rw [upd_ne _ _ e]
  · by_cases e : j = i
    · subst e
      rw [upd_at]
      exact hO
    · rw [upd_ne _ _ e]
      exact own_of_block (h.own j hj) fun k hk => hb k (own_lt (h.own j hj) k hk).2 (fun e2 => h.pw j i hj hi e k hk e2)
theorem tells_far {N : Nat} {ps : List Pr} {L : Nat → List Pr} {far : List Int} {q : List Nat} (hN : N ≤ 64) (h0 : 0 < N) (hV : ∀ p ∈ ps, 0 ≤ p.1 ∧ p.1 < (N : Int) ∧ 0 ≤ p.2 ∧ p.2 < (N : Int) ∧ p.1 ≠ p.2) (hL : LP N ps L) (h : BI N ps L 0 q.length far q) : (-1 : Int) ∈ far.take N ↔ ¬ RtP (N : Int) ps := by
  have hVl : Vl N ps := fun p hp => by have := hV p hp; omega
  have key : ∀ k, k < N → (far.getD k 0 ≠ -1 ↔ 0 ≤ (dRow N ps 0).getD k 0) := fun k hk => (h.dom k (by omega)).trans ((BI.end hL h rfl k).trans (dRow_iff hVl h0 k hk).symm)
  constructor
  · intro hm hR
    obtain ⟨k, hk⟩ := List.getElem?_of_mem hm
    rw [List.getElem?_take] at hk
    split at hk
    · next hkN =>
      have h1 : far.getD k 0 = -1 := by simp [List.getD, hk]
      have h2 := hR.2.2.2 k (by simpa using hkN)
      rw [Int.toNat_natCast] at h2
      exact (key k hkN).2 h2 h1
    · cases hk
  · intro hR
    apply Classical.byContradiction
    intro hm
    refine hR ⟨by omega, by omega, hV, fun k hk => ?_⟩
    rw [Int.toNat_natCast] at hk ⊢
    refine (key k hk).1 fun e => hm ?_
    have hlt : k < far.length := by rw [h.len]; omega
    have h3 : (far.take N)[k]? = some (-1) := by
      rw [List.getElem?_take, if_pos hk, List.getElem?_eq_getElem hlt, ← e]
      simp [List.getD, hlt]
    exact List.mem_of_getElem? h3
theorem zC (N : Nat) (ps : List Pr) : Tryd.zeroCells42.setIfInBounds 0 (.int .i64 (N : Int)) = (chC (N : Int) (fun _ => none) (fun _ => 0) (lks ps 0)).toArray := by
  kernel_rfl
set_option maxRecDepth 100000 in
set_option maxHeartbeats 8000000 in
theorem rChart (N : Int) (ps : List Pr) (ao : Option Addr) (k : Nat) (hl : ps.length ≤ 1000000000000000) (w : World) (hA : PA w ao ps) : Calls Tryd.prog 8 #[.agg #[.int .i64 N, .slice ao ps.length k]] w fun e w' => ChP e w' w.heap.size N ps ∧ Below w.heap.size w w' := by
  obtain ⟨n, hn⟩ : ∃ n, ps.length = n := ⟨_, rfl⟩
  have HL := hide hn
  rw [hn] at hl ⊢
  have HBM : Hid (Below w.heap.size w (w.alloc (.cells #[.int .i64 N, .slice ao n k] 24)) ∧ (w.alloc (.cells #[.int .i64 N, .slice ao n k] 24)).heap[w.heap.size]? = some (.cells #[.int .i64 N, .slice ao n k] 24 (0, 0))) := hide ⟨bnew w (.cells #[.int .i64 N, .slice ao n k] 24), heap_alloc_new _ _⟩
  have HA := hide hA
  clear hn hA
  obtain ⟨x0, x1, x2⟩ := m_cells HBM.out.2
  by_cases h1 : N < 1
  · have d1 : decide (N < 1) = true := decide_eq_true h1
    have HX : Hid (¬ RtP N ps) := hide (fun h => by have := h.1; omega)
    go_enter Tryd.func8, Tryd.ntmps8
    go_wp2_with fail
    go_ret2
    exact ⟨chp_no HX.out, HBM.out.1⟩
  have d1 : decide (N < 1) = false := decide_eq_false h1
  by_cases h2 : N > 64
  · have d2 : decide (N > 64) = true := decide_eq_true h2
    have HX : Hid (¬ RtP N ps) := hide (fun h => by have := h.2.1; omega)
    go_enter Tryd.func8, Tryd.ntmps8
    go_wp2_with fail
    go_ret2
    exact ⟨chp_no HX.out, HBM.out.1⟩
  have d2 : decide (N > 64) = false := decide_eq_false h2
  obtain ⟨N, rfl⟩ : ∃ m : Nat, N = (m : Int) := ⟨N.toNat, by omega⟩
  have hN64 : N ≤ 64 := by omega
  go_enter Tryd.func8, Tryd.ntmps8
  go_wp2_with fail
  rw [zC N ps]
  have hCS := Ch.start (w.alloc (.cells #[.int .i64 (N : Int), .slice ao n k] 24)) w.heap.size (N : Int) ps (by simp)
  rw [World.size_alloc] at hCS
  have HSB : Hid (Below w.heap.size w ((w.alloc (.cells #[.int .i64 (N : Int), .slice ao n k] 24)).alloc (.cells (chC (N : Int) (fun _ => none) (fun _ => 0) (lks ps 0)).toArray 42)) ∧ Ch ((w.alloc (.cells #[.int .i64 (N : Int), .slice ao n k] 24)).alloc (.cells (chC (N : Int) (fun _ => none) (fun _ => 0) (lks ps 0)).toArray 42)) w.heap.size (w.heap.size + 1) N (fun _ => none) (fun _ => 0) (lks ps 0)) := hide ⟨bkp HBM.out.1 (bnew _ _), hCS⟩
  clear hCS HBM x0 x1 x2
  generalize (w.alloc (.cells #[.int .i64 (N : Int), .slice ao n k] 24)).alloc (.cells (chC (N : Int) (fun _ => none) (fun _ => 0) (lks ps 0)).toArray 42) = W1 at *
  obtain ⟨M, hM⟩ : ∃ M, w.heap.size = M := ⟨_, rfl⟩
  have HME := hide hM
  obtain ⟨C, hC⟩ : ∃ C, w.heap.size + 1 = C := ⟨_, rfl⟩
  have HCE := hide hC
  rw [hC] at HSB ⊢
  rw [hM] at HSB ⊢
  clear hM hC
  go_loopw [25] (fun vt wr => ∃ (t : Nat) (a1 : Nat → Option Addr) (c1 : Nat → Nat), vt = .int .i64 (t : Int) ∧ t ≤ n ∧ Hid (Below M w wr ∧ Ch wr M C N a1 c1 (lks ps t)) ∧ Hid (LI N t ps (lks ps t)) ∧ Hid (∀ j p, j < t → ps[j]? = some p → 0 ≤ p.1 ∧ p.1 < (N : Int) ∧ 0 ≤ p.2 ∧ p.2 < (N : Int) ∧ p.1 ≠ p.2)) (fun vt _ => n - (Go.RowKit.intOf vt).toNat)
  case atStart => exact ⟨0, _, _, rfl, Nat.zero_le _, HSB, hide (LI.start N ps), hide (fun j p hj => by omega)⟩
  case round =>
    clear HSB
    obtain ⟨t, a1, c1, rfl, ht, HS, HLI, HVA⟩ := hrel
    by_cases h : t < n
    · have hd : decide ((t : Int) < (n : Int)) = true := decide_eq_true (by omega)
      have hii : (t : Int) < (n : Int) := by omega
      obtain ⟨⟨u, v⟩, hp⟩ : ∃ p, ps[t]? = some p := ⟨_, List.getElem?_eq_getElem (by rw [HL.out]; exact h)⟩
      have HP := hide hp
      rcases (HA.out.below (by rw [HME.out]; exact HS.out.1)) with hpa | ⟨gp, op, hao, hpa⟩
      · rw [hpa] at hp
        simp at hp
      subst hao
      obtain ⟨k2, k3⟩ := hpa t _ hp
      simp only at k2 k3
      have hgp := World.block_lt_of_cell? _ _ k2
      clear hpa hp
      have hq0 : ((wr.alloc (.cells #[.int .i64 u, .int .i64 v] 33)).alloc (.cells #[.int .i64 v, .int .i64 u] 33)).heap[wr.heap.size]? = some (.cells #[.int .i64 u, .int .i64 v] 33 (0, 0)) := (Below.heap_alloc _ _ _ (by simp)).trans (heap_alloc_new _ _)
      have hq1 : ((wr.alloc (.cells #[.int .i64 u, .int .i64 v] 33)).alloc (.cells #[.int .i64 v, .int .i64 u] 33)).heap[wr.heap.size + 1]? = some (.cells #[.int .i64 v, .int .i64 u] 33 (0, 0)) := by
        have := heap_alloc_new (wr.alloc (.cells #[.int .i64 u, .int .i64 v] 33)) (.cells #[.int .i64 v, .int .i64 u] 33)
        rw [World.size_alloc] at this
        exact this
      obtain ⟨p0, p1, p2⟩ := m_cells hq0
      obtain ⟨q0, q1, q2⟩ := m_cells hq1
      have HB2 := hide (bkp (bnew wr (.cells #[.int .i64 u, .int .i64 v] 33)) (bnew _ (.cells #[.int .i64 v, .int .i64 u] 33)))
      have hcc := (HS.out.2.below HB2.out).cell.1
      have HQ := hide (And.intro hq0 hq1)
      clear hq0 hq1
      have hMs : M ≤ wr.heap.size := by have := HS.out.1.size; have := HME.out; omega
      by_cases hu : 0 ≤ u ∧ u < (N : Int)
      · have du : decide (0 ≤ u ∧ u < (N : Int)) = true := decide_eq_true hu
        by_cases hv : 0 ≤ v ∧ v < (N : Int)
        · have dv : decide (0 ≤ v ∧ v < (N : Int)) = true := decide_eq_true hv
          by_cases he : u = v
          · subst he
            have hE : ∀ W : World, (Op.equalIn 10000 33 (.agg #[.int .i64 u, .int .i64 u]) (.agg #[.int .i64 u, .int .i64 u])).run Tryd.prog W = .ok true W := fun W => (eqPair u u u u W).trans (by simp)
            have HX : Hid (¬ RtP (N : Int) ps) := hide (fun h => (h.2.2.1 _ (List.mem_of_getElem? HP.out)).2.2.2.2 rfl)
            clear hu hv dv
            go_wp2_with (go_at_call 17; (with_reducible refine Calls.mono (rHas C N u _ hcc) ?_); rintro e w2 ⟨rfl, rfl⟩; rw [du])
            go_ret2
            exact ⟨chp_no HX.out, by rw [HME.out]; exact HS.out.1.trans (HB2.out.mono hMs)⟩
          · have hE : ∀ W : World, (Op.equalIn 10000 33 (.agg #[.int .i64 u, .int .i64 v]) (.agg #[.int .i64 v, .int .i64 u])).run Tryd.prog W = .ok false W := fun W => (eqPair u v v u W).trans (by
              congr 1
              simp
              omega)
            obtain ⟨a, rfl⟩ : ∃ a : Nat, u = (a : Int) := ⟨u.toNat, by omega⟩
            obtain ⟨b, rfl⟩ : ∃ b : Nat, v = (b : Int) := ⟨v.toNat, by omega⟩
            have HUV := hide (And.intro hu (And.intro hv he))
            have haN : a < 64 := by omega
            have hbN : b < 64 := by omega
            have HCH := hide (HS.out.2.below HB2.out)
            have hL1 : ((lks ps t) a).length ≤ 1000 := by have := HLI.out.short a; omega
            have hL2 : (lnk (lks ps t) a (b : Int) b).length ≤ 1000 := by have := HLI.out.short b; have := lnk_len (lks ps t) a (b : Int) b; omega
            have hM2 : M ≤ ((wr.alloc (.cells #[.int .i64 (a : Int), .int .i64 (b : Int)] 33)).alloc (.cells #[.int .i64 (b : Int), .int .i64 (a : Int)] 33)).heap.size := by
              simp
              omega
            clear hu hv he
            go_wp2_with (first | (go_at_call 17; (with_reducible refine Calls.mono (rHas C N a _ hcc) ?_); rintro e w2 ⟨rfl, rfl⟩; rw [du]) | (go_at_call 17; (with_reducible refine Calls.mono (rHas C N b _ hcc) ?_); rintro e w2 ⟨rfl, rfl⟩; rw [dv]) | (go_at_call 19; (with_reducible refine Calls.mono (rLink M C a haN (b : Int) N a1 c1 (lks ps t) _ HCH.out hM2 hL1) ?_); rintro e w4 ⟨rfl, a2, c2, hp4⟩; have HP4 := hide hp4; have hr1 := (HP4.out.oth (wr.heap.size + 1) (by simp) (by have := HS.out.2.cell.2.2.2; omega) (fun j hj e => by have := (own_lt (HS.out.2.own j hj) _ e).2; omega)).trans HQ.out.2; obtain ⟨y0, y1, y2⟩ := m_cells hr1; have hM4 := Nat.le_trans hM2 HP4.out.bel.size; clear hp4 hr1) | (go_at_call 19; (with_reducible refine Calls.mono (rLink M C b hbN (a : Int) N a2 c2 (lnk (lks ps t) a (b : Int)) _ HP4.out.ch hM4 hL2) ?_); rintro e w5 ⟨rfl, a3, c3, hp5⟩; have HP5 := hide hp5; clear hp5))
            have hK : lks ps (t + 1) = lnk (lnk (lks ps t) a (b : Int)) b (a : Int) := by
              have hg : ps.getD t (0, 0) = ((a : Int), (b : Int)) := by simp [List.getD, HP.out]
              simp only [lks, hg, Int.toNat_natCast]
            have HNX : Hid (Below M w w5 ∧ Ch w5 M C N a3 c3 (lks ps (t + 1))) := hide ⟨(HS.out.1.trans (HB2.out.mono hMs)).trans (HP4.out.bel.trans HP5.out.bel), by rw [hK]; exact HP5.out.ch⟩
            have HLN := hide (HLI.out.next2 HP.out ⟨HUV.out.1.1, HUV.out.1.2, HUV.out.2.1.1, HUV.out.2.1.2⟩)
            have HVN : Hid (∀ j p, j < t + 1 → ps[j]? = some p → 0 ≤ p.1 ∧ p.1 < (N : Int) ∧ 0 ≤ p.2 ∧ p.2 < (N : Int) ∧ p.1 ≠ p.2) := hide (fun j p hj hjp => by
              by_cases e : j = t
              · subst e
                rw [HP.out] at hjp
                cases hjp
                exact ⟨HUV.out.1.1, HUV.out.1.2, HUV.out.2.1.1, HUV.out.2.1.2, HUV.out.2.2⟩
              · exact HVA.out j p (by omega) hjp)
            clear hK
            go_wp2_with fail
            go_roundw
            case rel => exact ⟨t + 1, a3, c3, by go_num, by omega, HNX, HLN, HVN⟩
            case measure => simp [Go.RowKit.intOf]; omega
        · have dv : decide (0 ≤ v ∧ v < (N : Int)) = false := decide_eq_false hv
          have HX : Hid (¬ RtP (N : Int) ps) := hide (fun h => hv (by have := h.2.2.1 _ (List.mem_of_getElem? HP.out); exact ⟨this.2.2.1, this.2.2.2.1⟩))
          clear hu hv
          go_wp2_with (first | (go_at_call 17; (with_reducible refine Calls.mono (rHas C N u _ hcc) ?_); rintro e w2 ⟨rfl, rfl⟩; rw [du]) | (go_at_call 17; (with_reducible refine Calls.mono (rHas C N v _ hcc) ?_); rintro e w2 ⟨rfl, rfl⟩; rw [dv]))
          go_ret2
          exact ⟨chp_no HX.out, by rw [HME.out]; exact HS.out.1.trans (HB2.out.mono hMs)⟩
      · have du : decide (0 ≤ u ∧ u < (N : Int)) = false := decide_eq_false hu
        have HX : Hid (¬ RtP (N : Int) ps) := hide (fun h => hu (by have := h.2.2.1 _ (List.mem_of_getElem? HP.out); exact ⟨this.1, this.2.1⟩))
        clear hu
        go_wp2_with (go_at_call 17; (with_reducible refine Calls.mono (rHas C N u _ hcc) ?_); rintro e w2 ⟨rfl, rfl⟩; rw [du])
        go_ret2
        exact ⟨chp_no HX.out, by rw [HME.out]; exact HS.out.1.trans (HB2.out.mono hMs)⟩
    · have hte : t = n := by omega
      have hd : decide ((t : Int) < (n : Int)) = false := decide_eq_false (by omega)
      rw [hte] at HS HLI HVA
      have HV : Hid (∀ p ∈ ps, 0 ≤ p.1 ∧ p.1 < (N : Int) ∧ 0 ≤ p.2 ∧ p.2 < (N : Int) ∧ p.1 ≠ p.2) := hide (fun p hp => by
        obtain ⟨j, hj⟩ := List.getElem?_of_mem hp
        exact HVA.out j p (by have := (List.getElem?_eq_some_iff.1 hj).1; have := HL.out; omega) hj)
      have HLP : Hid (LP N ps (lks ps n)) := hide (by
        have := HLI.out
        rw [← HL.out] at this ⊢
        exact this.lp)
      have HSH : Hid (∀ a, (lks ps n a).length ≤ 1000) := hide (fun a => by have := HLI.out.short a; omega)
      clear hte HVA HLI
      have x0 := HS.out.2.cell.1
      have x1 := HS.out.2.cell.2.2.2
      go_wp2_with fail
      go_loopw [62] (fun vj wr => ∃ (j : Nat) (L : Nat → List Pr), vj = .int .i64 (j : Int) ∧ j ≤ N ∧ Hid (Below M w wr ∧ Ch wr M C N a1 c1 L) ∧ Hid (∀ a p, p ∈ L a ↔ p ∈ lks ps n a) ∧ Hid (∀ a, (L a).length ≤ 1000) ∧ Hid (∀ a, a < j → Asc (L a))) (fun vj _ => N - (Go.RowKit.intOf vj).toNat)
      case atStart => exact ⟨0, lks ps n, rfl, Nat.zero_le _, HS, hide (fun _ _ => .rfl), HSH, hide (fun a h => by omega)⟩
      case round =>
        clear HS HSH x0 x1
        obtain ⟨j, L, rfl, hj, HS, HME2, HSH, HAS⟩ := hrel
        have x1 := HS.out.2.cell.2.2.2
        by_cases h5 : j < N
        · have hd5 : decide ((j : Int) < (N : Int)) = true := decide_eq_true (by omega)
          have hj64 : j < 64 := by omega
          have hji : (j : Int) < 64 := by omega
          have x0 := HS.out.2.cell.2.1 j hj64
          have cs := rSort M (a1 j) (c1 j) (L j) wr (HSH.out j) (HS.out.2.own j hj64)
          obtain ⟨m, hm⟩ : ∃ m, (L j).length = m := ⟨_, rfl⟩
          rw [hm] at x0 cs
          generalize hgj : a1 j = aj at x0 cs
          generalize hgc : c1 j = cj at x0 cs
          clear hm
          go_wp2_with (go_at_call 20; (with_reducible refine Calls.mono cs ?_); rintro e w5 ⟨rfl, l5, hp5, ho5, hx5, hb5, hs5⟩)
          subst hgj hgc
          have HSN : Hid (Below M w w5 ∧ Ch w5 M C N a1 c1 (upd L j l5)) := hide ⟨HS.out.1.trans hb5, Ch.sorted HS.out.2 hj64 hp5 ho5 hx5⟩
          have HMN : Hid (∀ a p, p ∈ upd L j l5 a ↔ p ∈ lks ps n a) := hide (fun a p => by
            by_cases e : a = j
            · subst e
              rw [upd_at]
              exact hp5.mem_iff.trans (HME2.out a p)
            · rw [upd_ne _ _ e]
              exact HME2.out a p)
          have HSN2 : Hid (∀ a, (upd L j l5 a).length ≤ 1000) := hide (fun a => by
            by_cases e : a = j
            · subst e
              rw [upd_at, hp5.length_eq]
              exact HSH.out a
            · rw [upd_ne _ _ e]
              exact HSH.out a)
          have HAN : Hid (∀ a, a < j + 1 → Asc (upd L j l5 a)) := hide (fun a ha => by
            by_cases e : a = j
            · subst e
              rw [upd_at]
              exact hs5
            · rw [upd_ne _ _ e]
              exact HAS.out a (by omega))
          clear hp5 ho5 hx5 hb5 hs5
          exact ⟨⟨j + 1, upd L j l5, by go_num, by omega, HSN, HMN, HSN2, HAN⟩, by simp [Go.RowKit.intOf]; omega⟩
        · have hje : j = N := by omega
          have hd5 : decide ((j : Int) < (N : Int)) = false := decide_eq_false (by omega)
          have h0N : 0 < N := by omega
          have HLQ := hide (HLP.out.perm HME2.out)
          have cf : Calls Tryd.prog 9 #[.pointer (some ⟨C, 0, none⟩), .int .i64 0] wr fun e w' => (∃ far q, e = .returned (.agg (iv far).toArray) ∧ BI N ps L 0 q.length far q) ∧ Below wr.heap.size wr w' := rFar N ps M C 0 a1 c1 L hN64 h0N HLQ.out HSH.out wr HS.out.2
          have hNI : (N : Int) ≤ 64 := by omega
          have HAN : Hid (∀ a, a < N → Asc (L a)) := hide (fun a ha => HAS.out a (by omega))
          clear hje HME2 HAS
          go_wp2_with (first | (go_at_call 9; (with_reducible refine Calls.mono cf ?_); rintro e w6 ⟨⟨far, q, rfl, hbi⟩, hb6⟩; have HBI := hide hbi; have HLF := hide hbi.len; have HB6 := hide hb6; have HC6 := hide (HS.out.2.below hb6); have hz6 := heap_alloc_new w6 (.cells #[.int .i64 0, .int .i64 0, .int .i64 0, .int .i64 0, .int .i64 0, .int .i64 0, .int .i64 0, .int .i64 0, .int .i64 0, .int .i64 0, .int .i64 0, .int .i64 0, .int .i64 0, .int .i64 0, .int .i64 0, .int .i64 0, .int .i64 0, .int .i64 0, .int .i64 0, .int .i64 0, .int .i64 0, .int .i64 0, .int .i64 0, .int .i64 0, .int .i64 0, .int .i64 0, .int .i64 0, .int .i64 0, .int .i64 0, .int .i64 0, .int .i64 0, .int .i64 0, .int .i64 0, .int .i64 0, .int .i64 0, .int .i64 0, .int .i64 0, .int .i64 0, .int .i64 0, .int .i64 0, .int .i64 0, .int .i64 0, .int .i64 0, .int .i64 0, .int .i64 0, .int .i64 0, .int .i64 0, .int .i64 0, .int .i64 0, .int .i64 0, .int .i64 0, .int .i64 0, .int .i64 0, .int .i64 0, .int .i64 0, .int .i64 0, .int .i64 0, .int .i64 0, .int .i64 0, .int .i64 0, .int .i64 0, .int .i64 0, .int .i64 0, .int .i64 0] 44); have HZ6 := hide hz6; clear hbi hb6 hz6) | (refine wpList_store_row rfl 44 _ _ rfl w6.heap.size _ rfl rfl _ _ HZ6.out (by rw [infoD]; simp [iv_len, HLF.out]) (by simp [iv_len, HLF.out]) (iv_one far) ?_; have HD7 : Hid (((w6.alloc (.cells #[.int .i64 0, .int .i64 0, .int .i64 0, .int .i64 0, .int .i64 0, .int .i64 0, .int .i64 0, .int .i64 0, .int .i64 0, .int .i64 0, .int .i64 0, .int .i64 0, .int .i64 0, .int .i64 0, .int .i64 0, .int .i64 0, .int .i64 0, .int .i64 0, .int .i64 0, .int .i64 0, .int .i64 0, .int .i64 0, .int .i64 0, .int .i64 0, .int .i64 0, .int .i64 0, .int .i64 0, .int .i64 0, .int .i64 0, .int .i64 0, .int .i64 0, .int .i64 0, .int .i64 0, .int .i64 0, .int .i64 0, .int .i64 0, .int .i64 0, .int .i64 0, .int .i64 0, .int .i64 0, .int .i64 0, .int .i64 0, .int .i64 0, .int .i64 0, .int .i64 0, .int .i64 0, .int .i64 0, .int .i64 0, .int .i64 0, .int .i64 0, .int .i64 0, .int .i64 0, .int .i64 0, .int .i64 0, .int .i64 0, .int .i64 0, .int .i64 0, .int .i64 0, .int .i64 0, .int .i64 0, .int .i64 0, .int .i64 0, .int .i64 0, .int .i64 0] 44)).setRow w6.heap.size (iv far).toArray).heap[w6.heap.size]? = some (.cells (iv far).toArray 44 (0, 0))) := hide (setRow_heap _ _ _ _ _ _ HZ6.out); have HB7 : Hid (Below w6.heap.size w6 ((w6.alloc (.cells #[.int .i64 0, .int .i64 0, .int .i64 0, .int .i64 0, .int .i64 0, .int .i64 0, .int .i64 0, .int .i64 0, .int .i64 0, .int .i64 0, .int .i64 0, .int .i64 0, .int .i64 0, .int .i64 0, .int .i64 0, .int .i64 0, .int .i64 0, .int .i64 0, .int .i64 0, .int .i64 0, .int .i64 0, .int .i64 0, .int .i64 0, .int .i64 0, .int .i64 0, .int .i64 0, .int .i64 0, .int .i64 0, .int .i64 0, .int .i64 0, .int .i64 0, .int .i64 0, .int .i64 0, .int .i64 0, .int .i64 0, .int .i64 0, .int .i64 0, .int .i64 0, .int .i64 0, .int .i64 0, .int .i64 0, .int .i64 0, .int .i64 0, .int .i64 0, .int .i64 0, .int .i64 0, .int .i64 0, .int .i64 0, .int .i64 0, .int .i64 0, .int .i64 0, .int .i64 0, .int .i64 0, .int .i64 0, .int .i64 0, .int .i64 0, .int .i64 0, .int .i64 0, .int .i64 0, .int .i64 0, .int .i64 0, .int .i64 0, .int .i64 0, .int .i64 0] 44)).setRow w6.heap.size (iv far).toArray)) := hide (brow (bnew _ _) _ _ (Nat.le_refl _)); clear HZ6; generalize (w6.alloc (.cells #[.int .i64 0, .int .i64 0, .int .i64 0, .int .i64 0, .int .i64 0, .int .i64 0, .int .i64 0, .int .i64 0, .int .i64 0, .int .i64 0, .int .i64 0, .int .i64 0, .int .i64 0, .int .i64 0, .int .i64 0, .int .i64 0, .int .i64 0, .int .i64 0, .int .i64 0, .int .i64 0, .int .i64 0, .int .i64 0, .int .i64 0, .int .i64 0, .int .i64 0, .int .i64 0, .int .i64 0, .int .i64 0, .int .i64 0, .int .i64 0, .int .i64 0, .int .i64 0, .int .i64 0, .int .i64 0, .int .i64 0, .int .i64 0, .int .i64 0, .int .i64 0, .int .i64 0, .int .i64 0, .int .i64 0, .int .i64 0, .int .i64 0, .int .i64 0, .int .i64 0, .int .i64 0, .int .i64 0, .int .i64 0, .int .i64 0, .int .i64 0, .int .i64 0, .int .i64 0, .int .i64 0, .int .i64 0, .int .i64 0, .int .i64 0, .int .i64 0, .int .i64 0, .int .i64 0, .int .i64 0, .int .i64 0, .int .i64 0, .int .i64 0, .int .i64 0] 44)).setRow w6.heap.size (iv far).toArray = W7 at *; have c7 := (HC6.out.below HB7.out).cell.1; have z7 := (HC6.out.below HB7.out).cell.2.2.2))
          have hlt : (far.take N).length = N := by
            rw [List.length_take, HLF.out]
            omega
          have hIA : IA W7 (some ⟨w6.heap.size, 0, none⟩) (far.take N) := .inr ⟨w6.heap.size, 0, rfl, fun j z hj => by
            rw [List.getElem?_take] at hj
            split at hj
            · rw [Nat.zero_add]
              refine (cell_of_row _ _ j _ _ _ HD7.out).trans ?_
              rw [List.getElem?_toArray]
              exact iv_at hj
            · cases hj⟩
          have cc := rContainsI (-1) (some ⟨w6.heap.size, 0, none⟩) 64 (far.take N) (by omega) W7 hIA
          rw [hlt] at cc
          have HT := hide (tells_far hN64 h0N HV.out HLQ.out HBI.out)
          have HBF : Hid (Below w.heap.size w W7) := hide (by
            rw [HME.out]
            have h7 := HS.out.1.size
            have h8 := HME.out
            exact HS.out.1.trans ((HB6.out.trans (HB7.out.mono HB6.out.size)).mono (by omega)))
          clear hlt hIA
          by_cases hm : (-1 : Int) ∈ far.take N
          · have HX := hide (HT.out.1 hm)
            rw [decide_eq_true hm] at cc
            clear hm
            go_wp2_with (go_at_call 23; (with_reducible refine Calls.mono cc ?_); rintro e w8 ⟨rfl, rfl⟩)
            go_ret2
            exact ⟨chp_no HX.out, HBF.out⟩
          · have HX : Hid (RtP (N : Int) ps) := hide (Classical.byContradiction fun h => hm (HT.out.2 h))
            rw [decide_eq_false hm] at cc
            clear hm
            go_wp2_with (go_at_call 23; (with_reducible refine Calls.mono cc ?_); rintro e w8 ⟨rfl, rfl⟩)
            go_ret2
            exact ⟨.inl ⟨HX.out, C, a1, c1, L, rfl, by rw [HME.out]; exact HC6.out.below HB7.out, HLQ.out, HAN.out, HSH.out⟩, HBF.out⟩
end Go.Proofs.YtipceoeihiaieaaDoor.Rou
