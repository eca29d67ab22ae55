/- Layer 20: Line, Ring, Grid of the program. -/
import Derived.Test.YtjniiobhcnjgbaaDoorAb20
namespace Go.Proofs.YtjniiobhcnjgbaaDoor.Rou
open Go.RowKit

/-- What Line, Ring, Grid answer. -/
def MPost (W : World) (r : Option (Int × List Pr)) (e : Ending) (w' : World) : Prop :=
  Below W.heap.size W w' ∧ ((r = none ∧ e = .returned (.tuple #[.agg #[.int .i64 0, .slice none 0 0], .int .i64 2])) ∨ ∃ n ps ao c, r = some (n, ps) ∧ e = .returned (.tuple #[.agg #[.int .i64 n, .slice ao ps.length c], .int .i64 0]) ∧ PO w' W.heap.size ao c ps)
def lnG (n : Nat) : List Pr := gI n n n
def lineR (w : Int) : Option (Int × List Pr) := if 1 ≤ w ∧ w ≤ 64 then some (w, lnG w.toNat) else none
def ringR (w : Int) : Option (Int × List Pr) := if 3 ≤ w ∧ w ≤ 64 then some (w, lnG w.toNat ++ [(w - 1, 0)]) else none
def gridR (w h : Int) : Option (Int × List Pr) := if 1 ≤ w ∧ w ≤ 64 ∧ 1 ≤ h ∧ h ≤ 64 ∧ w * h ≤ 64 then some (w * h, gI w.toNat (w * h).toNat (w * h).toNat) else none
theorem z_keep (W : World) {V : World} (h : Below (W.heap.size + 1) (W.alloc (.cells #[.int .i64 0, .slice none 0 0] 24)) V) : Below W.heap.size W V ∧ V.heap[W.heap.size]? = some (.cells #[.int .i64 0, .slice none 0 0] 24 (0, 0)) :=
  ⟨(bnew W (.cells #[.int .i64 0, .slice none 0 0] 24)).trans (h.mono (by omega)), (h.block _ (Nat.lt_succ_self _)).trans (heap_alloc_new _ _)⟩
/-- The answer's cells are filled. -/
theorem PO.fill {V : World} {B B' Z : Nat} {ao : Option Addr} {c : Nat} {ps : List Pr} (h : PO V B' ao c ps) (hB : B ≤ B') (hz : V.heap[Z]? = some (.cells #[.int .i64 0, .slice none 0 0] 24 (0, 0))) (cs : Array Value) : PO (V.setRow Z cs) B ao c ps := by
  have h1 : V.ownsRow B 39 2 (.slice ao ps.length c) ps.length (pcs ps) := ⟨h.1, h.2.imp id fun ⟨g, cap, cur, q1, q2, q3⟩ => ⟨g, cap, cur, q1, Nat.le_trans hB q2, q3⟩⟩
  exact own_of_block h1 fun k hk => setRow_other _ _ _ _ (fun e => own_ne h1 hz (by decide) (by rw [hk, e]))
theorem PO.base {V : World} {B B' : Nat} {ao : Option Addr} {c : Nat} {ps : List Pr} (h : PO V B' ao c ps) (hB : B ≤ B') : PO V B ao c ps := ⟨h.1, h.2.imp id fun ⟨g, cap, cur, q1, q2, q3⟩ => ⟨g, cap, cur, q1, Nat.le_trans hB q2, q3⟩⟩
theorem GP.boxed {W V : World} {n : Int} {ao : Option Addr} {c m : Nat} {ps : List Pr} (hb : Below W.heap.size W V) (hz : V.heap[W.heap.size]? = some (.cells #[.int .i64 0, .slice none 0 0] 24 (0, 0))) (hO : PO V (W.heap.size + 1) ao c ps) (hm : ps.length = m) :
    GP W (V.alloc (.cells #[.int .i64 n, .slice ao m c] 24)) W.heap.size V.heap.size n ao c m ps :=
  ⟨bkp hb (bnew _ _), heap_alloc_new _ _, (Below.heap_alloc _ _ _ (Array.getElem?_eq_some_iff.1 hz).1).trans hz, (hO.base (Nat.le_succ _)).below (bnew _ _), hm, Nat.le_refl _, (Array.getElem?_eq_some_iff.1 hz).1⟩
set_option maxRecDepth 100000 in
set_option maxHeartbeats 2000000 in
theorem rLine (w : Int) (W : World) : Calls Tryd.prog 4 #[.int .i64 w] W (MPost W (lineR w)) := by
  have hz0 : (W.alloc (.cells #[.int .i64 0, .slice none 0 0] 24)).heap[W.heap.size]? = some (.cells #[.int .i64 0, .slice none 0 0] 24 (0, 0)) := heap_alloc_new _ _
  have HZ0 := hide hz0
  have HB0 := hide (bnew W (.cells #[.int .i64 0, .slice none 0 0] 24))
  clear hz0
  by_cases hr : 1 ≤ w ∧ w ≤ 64
  · have hR : lineR w = some (w, lnG w.toNat) := if_pos hr
    rw [hR]
    obtain ⟨n, rfl⟩ : ∃ n : Nat, w = (n : Int) := ⟨w.toNat, by omega⟩
    rw [Int.toNat_natCast]
    have c1 := rGrid n 1 n (by omega) (by omega) (Nat.mul_one n) (by omega) (W.alloc (.cells #[.int .i64 0, .slice none 0 0] 24))
    have d1 : decide ((n : Int) < 1) = false := decide_eq_false (by omega)
    have d2 : decide ((n : Int) > 64) = false := decide_eq_false (by omega)
    have d3 : decide ((64 : Int) < (n : Int)) = false := decide_eq_false (by omega)
    unfold mV at c1
    rw [show gI n n n = lnG n from rfl] at c1
    generalize lnG n = ps at *
    obtain ⟨m, hm⟩ : ∃ m, ps.length = m := ⟨_, rfl⟩
    have HM := hide hm
    rw [hm] at c1
    clear hm hr hR
    go_enter Tryd.func4, Tryd.ntmps4
    go_wp2_with (go_at_call 15; (with_reducible refine Calls.mono c1 ?_); rintro e w1 ⟨ao, c, rfl, hO, hb⟩; obtain ⟨q1, q2⟩ := z_keep W (by simpa using hb); obtain ⟨z0, z1, z2⟩ := m_cells q2; have zf : ∀ i, w1.frozen? ⟨W.heap.size, i, none⟩ = false := fun i => fz q2 i; have HB1 := hide q1; have HZ1 := hide q2; have HO1 := hide hO; clear hb q1 q2 hO c1)
    rw [m_set _ _ _ _ _ _ _ HZ1.out]
    refine bodyPost_ret (results_ct rfl _ _ W.heap.size _ _ _ _ rfl (setRow_heap _ _ _ _ _ _ HZ1.out) Tryd.underlying24 rfl (by exact infoC)) rfl ?_
    exact ⟨brow HB1.out _ _ (Nat.le_refl _), .inr ⟨_, _, ao, c, rfl, by rw [HM.out]; rfl, PO.fill HO1.out (by simp) HZ1.out _⟩⟩
  · have hR : lineR w = none := if_neg hr
    rw [hR]
    by_cases h1 : w < 1
    · have d1 : decide (w < 1) = true := decide_eq_true h1
      clear hr hR
      go_enter Tryd.func4, Tryd.ntmps4
      go_wp2_with fail
      refine bodyPost_ret (results_ct rfl _ _ W.heap.size _ _ _ _ rfl HZ0.out Tryd.underlying24 rfl (by exact infoC)) rfl ?_
      exact ⟨HB0.out, .inl ⟨rfl, rfl⟩⟩
    · have d1 : decide (w < 1) = false := decide_eq_false h1
      have d2 : decide (w > 64) = true := decide_eq_true (by omega)
      have d3 : decide (64 < w) = true := decide_eq_true (by omega)
      clear hr hR
      go_enter Tryd.func4, Tryd.ntmps4
      go_wp2_with fail
      refine bodyPost_ret (results_ct rfl _ _ W.heap.size _ _ _ _ rfl HZ0.out Tryd.underlying24 rfl (by exact infoC)) rfl ?_
      exact ⟨HB0.out, .inl ⟨rfl, rfl⟩⟩
set_option maxRecDepth 100000 in
set_option maxHeartbeats 2000000 in
theorem rRing (w : Int) (W : World) : Calls Tryd.prog 6 #[.int .i64 w] W (MPost W (ringR w)) := by
  have hz0 : (W.alloc (.cells #[.int .i64 0, .slice none 0 0] 24)).heap[W.heap.size]? = some (.cells #[.int .i64 0, .slice none 0 0] 24 (0, 0)) := heap_alloc_new _ _
  have HZ0 := hide hz0
  have HB0 := hide (bnew W (.cells #[.int .i64 0, .slice none 0 0] 24))
  clear hz0
  by_cases hr : 3 ≤ w ∧ w ≤ 64
  · have hR : ringR w = some (w, lnG w.toNat ++ [(w - 1, 0)]) := if_pos hr
    rw [hR]
    obtain ⟨n, rfl⟩ : ∃ n : Nat, w = (n : Int) := ⟨w.toNat, by omega⟩
    rw [Int.toNat_natCast]
    have c1 := rGrid n 1 n (by omega) (by omega) (Nat.mul_one n) (by omega) (W.alloc (.cells #[.int .i64 0, .slice none 0 0] 24))
    have d1 : decide ((n : Int) < 3) = false := decide_eq_false (by omega)
    have d2 : decide ((n : Int) > 64) = false := decide_eq_false (by omega)
    have d3 : decide ((64 : Int) < (n : Int)) = false := decide_eq_false (by omega)
    unfold mV at c1
    have hgl := gI_len n n n
    rw [show gI n n n = lnG n from rfl] at c1 hgl
    generalize lnG n = ps at *
    obtain ⟨m, hm⟩ : ∃ m, ps.length = m := ⟨_, rfl⟩
    have HM := hide hm
    rw [hm] at c1 hgl
    have h3 := hr.1
    have h64 := hr.2
    clear hm hr hR
    go_enter Tryd.func6, Tryd.ntmps6
    go_wp2_with (first
      | (go_at_call 15; (with_reducible refine Calls.mono c1 ?_); rintro e w1 ⟨ao, c, rfl, hO, hb⟩; obtain ⟨q1, q2⟩ := z_keep W (by simpa using hb); have HG1 := hide (GP.boxed (n := (n : Int)) q1 q2 (by simpa using hO) HM.out); clear hb q1 q2 hO c1)
      | (at_builtin; refine push_pair rfl _ _ rfl m HM.out rfl HG1.out.own ((n : Int) - 1, 0) _ rfl (w1.heap.size + 1) (by simp) rfl (by omega) HG1.out.bel.size ?_))
    intro g cap w2 hO hgr _
    obtain ⟨q1, q2, q3⟩ := GP.put HG1.out _ hO hgr
    obtain ⟨y0, y1, y2⟩ := m_cells q1
    have yf := fz q1 1
    have HG2 := hide q3
    obtain ⟨x0, x1, x2⟩ := m_cells q3.hd
    obtain ⟨z0, z1, z2⟩ := m_cells q3.z
    have zf : ∀ i, (w2.setCell ⟨w1.heap.size, 1, none⟩ (.slice (some ⟨g, 0, none⟩) (m + 1) cap)).frozen? ⟨W.heap.size, i, none⟩ = false := fun i => fz q3.z i
    clear q1 q2 q3 hO hgr HG1
    go_wp2_with fail
    rw [m_set _ _ _ _ _ _ _ HG2.out.z]
    refine bodyPost_ret (results_ct rfl _ _ W.heap.size _ _ _ _ rfl (setRow_heap _ _ _ _ _ _ HG2.out.z) Tryd.underlying24 rfl (by exact infoC)) rfl ?_
    refine ⟨brow HG2.out.bel _ _ (Nat.le_refl _), .inr ⟨_, _, _, cap, rfl, by rw [HG2.out.len]; rfl, HG2.out.own.fill (Nat.le_refl _) HG2.out.z _⟩⟩
  · have hR : ringR w = none := if_neg hr
    rw [hR]
    by_cases h1 : w < 3
    · have d1 : decide (w < 3) = true := decide_eq_true h1
      clear hr hR
      go_enter Tryd.func6, Tryd.ntmps6
      go_wp2_with fail
      refine bodyPost_ret (results_ct rfl _ _ W.heap.size _ _ _ _ rfl HZ0.out Tryd.underlying24 rfl (by exact infoC)) rfl ?_
      exact ⟨HB0.out, .inl ⟨rfl, rfl⟩⟩
    · have d1 : decide (w < 3) = false := decide_eq_false h1
      have d2 : decide (w > 64) = true := decide_eq_true (by omega)
      have d3 : decide (64 < w) = true := decide_eq_true (by omega)
      clear hr hR
      go_enter Tryd.func6, Tryd.ntmps6
      go_wp2_with fail
      refine bodyPost_ret (results_ct rfl _ _ W.heap.size _ _ _ _ rfl HZ0.out Tryd.underlying24 rfl (by exact infoC)) rfl ?_
      exact ⟨HB0.out, .inl ⟨rfl, rfl⟩⟩
set_option maxRecDepth 100000 in
set_option maxHeartbeats 2000000 in
theorem rGridC (w h : Int) (W : World) : Calls Tryd.prog 8 #[.int .i64 w, .int .i64 h] W (MPost W (gridR w h)) := by
  have hz0 : (W.alloc (.cells #[.int .i64 0, .slice none 0 0] 24)).heap[W.heap.size]? = some (.cells #[.int .i64 0, .slice none 0 0] 24 (0, 0)) := heap_alloc_new _ _
  have HZ0 := hide hz0
  have HB0 := hide (bnew W (.cells #[.int .i64 0, .slice none 0 0] 24))
  clear hz0
  by_cases h1 : w < 1
  · have d1 : decide (w < 1) = true := decide_eq_true h1
    have hR : gridR w h = none := if_neg (by omega)
    rw [hR]
    clear hR
    go_enter Tryd.func8, Tryd.ntmps8
    go_wp2_with fail
    refine bodyPost_ret (results_ct rfl _ _ W.heap.size _ _ _ _ rfl HZ0.out Tryd.underlying24 rfl (by exact infoC)) rfl ?_
    exact ⟨HB0.out, .inl ⟨rfl, rfl⟩⟩
  have d1 : decide (w < 1) = false := decide_eq_false h1
  by_cases h2 : 64 < w
  · have d2 : decide (w > 64) = true := decide_eq_true h2
    have d2' : decide (64 < w) = true := decide_eq_true h2
    have hR : gridR w h = none := if_neg (by omega)
    rw [hR]
    clear hR
    go_enter Tryd.func8, Tryd.ntmps8
    go_wp2_with fail
    refine bodyPost_ret (results_ct rfl _ _ W.heap.size _ _ _ _ rfl HZ0.out Tryd.underlying24 rfl (by exact infoC)) rfl ?_
    exact ⟨HB0.out, .inl ⟨rfl, rfl⟩⟩
  have d2 : decide (w > 64) = false := decide_eq_false h2
  have d2' : decide (64 < w) = false := decide_eq_false h2
  by_cases h3 : h < 1
  · have d3 : decide (h < 1) = true := decide_eq_true h3
    have hR : gridR w h = none := if_neg (by omega)
    rw [hR]
    clear hR
    go_enter Tryd.func8, Tryd.ntmps8
    go_wp2_with fail
    refine bodyPost_ret (results_ct rfl _ _ W.heap.size _ _ _ _ rfl HZ0.out Tryd.underlying24 rfl (by exact infoC)) rfl ?_
    exact ⟨HB0.out, .inl ⟨rfl, rfl⟩⟩
  have d3 : decide (h < 1) = false := decide_eq_false h3
  by_cases h4 : 64 < h
  · have d4 : decide (h > 64) = true := decide_eq_true h4
    have d4' : decide (64 < h) = true := decide_eq_true h4
    have hR : gridR w h = none := if_neg (by omega)
    rw [hR]
    clear hR
    go_enter Tryd.func8, Tryd.ntmps8
    go_wp2_with fail
    refine bodyPost_ret (results_ct rfl _ _ W.heap.size _ _ _ _ rfl HZ0.out Tryd.underlying24 rfl (by exact infoC)) rfl ?_
    exact ⟨HB0.out, .inl ⟨rfl, rfl⟩⟩
  have d4 : decide (h > 64) = false := decide_eq_false h4
  have d4' : decide (64 < h) = false := decide_eq_false h4
  obtain ⟨a, rfl⟩ : ∃ a : Nat, w = (a : Int) := ⟨w.toNat, by omega⟩
  obtain ⟨b, rfl⟩ : ∃ b : Nat, h = (b : Int) := ⟨h.toNat, by omega⟩
  obtain ⟨n, hn⟩ : ∃ n, a * b = n := ⟨_, rfl⟩
  have hm : (a : Int) * (b : Int) = (n : Int) := by rw [← hn]; simp
  have hn4 : n ≤ 4096 := by rw [← hn]; exact Nat.mul_le_mul (show a ≤ 64 by omega) (show b ≤ 64 by omega)
  by_cases h5 : 64 < n
  · have d5 : decide ((n : Int) > 64) = true := decide_eq_true (by omega)
    have d5' : decide (64 < (n : Int)) = true := decide_eq_true (by omega)
    have hR : gridR a b = none := if_neg (by rw [hm]; omega)
    rw [hR]
    clear hR hn
    go_enter Tryd.func8, Tryd.ntmps8
    go_wp2_with fail
    refine bodyPost_ret (results_ct rfl _ _ W.heap.size _ _ _ _ rfl HZ0.out Tryd.underlying24 rfl (by exact infoC)) rfl ?_
    exact ⟨HB0.out, .inl ⟨rfl, rfl⟩⟩
  have d5 : decide ((n : Int) > 64) = false := decide_eq_false (by omega)
  have d5' : decide (64 < (n : Int)) = false := decide_eq_false (by omega)
  have hR : gridR a b = some ((n : Int), gI a n n) := by
    unfold gridR
    rw [if_pos (by rw [hm]; omega), hm]
    rfl
  rw [hR]
  have c1 := rGrid a b n (by omega) (by omega) hn (by omega) (W.alloc (.cells #[.int .i64 0, .slice none 0 0] 24))
  unfold mV at c1
  generalize gI a n n = ps at *
  obtain ⟨m, hml⟩ : ∃ m, ps.length = m := ⟨_, rfl⟩
  have HM := hide hml
  rw [hml] at c1
  clear hml hR hn
  go_enter Tryd.func8, Tryd.ntmps8
  go_wp2_with (go_at_call 15; (with_reducible refine Calls.mono c1 ?_); rintro e w1 ⟨ao, c, rfl, hO, hb⟩; obtain ⟨q1, q2⟩ := z_keep W (by simpa using hb); obtain ⟨z0, z1, z2⟩ := m_cells q2; have zf : ∀ i, w1.frozen? ⟨W.heap.size, i, none⟩ = false := fun i => fz q2 i; have HB1 := hide q1; have HZ1 := hide q2; have HO1 := hide hO; clear hb q1 q2 hO c1)
  rw [m_set _ _ _ _ _ _ _ HZ1.out]
  refine bodyPost_ret (results_ct rfl _ _ W.heap.size _ _ _ _ rfl (setRow_heap _ _ _ _ _ _ HZ1.out) Tryd.underlying24 rfl (by exact infoC)) rfl ?_
  exact ⟨brow HB1.out _ _ (Nat.le_refl _), .inr ⟨_, _, ao, c, rfl, by rw [HM.out]; rfl, PO.fill HO1.out (by simp) HZ1.out _⟩⟩
end Go.Proofs.YtjniiobhcnjgbaaDoor.Rou
