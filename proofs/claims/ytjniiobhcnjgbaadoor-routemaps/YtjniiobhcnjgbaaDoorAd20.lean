/- Layer 20: the document's Line, Ring, Grid (gen_ad20.py). -/
import Derived.Test.YtjniiobhcnjgbaaDoorAc20
namespace Go.Proofs.YtjniiobhcnjgbaaDoor.Rou
open Go.RowKit

def lnI : Nat → List Pr
  | 0 => []
  | i + 1 => lnI i ++ [((i : Int), (i : Int) + 1)]
theorem lnI_len : ∀ i, (lnI i).length = i
  | 0 => rfl
  | i + 1 => by simp [lnI, lnI_len i]
theorem gI_ln (n : Nat) : ∀ i, i ≤ n → gI n n i = lnI (min i (n - 1))
  | 0, _ => by simp [gI, lnI]
  | i + 1, h => by
    have ih := gI_ln n i (by omega)
    have hm : i % n = i := Nat.mod_eq_of_lt (by omega)
    simp only [gI, hm, if_neg (show ¬ i + n < n by omega), List.append_nil, ih]
    by_cases h1 : i + 1 < n
    · rw [if_pos h1, show min (i + 1) (n - 1) = i + 1 by omega, show min i (n - 1) = i by omega]
      rfl
    · rw [if_neg h1, List.append_nil, show min (i + 1) (n - 1) = n - 1 by omega, show min i (n - 1) = n - 1 by omega]
theorem lnG_eq (n : Nat) : lnG n = lnI (n - 1) := by
  unfold lnG
  rw [gI_ln n n (Nat.le_refl _), show min n (n - 1) = n - 1 by omega]
set_option maxRecDepth 100000 in
set_option maxHeartbeats 2000000 in
theorem dLine (w : Int) (W : World) : Calls Tryd.prog 5 #[.int .i64 w] W (MPost W (lineR w)) := by
  have hz0 : (W.alloc (.cells #[.int .i64 0, .slice none 0 0] 24)).heap[W.heap.size]? = some (.cells #[.int .i64 0, .slice none 0 0] 24 (0, 0)) := heap_alloc_new _ _
  have HZ0 := hide hz0
  have HB0 := hide (bnew W (.cells #[.int .i64 0, .slice none 0 0] 24))
  clear hz0
  by_cases hr : 1 ≤ w ∧ w ≤ 64
  · have hR : lineR w = some (w, lnG w.toNat) := if_pos hr
    rw [hR]
    obtain ⟨n, rfl⟩ : ∃ n : Nat, w = (n : Int) := ⟨w.toNat, by omega⟩
    rw [Int.toNat_natCast, lnG_eq]
    have HG := hide (GP.start W n)
    have d1 : decide ((n : Int) < 1) = false := decide_eq_false (by omega)
    have d2 : decide ((n : Int) > 64) = false := decide_eq_false (by omega)
    have d3 : decide ((64 : Int) < (n : Int)) = false := decide_eq_false (by omega)
    have h64 : n ≤ 64 := by omega
    have h0 : 1 ≤ n := by omega
    clear hr hR HZ0 HB0
    go_enter Tryd.func5, Tryd.ntmps5
    go_wp2_with fail
    generalize (W.alloc (.cells #[.int .i64 0, .slice none 0 0] 24)).alloc (.cells #[.int .i64 n, .slice none 0 0] 24) = W1 at *
    obtain ⟨D, hD⟩ : ∃ D, W.heap.size + 1 = D := ⟨_, rfl⟩
    rw [hD] at HG ⊢
    go_loopw [5] (fun vi wr => ∃ i : Nat, vi = .int .i64 (i : Int) ∧ i ≤ n - 1 ∧ ∃ ao c, Hid (GP W wr W.heap.size D n ao c i (lnI i))) (fun vi _ => n - (Go.RowKit.intOf vi).toNat)
    case atStart => exact ⟨0, rfl, Nat.zero_le _, none, 0, HG⟩
    case round =>
      clear HG
      obtain ⟨i, rfl, hi, ao, c, HG⟩ := hrel
      obtain ⟨x0, x1, x2⟩ := m_cells HG.out.hd
      have HB := hide HG.out.bel.size
      by_cases hin : i + 1 < n
      · have hd : decide ((i : Int) + 1 < (n : Int)) = true := decide_eq_true (by omega)
        go_wp2_with (at_builtin; refine push_pair rfl _ _ rfl i HG.out.len rfl HG.out.own ((i : Int), (i : Int) + 1) _ rfl _ rfl rfl (by omega) HB.out ?_)
        intro g cap w2 hO hgr _
        obtain ⟨q1, q2, q3⟩ := GP.put HG.out _ hO hgr
        obtain ⟨y0, y1, y2⟩ := m_cells q1
        have yf := fz q1 1
        have HG2 := hide q3
        clear q1 q2 q3 hO hgr HG HB
        go_wp2_with fail
        go_roundw
        case rel => exact ⟨i + 1, by go_num, by omega, _, _, HG2⟩
        case measure => simp [Go.RowKit.intOf]; omega
      · have hd : decide ((i : Int) + 1 < (n : Int)) = false := decide_eq_false (by omega)
        obtain rfl : i = n - 1 := by omega
        obtain ⟨z0, z1, z2⟩ := m_cells HG.out.z
        have zf : ∀ i, wr.frozen? ⟨W.heap.size, i, none⟩ = false := fun i => fz HG.out.z i
        go_wp2_with fail
        rw [m_set _ _ _ _ _ _ _ HG.out.z]
        refine bodyPost_ret (results_ct rfl _ _ W.heap.size _ _ _ _ rfl (setRow_heap _ _ _ _ _ _ HG.out.z) Tryd.underlying24 rfl (by exact infoC)) rfl ?_
        exact ⟨brow HG.out.bel _ _ (Nat.le_refl _), .inr ⟨_, _, ao, c, rfl, by rw [HG.out.len]; rfl, HG.out.own.fill (Nat.le_refl _) HG.out.z _⟩⟩
  · have hR : lineR w = none := if_neg hr
    rw [hR]
    by_cases h1 : w < 1
    · have d1 : decide (w < 1) = true := decide_eq_true h1
      clear hr hR
      go_enter Tryd.func5, Tryd.ntmps5
      go_wp2_with fail
      refine bodyPost_ret (results_ct rfl _ _ W.heap.size _ _ _ _ rfl HZ0.out Tryd.underlying24 rfl (by exact infoC)) rfl ?_
      exact ⟨HB0.out, .inl ⟨rfl, rfl⟩⟩
    · have d1 : decide (w < 1) = false := decide_eq_false h1
      have d2 : decide (w > 64) = true := decide_eq_true (by omega)
      have d3 : decide (64 < w) = true := decide_eq_true (by omega)
      clear hr hR
      go_enter Tryd.func5, Tryd.ntmps5
      go_wp2_with fail
      refine bodyPost_ret (results_ct rfl _ _ W.heap.size _ _ _ _ rfl HZ0.out Tryd.underlying24 rfl (by exact infoC)) rfl ?_
      exact ⟨HB0.out, .inl ⟨rfl, rfl⟩⟩
set_option maxRecDepth 100000 in
set_option maxHeartbeats 2000000 in
theorem dRing (w : Int) (W : World) : Calls Tryd.prog 7 #[.int .i64 w] W (MPost W (ringR w)) := by
  have c0 := dLine w (W.alloc (.cells #[.int .i64 0, .slice none 0 0] 24))
  by_cases hr : 1 ≤ w ∧ w ≤ 64
  · have hR : lineR w = some (w, lnG w.toNat) := if_pos hr
    rw [hR] at c0
    obtain ⟨n, rfl⟩ : ∃ n : Nat, w = (n : Int) := ⟨w.toNat, by omega⟩
    rw [Int.toNat_natCast] at c0
    have hgl := gI_len n n n
    rw [show gI n n n = lnG n from rfl] at hgl
    have hR2 : 3 ≤ n → ringR n = some ((n : Int), lnG n ++ [((n : Int) - 1, 0)]) := fun h => by
      unfold ringR
      rw [if_pos (by omega), Int.toNat_natCast]
    generalize lnG n = ps at *
    obtain ⟨m, hm⟩ : ∃ m, ps.length = m := ⟨_, rfl⟩
    have HM := hide hm
    have c1 : Calls Tryd.prog 5 #[.int .i64 (n : Int)] (W.alloc (.cells #[.int .i64 0, .slice none 0 0] 24)) fun e w' => ∃ ao c, e = .returned (.tuple #[.agg #[.int .i64 n, .slice ao m c], .int .i64 0]) ∧ Hid (GP W (w'.alloc (.cells #[.int .i64 n, .slice ao m c] 24)) W.heap.size w'.heap.size n ao c m ps) := by
      refine c0.mono ?_
      rintro e w' ⟨hb, ⟨h, _⟩ | ⟨n', ps', ao, c, h, rfl, hO⟩⟩
      · cases h
      · cases h
        obtain ⟨q1, q2⟩ := z_keep W (by simpa using hb)
        exact ⟨ao, c, by rw [hm], hide (GP.boxed q1 q2 (by simpa using hO) hm)⟩
    rw [hm] at hgl
    have h64 := hr.2
    by_cases h3 : n < 3
    · have d3 : decide ((n : Int) < 3) = true := decide_eq_true (by omega)
      have hRn : ringR n = none := if_neg (by omega)
      rw [hRn]
      clear c0 hR hRn hR2 hm hr
      go_enter Tryd.func7, Tryd.ntmps7
      go_wp2_with (go_at_call 5; (with_reducible refine Calls.mono c1 ?_); rintro e w1 ⟨ao, c, rfl, HG⟩; obtain ⟨z0, z1, z2⟩ := m_cells HG.out.z; have zf : ∀ i, (w1.alloc (.cells #[.int .i64 n, .slice ao m c] 24)).frozen? ⟨W.heap.size, i, none⟩ = false := fun i => fz HG.out.z i; clear c1)
      rw [m_set _ _ _ _ _ _ _ HG.out.z]
      refine bodyPost_ret (results_ct rfl _ _ W.heap.size _ _ _ _ rfl (setRow_heap _ _ _ _ _ _ HG.out.z) Tryd.underlying24 rfl (by exact infoC)) rfl ?_
      exact ⟨brow HG.out.bel _ _ (Nat.le_refl _), .inl ⟨rfl, rfl⟩⟩
    · have d3 : decide ((n : Int) < 3) = false := decide_eq_false (by omega)
      rw [hR2 (by omega)]
      clear c0 hR hR2 hm hr
      go_enter Tryd.func7, Tryd.ntmps7
      go_wp2_with (first
        | (go_at_call 5; (with_reducible refine Calls.mono c1 ?_); rintro e w1 ⟨ao, c, rfl, HG⟩; clear c1)
        | (at_builtin; refine push_pair rfl _ _ rfl m HM.out rfl HG.out.own ((n : Int) - 1, 0) _ rfl (w1.heap.size + 1) (by simp) rfl (by omega) HG.out.bel.size ?_))
      intro g cap w2 hO hgr _
      obtain ⟨q1, q2, q3⟩ := GP.put HG.out _ hO hgr
      obtain ⟨y0, y1, y2⟩ := m_cells q1
      have yf := fz q1 1
      have HG2 := hide q3
      obtain ⟨x0, x1, x2⟩ := m_cells q3.hd
      obtain ⟨z0, z1, z2⟩ := m_cells q3.z
      have zf : ∀ i, (w2.setCell ⟨w1.heap.size, 1, none⟩ (.slice (some ⟨g, 0, none⟩) (m + 1) cap)).frozen? ⟨W.heap.size, i, none⟩ = false := fun i => fz q3.z i
      clear q1 q2 q3 hO hgr HG
      go_wp2_with fail
      rw [m_set _ _ _ _ _ _ _ HG2.out.z]
      refine bodyPost_ret (results_ct rfl _ _ W.heap.size _ _ _ _ rfl (setRow_heap _ _ _ _ _ _ HG2.out.z) Tryd.underlying24 rfl (by exact infoC)) rfl ?_
      refine ⟨brow HG2.out.bel _ _ (Nat.le_refl _), .inr ⟨_, _, _, cap, rfl, by rw [HG2.out.len]; rfl, HG2.out.own.fill (Nat.le_refl _) HG2.out.z _⟩⟩
  · have hR : lineR w = none := if_neg hr
    rw [hR] at c0
    have hRn : ringR w = none := if_neg (by omega)
    rw [hRn]
    have c1 : Calls Tryd.prog 5 #[.int .i64 w] (W.alloc (.cells #[.int .i64 0, .slice none 0 0] 24)) fun e w' => e = .returned (.tuple #[.agg #[.int .i64 0, .slice none 0 0], .int .i64 2]) ∧ Hid (GP W (w'.alloc (.cells #[.int .i64 0, .slice none 0 0] 24)) W.heap.size w'.heap.size 0 none 0 0 []) := by
      refine c0.mono ?_
      rintro e w' ⟨hb, ⟨_, rfl⟩ | ⟨n', ps', ao, c, h, -⟩⟩
      · obtain ⟨q1, q2⟩ := z_keep W (by simpa using hb)
        exact ⟨rfl, hide (GP.boxed q1 q2 (PO.nil _ _) rfl)⟩
      · cases h
    clear c0 hR hRn hr
    go_enter Tryd.func7, Tryd.ntmps7
    go_wp2_with (go_at_call 5; (with_reducible refine Calls.mono c1 ?_); rintro e w1 ⟨rfl, HG⟩; obtain ⟨z0, z1, z2⟩ := m_cells HG.out.z; have zf : ∀ i, (w1.alloc (.cells #[.int .i64 0, .slice none 0 0] 24)).frozen? ⟨W.heap.size, i, none⟩ = false := fun i => fz HG.out.z i; clear c1)
    rw [m_set _ _ _ _ _ _ _ HG.out.z]
    refine bodyPost_ret (results_ct rfl _ _ W.heap.size _ _ _ _ rfl (setRow_heap _ _ _ _ _ _ HG.out.z) Tryd.underlying24 rfl (by exact infoC)) rfl ?_
    exact ⟨brow HG.out.bel _ _ (Nat.le_refl _), .inl ⟨rfl, rfl⟩⟩
set_option maxRecDepth 100000 in
set_option maxHeartbeats 2000000 in
theorem dGridC (w h : Int) (W : World) : Calls Tryd.prog 9 #[.int .i64 w, .int .i64 h] W (MPost W (gridR w h)) := by
  have hz0 : (W.alloc (.cells #[.int .i64 0, .slice none 0 0] 24)).heap[W.heap.size]? = some (.cells #[.int .i64 0, .slice none 0 0] 24 (0, 0)) := heap_alloc_new _ _
  have HZ0 := hide hz0
  have HB0 := hide (bnew W (.cells #[.int .i64 0, .slice none 0 0] 24))
  clear hz0
  by_cases h1 : w < 1
  · have d1 : decide (w < 1) = true := decide_eq_true h1
    have hR : gridR w h = none := if_neg (by omega)
    rw [hR]
    clear hR
    go_enter Tryd.func9, Tryd.ntmps9
    go_wp2_with fail
    refine bodyPost_ret (results_ct rfl _ _ W.heap.size _ _ _ _ rfl HZ0.out Tryd.underlying24 rfl (by exact infoC)) rfl ?_
    exact ⟨HB0.out, .inl ⟨rfl, rfl⟩⟩
  have d1 : decide (w < 1) = false := decide_eq_false h1
  by_cases h2 : 64 < w
  · have d2 : decide (w > 64) = true := decide_eq_true h2
    have d2' : decide (64 < w) = true := decide_eq_true h2
    have hR : gridR w h = none := if_neg (by omega)
    rw [hR]
    clear hR
    go_enter Tryd.func9, Tryd.ntmps9
    go_wp2_with fail
    refine bodyPost_ret (results_ct rfl _ _ W.heap.size _ _ _ _ rfl HZ0.out Tryd.underlying24 rfl (by exact infoC)) rfl ?_
    exact ⟨HB0.out, .inl ⟨rfl, rfl⟩⟩
  have d2 : decide (w > 64) = false := decide_eq_false h2
  have d2' : decide (64 < w) = false := decide_eq_false h2
  by_cases h3 : h < 1
  · have d3 : decide (h < 1) = true := decide_eq_true h3
    have hR : gridR w h = none := if_neg (by omega)
    rw [hR]
    clear hR
    go_enter Tryd.func9, Tryd.ntmps9
    go_wp2_with fail
    refine bodyPost_ret (results_ct rfl _ _ W.heap.size _ _ _ _ rfl HZ0.out Tryd.underlying24 rfl (by exact infoC)) rfl ?_
    exact ⟨HB0.out, .inl ⟨rfl, rfl⟩⟩
  have d3 : decide (h < 1) = false := decide_eq_false h3
  by_cases h4 : 64 < h
  · have d4 : decide (h > 64) = true := decide_eq_true h4
    have d4' : decide (64 < h) = true := decide_eq_true h4
    have hR : gridR w h = none := if_neg (by omega)
    rw [hR]
    clear hR
    go_enter Tryd.func9, Tryd.ntmps9
    go_wp2_with fail
    refine bodyPost_ret (results_ct rfl _ _ W.heap.size _ _ _ _ rfl HZ0.out Tryd.underlying24 rfl (by exact infoC)) rfl ?_
    exact ⟨HB0.out, .inl ⟨rfl, rfl⟩⟩
  have d4 : decide (h > 64) = false := decide_eq_false h4
  have d4' : decide (64 < h) = false := decide_eq_false h4
  obtain ⟨a, rfl⟩ : ∃ a : Nat, w = (a : Int) := ⟨w.toNat, by omega⟩
  obtain ⟨b, rfl⟩ : ∃ b : Nat, h = (b : Int) := ⟨h.toNat, by omega⟩
  obtain ⟨n, hn⟩ : ∃ n, a * b = n := ⟨_, rfl⟩
  have hm : (a : Int) * (b : Int) = (n : Int) := by rw [← hn]; simp
  have hn4 : n ≤ 4096 := by rw [← hn]; exact Nat.mul_le_mul (show a ≤ 64 by omega) (show b ≤ 64 by omega)
  by_cases h5 : 64 < n
  · have d5 : decide ((n : Int) > 64) = true := decide_eq_true (by omega)
    have d5' : decide (64 < (n : Int)) = true := decide_eq_true (by omega)
    have hR : gridR a b = none := if_neg (by rw [hm]; omega)
    rw [hR]
    clear hR hn
    go_enter Tryd.func9, Tryd.ntmps9
    go_wp2_with fail
    refine bodyPost_ret (results_ct rfl _ _ W.heap.size _ _ _ _ rfl HZ0.out Tryd.underlying24 rfl (by exact infoC)) rfl ?_
    exact ⟨HB0.out, .inl ⟨rfl, rfl⟩⟩
  have d5 : decide ((n : Int) > 64) = false := decide_eq_false (by omega)
  have d5' : decide (64 < (n : Int)) = false := decide_eq_false (by omega)
  have hR : gridR a b = some ((n : Int), gI a n n) := by
    unfold gridR
    rw [if_pos (by rw [hm]; omega), hm]
    rfl
  rw [hR]
  have hw : 0 < a := by omega
  have HG := hide (GP.start W n)
  have hw0 : ((a : Int) == 0) = false := by simp; omega
  go_enter Tryd.func9, Tryd.ntmps9
  go_wp2_with fail
  clear hR hn HZ0 HB0
  generalize (W.alloc (.cells #[.int .i64 0, .slice none 0 0] 24)).alloc (.cells #[.int .i64 n, .slice none 0 0] 24) = W1 at *
  obtain ⟨D, hD⟩ : ∃ D, W.heap.size + 1 = D := ⟨_, rfl⟩
  rw [hD] at HG ⊢
  go_loopw [7] (fun vi wr => ∃ i : Nat, vi = .int .i64 (i : Int) ∧ i ≤ n ∧ ∃ ao c m, Hid (GP W wr W.heap.size D n ao c m (gI a n i))) (fun vi _ => n - (Go.RowKit.intOf vi).toNat)
  case atStart => exact ⟨0, rfl, Nat.zero_le _, none, 0, 0, HG⟩
  case round =>
    clear HG
    obtain ⟨i, rfl, hi, ao, c, m, HG⟩ := hrel
    obtain ⟨x0, x1, x2⟩ := m_cells HG.out.hd
    have hml := gI_len a n i
    rw [HG.out.len] at hml
    by_cases hin : i < n
    · have hd : decide ((i : Int) < (n : Int)) = true := decide_eq_true (by omega)
      have hmo : (i : Int).tmod (a : Int) = ((i % a : Nat) : Int) := by rw [Int.tmod_eq_emod_of_nonneg (by omega)]; simp
      have hml2 : i % a < a := Nat.mod_lt _ hw
      have HB := hide HG.out.bel.size
      by_cases h1 : i % a + 1 < a
      · have d1 : decide (((i % a : Nat) : Int) + 1 < (a : Int)) = true := decide_eq_true (by omega)
        have HS : Hid (gI a n (i + 1) = gI a n i ++ ([((i : Int), (i : Int) + 1)] ++ (if i + a < n then [((i : Int), (i : Int) + (a : Int))] else []))) := hide (by simp only [gI, if_pos h1])
        generalize i % a = r at *
        go_wp2_with (at_builtin; refine push_pair rfl _ _ rfl m HG.out.len rfl HG.out.own ((i : Int), (i : Int) + 1) _ rfl _ rfl rfl (by omega) HB.out ?_)
        intro g cap w2 hO hgr _
        obtain ⟨q1, q2, q3⟩ := GP.put HG.out _ hO hgr
        obtain ⟨y0, y1, y2⟩ := m_cells q1
        have yf := fz q1 1
        have HG2 := hide q3
        have HB2 := hide q3.bel.size
        clear q1 q2 q3 hO hgr HG HB
        by_cases h2 : i + a < n
        · have d2 : decide ((i : Int) + (a : Int) < (n : Int)) = true := decide_eq_true (by omega)
          rw [if_pos h2] at HS
          go_wp2_with (at_builtin; refine push_pair rfl _ _ rfl (m + 1) HG2.out.len rfl HG2.out.own ((i : Int), (i : Int) + (a : Int)) _ rfl w2.heap.size (by simp [World.setCell]) rfl (by omega) HG2.out.bel.size ?_)
          intro g2 cap2 w3 hO hgr _
          have hO' : PO w3 W.heap.size (some ⟨g2, 0, none⟩) cap2 (gI a n i ++ [((i : Int), (i : Int) + 1)] ++ [((i : Int), (i : Int) + (a : Int))]) := by rw [List.append_assoc]; exact hO
          obtain ⟨q1, q2, q3⟩ := GP.put HG2.out _ hO' hgr
          obtain ⟨z0, z1, z2⟩ := m_cells q1
          have zf := fz q1 1
          have HG3 := hide q3
          clear q1 q2 q3 hO hgr HG2 HB2
          go_wp2_with fail
          go_roundw
          case rel => exact ⟨i + 1, by go_num, by omega, _, _, _, hide (by rw [HS.out]; have := HG3.out; simpa using this)⟩
          case measure => simp [Go.RowKit.intOf]; omega
        · have d2 : decide ((i : Int) + (a : Int) < (n : Int)) = false := decide_eq_false (by omega)
          rw [if_neg h2] at HS
          go_wp2_with fail
          go_roundw
          case rel => exact ⟨i + 1, by go_num, by omega, _, _, _, hide (by rw [HS.out]; have := HG2.out; simpa using this)⟩
          case measure => simp [Go.RowKit.intOf]; omega
      · have d1 : decide (((i % a : Nat) : Int) + 1 < (a : Int)) = false := decide_eq_false (by omega)
        have HS : Hid (gI a n (i + 1) = gI a n i ++ (if i + a < n then [((i : Int), (i : Int) + (a : Int))] else [])) := hide (by simp only [gI, if_neg h1, List.nil_append])
        generalize i % a = r at *
        by_cases h2 : i + a < n
        · have d2 : decide ((i : Int) + (a : Int) < (n : Int)) = true := decide_eq_true (by omega)
          rw [if_pos h2] at HS
          go_wp2_with (at_builtin; refine push_pair rfl _ _ rfl m HG.out.len rfl HG.out.own ((i : Int), (i : Int) + (a : Int)) _ rfl _ rfl rfl (by omega) HB.out ?_)
          intro g cap w2 hO hgr _
          obtain ⟨q1, q2, q3⟩ := GP.put HG.out _ hO hgr
          obtain ⟨y0, y1, y2⟩ := m_cells q1
          have yf := fz q1 1
          have HG2 := hide q3
          clear q1 q2 q3 hO hgr HG HB
          go_wp2_with fail
          go_roundw
          case rel => exact ⟨i + 1, by go_num, by omega, _, _, _, hide (by rw [HS.out]; exact HG2.out)⟩
          case measure => simp [Go.RowKit.intOf]; omega
        · have d2 : decide ((i : Int) + (a : Int) < (n : Int)) = false := decide_eq_false (by omega)
          rw [if_neg h2, List.append_nil] at HS
          go_wp2_with fail
          go_roundw
          case rel => exact ⟨i + 1, by go_num, by omega, _, _, _, hide (by rw [HS.out]; exact HG.out)⟩
          case measure => simp [Go.RowKit.intOf]; omega
    · obtain rfl : n = i := by omega
      have hd : decide ((n : Int) < (n : Int)) = false := decide_eq_false (by omega)
      obtain ⟨z0, z1, z2⟩ := m_cells HG.out.z
      have zf : ∀ i, wr.frozen? ⟨W.heap.size, i, none⟩ = false := fun i => fz HG.out.z i
      go_wp2_with fail
      rw [m_set _ _ _ _ _ _ _ HG.out.z]
      refine bodyPost_ret (results_ct rfl _ _ W.heap.size _ _ _ _ rfl (setRow_heap _ _ _ _ _ _ HG.out.z) Tryd.underlying24 rfl (by exact infoC)) rfl ?_
      exact ⟨brow HG.out.bel _ _ (Nat.le_refl _), .inr ⟨_, _, ao, c, rfl, by rw [HG.out.len]; rfl, HG.out.own.fill (Nat.le_refl _) HG.out.z _⟩⟩
end Go.Proofs.YtjniiobhcnjgbaaDoor.Rou
