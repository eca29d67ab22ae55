/- Layer 20: lines, rings, grids. -/
import Derived.Test.YtjniiobhcnjgbaaDoorAa20
namespace Go.Proofs.YtjniiobhcnjgbaaDoor.Rou
open Go.RowKit

/-- The pairs of a grid's first places: w columns, n places. -/
def gI (w n : Nat) : Nat → List Pr
  | 0 => []
  | i + 1 => gI w n i ++ ((if i % w + 1 < w then [((i : Int), (i : Int) + 1)] else []) ++ (if i + w < n then [((i : Int), (i : Int) + (w : Int))] else []))
theorem gI_len (w n : Nat) : ∀ i, (gI w n i).length ≤ 2 * i
  | 0 => by simp [gI]
  | i + 1 => by
    have := gI_len w n i
    simp only [gI, List.length_append]
    split <;> split <;> simp <;> omega
/-- A map that is being laid: where it is laid, where it will be answered. -/
structure GP (W V : World) (Z D : Nat) (n : Int) (ao : Option Addr) (c m : Nat) (ps : List Pr) : Prop where
  bel : Below W.heap.size W V
  hd : V.heap[D]? = some (.cells #[.int .i64 n, .slice ao m c] 24 (0, 0))
  z : V.heap[Z]? = some (.cells #[.int .i64 0, .slice none 0 0] 24 (0, 0))
  own : PO V W.heap.size ao c ps
  len : ps.length = m
  lo : W.heap.size ≤ Z ∧ Z < D
theorem GP.start (W : World) (n : Int) : GP W ((W.alloc (.cells #[.int .i64 0, .slice none 0 0] 24)).alloc (.cells #[.int .i64 n, .slice none 0 0] 24)) W.heap.size (W.heap.size + 1) n none 0 0 [] := by
  refine ⟨bkp (bnew _ _) (bnew _ _), ?_, ?_, PO.nil _ _, rfl, Nat.le_refl _, Nat.lt_succ_self _⟩
  · have := heap_alloc_new (W.alloc (.cells #[.int .i64 0, .slice none 0 0] 24)) (.cells #[.int .i64 n, .slice none 0 0] 24)
    simpa using this
  · exact (Below.heap_alloc _ _ _ (by simp)).trans (heap_alloc_new _ _)
theorem GP.put {W V w' : World} {Z D : Nat} {n : Int} {ao : Option Addr} {c m : Nat} {ps : List Pr} (h : GP W V Z D n ao c m ps) (p : Pr) {g cap : Nat} (hO : PO w' W.heap.size (some ⟨g, 0, none⟩) cap (ps ++ [p])) (hg2 : V.grownBy w' (ob ao)) :
    w'.heap[D]? = some (.cells #[.int .i64 n, .slice ao m c] 24 (0, 0)) ∧ W.heap.size ≤ w'.heap.size ∧ GP W (w'.setCell ⟨D, 1, none⟩ (.slice (some ⟨g, 0, none⟩) (m + 1) cap)) Z D n (some ⟨g, 0, none⟩) cap (m + 1) (ps ++ [p]) := by
  have hD := (hg2.block D (Array.getElem?_eq_some_iff.1 h.hd).1 (own_ne h.own h.hd (by decide)).symm).trans h.hd
  have hZ := (hg2.block Z (Array.getElem?_eq_some_iff.1 h.z).1 (own_ne h.own h.z (by decide)).symm).trans h.z
  have hb : Below W.heap.size W w' := h.bel.grown hg2 h.bel.size (fun k hk => (own_lt h.own k hk).1)
  have hlo := h.lo
  rw [setCell_eq_setRow _ _ _ _ _ _ _ hD]
  refine ⟨hD, hb.size, brow hb _ _ (by omega), setRow_heap _ _ _ _ _ _ hD, (setRow_other _ _ _ _ (by omega)).trans hZ, ?_, by rw [List.length_append, h.len]; rfl, hlo⟩
  exact own_of_block hO fun k hk => setRow_other _ _ _ _ (fun e => own_ne hO hD (by decide) (by rw [hk, e]))
set_option maxRecDepth 100000 in
set_option maxHeartbeats 2000000 in
theorem rGrid (w h n : Nat) (hw : 0 < w) (hw2 : w ≤ 64) (hn : w * h = n) (hn2 : n ≤ 64) (W : World) : Calls Tryd.prog 15 #[.int .i64 (w : Int), .int .i64 (h : Int)] W fun e w' => ∃ ao c, e = .returned (mV n ao (gI w n n).length c) ∧ PO w' W.heap.size ao c (gI w n n) ∧ Below W.heap.size W w' := by
  have hm : (w : Int) * (h : Int) = (n : Int) := by rw [← hn]; simp
  have HG := hide (GP.start W n)
  have hw0 : ((w : Int) == 0) = false := by simp; omega
  go_enter Tryd.func15, Tryd.ntmps15
  go_wp2_with fail
  clear hm
  generalize (W.alloc (.cells #[.int .i64 0, .slice none 0 0] 24)).alloc (.cells #[.int .i64 n, .slice none 0 0] 24) = W1 at *
  obtain ⟨D, hD⟩ : ∃ D, W.heap.size + 1 = D := ⟨_, rfl⟩
  rw [hD] at HG ⊢
  go_loopw [6, 13] (fun _ vi wr => ∃ i : Nat, vi = .int .i64 (i : Int) ∧ i ≤ n ∧ ∃ ao c m, Hid (GP W wr W.heap.size D n ao c m (gI w n i))) (fun _ vi _ => n - (Go.RowKit.intOf vi).toNat)
  case atStart => exact ⟨0, rfl, Nat.zero_le _, none, 0, 0, HG⟩
  case round =>
    clear HG
    obtain ⟨i, rfl, hi, ao, c, m, HG⟩ := hrel
    obtain ⟨x0, x1, x2⟩ := m_cells HG.out.hd
    have hml := gI_len w n i
    rw [HG.out.len] at hml
    by_cases hin : i < n
    · have hd : decide ((i : Int) < (n : Int)) = true := decide_eq_true (by omega)
      have hmo : (i : Int).tmod (w : Int) = ((i % w : Nat) : Int) := by rw [Int.tmod_eq_emod_of_nonneg (by omega)]; simp
      have hml2 : i % w < w := Nat.mod_lt _ hw
      have HB := hide HG.out.bel.size
      by_cases h1 : i % w + 1 < w
      · have d1 : decide (((i % w : Nat) : Int) + 1 < (w : Int)) = true := decide_eq_true (by omega)
        have HS : Hid (gI w n (i + 1) = gI w n i ++ ([((i : Int), (i : Int) + 1)] ++ (if i + w < n then [((i : Int), (i : Int) + (w : Int))] else []))) := hide (by simp only [gI, if_pos h1])
        generalize i % w = r at *
        go_wp2_with (at_builtin; refine push_pair rfl _ _ rfl m HG.out.len rfl HG.out.own ((i : Int), (i : Int) + 1) _ rfl _ rfl rfl (by omega) HB.out ?_)
        intro g cap w2 hO hgr _
        obtain ⟨q1, q2, q3⟩ := GP.put HG.out _ hO hgr
        obtain ⟨y0, y1, y2⟩ := m_cells q1
        have yf := fz q1 1
        have HG2 := hide q3
        have HB2 := hide q3.bel.size
        clear q1 q2 q3 hO hgr HG HB
        by_cases h2 : i + w < n
        · have d2 : decide ((i : Int) + (w : Int) < (n : Int)) = true := decide_eq_true (by omega)
          rw [if_pos h2] at HS
          go_wp2_with (at_builtin; refine push_pair rfl _ _ rfl (m + 1) HG2.out.len rfl HG2.out.own ((i : Int), (i : Int) + (w : Int)) _ rfl w2.heap.size (by simp [World.setCell]) rfl (by omega) HG2.out.bel.size ?_)
          intro g2 cap2 w3 hO hgr _
          have hO' : PO w3 W.heap.size (some ⟨g2, 0, none⟩) cap2 (gI w n i ++ [((i : Int), (i : Int) + 1)] ++ [((i : Int), (i : Int) + (w : Int))]) := by rw [List.append_assoc]; exact hO
          obtain ⟨q1, q2, q3⟩ := GP.put HG2.out _ hO' hgr
          obtain ⟨z0, z1, z2⟩ := m_cells q1
          have zf := fz q1 1
          have HG3 := hide q3
          clear q1 q2 q3 hO hgr HG2 HB2
          go_wp2_with fail
          go_roundw
          case rel => exact ⟨i + 1, by go_num, by omega, _, _, _, hide (by rw [HS.out]; have := HG3.out; simpa using this)⟩
          case measure => simp [Go.RowKit.intOf]; omega
        · have d2 : decide ((i : Int) + (w : Int) < (n : Int)) = false := decide_eq_false (by omega)
          rw [if_neg h2] at HS
          go_wp2_with fail
          go_roundw
          case rel => exact ⟨i + 1, by go_num, by omega, _, _, _, hide (by rw [HS.out]; have := HG2.out; simpa using this)⟩
          case measure => simp [Go.RowKit.intOf]; omega
      · have d1 : decide (((i % w : Nat) : Int) + 1 < (w : Int)) = false := decide_eq_false (by omega)
        have HS : Hid (gI w n (i + 1) = gI w n i ++ (if i + w < n then [((i : Int), (i : Int) + (w : Int))] else [])) := hide (by simp only [gI, if_neg h1, List.nil_append])
        generalize i % w = r at *
        by_cases h2 : i + w < n
        · have d2 : decide ((i : Int) + (w : Int) < (n : Int)) = true := decide_eq_true (by omega)
          rw [if_pos h2] at HS
          go_wp2_with (at_builtin; refine push_pair rfl _ _ rfl m HG.out.len rfl HG.out.own ((i : Int), (i : Int) + (w : Int)) _ rfl _ rfl rfl (by omega) HB.out ?_)
          intro g cap w2 hO hgr _
          obtain ⟨q1, q2, q3⟩ := GP.put HG.out _ hO hgr
          obtain ⟨y0, y1, y2⟩ := m_cells q1
          have yf := fz q1 1
          have HG2 := hide q3
          clear q1 q2 q3 hO hgr HG HB
          go_wp2_with fail
          go_roundw
          case rel => exact ⟨i + 1, by go_num, by omega, _, _, _, hide (by rw [HS.out]; exact HG2.out)⟩
          case measure => simp [Go.RowKit.intOf]; omega
        · have d2 : decide ((i : Int) + (w : Int) < (n : Int)) = false := decide_eq_false (by omega)
          rw [if_neg h2, List.append_nil] at HS
          go_wp2_with fail
          go_roundw
          case rel => exact ⟨i + 1, by go_num, by omega, _, _, _, hide (by rw [HS.out]; exact HG.out)⟩
          case measure => simp [Go.RowKit.intOf]; omega
    · obtain rfl : n = i := by omega
      have hd : decide ((n : Int) < (n : Int)) = false := decide_eq_false (by omega)
      obtain ⟨z0, z1, z2⟩ := m_cells HG.out.z
      have zf : ∀ i, wr.frozen? ⟨W.heap.size, i, none⟩ = false := fun i => fz HG.out.z i
      go_wp2_with fail
      rw [m_set _ _ _ _ _ _ _ HG.out.z]
      refine bodyPost_ret (results_c rfl _ _ W.heap.size _ _ _ _ rfl (setRow_heap _ _ _ _ _ _ HG.out.z) Tryd.underlying24 rfl (by exact infoC)) rfl ?_
      refine ⟨ao, c, by rw [HG.out.len]; rfl, own_of_block HG.out.own (fun k hk => setRow_other _ _ _ _ (fun e => own_ne HG.out.own HG.out.z (by decide) (by rw [hk, e]))), brow HG.out.bel _ _ (Nat.le_refl _)⟩
end Go.Proofs.YtjniiobhcnjgbaaDoor.Rou
