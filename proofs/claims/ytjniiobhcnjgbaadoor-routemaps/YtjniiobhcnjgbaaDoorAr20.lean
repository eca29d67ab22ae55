/- Layer 20: maps held against each other. -/
import Derived.Test.YtjniiobhcnjgbaaDoorAe20
namespace Go.Proofs.YtjniiobhcnjgbaaDoor.Rou
open Go.RowKit

set_option maxRecDepth 100000 in
set_option maxHeartbeats 2000000 in
theorem rSame (n n' : Int) (a b : Option Addr) (ca cb : Nat) (l m : List Pr) (hl : l.length ≤ 1000000000000000) (w : World) (hA : PA w a l) (hB : PA w b m) : Calls Tryd.prog 13 #[.agg #[.int .i64 n, .slice a l.length ca], .agg #[.int .i64 n', .slice b m.length cb]] w fun e w' => e = .returned (.bool (decide (n = n' ∧ l = m))) ∧ Below w.heap.size w w' := by
  have HW2 : Hid (Below w.heap.size w ((w.alloc (.cells #[.int .i64 n, .slice a l.length ca] 24)).alloc (.cells #[.int .i64 n', .slice b m.length cb] 24))) := hide (bkp (bnew _ _) (bnew _ _))
  by_cases hn : n = n'
  · subst hn
    by_cases hlm : l.length = m.length
    · have h1 : ((w.alloc (.cells #[.int .i64 n, .slice a l.length ca] 24)).alloc (.cells #[.int .i64 n, .slice b m.length cb] 24)).heap[w.heap.size]? = some (.cells #[.int .i64 n, .slice a l.length ca] 24 (0, 0)) := (Below.heap_alloc _ _ _ (by simp)).trans (heap_alloc_new _ _)
      have h2 : ((w.alloc (.cells #[.int .i64 n, .slice a l.length ca] 24)).alloc (.cells #[.int .i64 n, .slice b m.length cb] 24)).heap[w.heap.size + 1]? = some (.cells #[.int .i64 n, .slice b m.length cb] 24 (0, 0)) := by
        have := heap_alloc_new (w.alloc (.cells #[.int .i64 n, .slice a l.length ca] 24)) (.cells #[.int .i64 n, .slice b m.length cb] 24)
        simpa using this
      have HA := hide (hA.below HW2.out)
      have HB := hide (hB.below HW2.out)
      obtain ⟨k, hk⟩ : ∃ k, l.length = k := ⟨_, rfl⟩
      have HL := hide hk
      have HM : Hid (m.length = k) := hide (by omega)
      have HS1 := hide h1
      have HS2 := hide h2
      rw [← hlm, hk] at HW2 HS1 HS2 HA HB
      rw [← hlm, hk]
      rw [hk] at hl
      obtain ⟨R, hR⟩ : ∃ R, decide (n = n ∧ l = m) = R := ⟨_, rfl⟩
      have HR := hide hR
      rw [hR]
      clear hA hB hlm hk h1 h2 hR
      have hsz : ((w.alloc (.cells #[.int .i64 n, .slice a k ca] 24)).alloc (.cells #[.int .i64 n, .slice b k cb] 24)).heap.size = w.heap.size + 2 := by simp
      have HSZ := hide hsz
      clear hsz
      go_enter Tryd.func13, Tryd.ntmps13
      go_wp2_with fail
      generalize (w.alloc (.cells #[.int .i64 n, .slice a k ca] 24)).alloc (.cells #[.int .i64 n, .slice b k cb] 24) = W1 at *
      go_loopw [5] (fun vi wr => ∃ i : Nat, vi = .int .i64 (i : Int) ∧ i ≤ k ∧ Hid (l.take i = m.take i) ∧ Hid (Below W1.heap.size W1 wr)) (fun vi _ => k - (Go.RowKit.intOf vi).toNat)
      case atStart => exact ⟨0, rfl, Nat.zero_le _, hide rfl, hide (Below.refl _ _)⟩
      case round =>
        obtain ⟨i, rfl, hi, HS, HW⟩ := hrel
        obtain ⟨x0, x1, x2⟩ := m_cells ((HW.out.block w.heap.size (by rw [HSZ.out]; omega)).trans HS1.out)
        obtain ⟨z0, z1, z2⟩ := m_cells ((HW.out.block (w.heap.size + 1) (by rw [HSZ.out]; omega)).trans HS2.out)
        have HF : Hid (Below w.heap.size w wr) := hide (HW2.out.trans (HW.out.mono (by rw [HSZ.out]; omega)))
        by_cases h : i < k
        · have hd : decide ((i : Int) < (k : Int)) = true := decide_eq_true (by omega)
          have hii : (i : Int) < (k : Int) := by omega
          obtain ⟨⟨x, y⟩, hp⟩ : ∃ p, l[i]? = some p := ⟨_, List.getElem?_eq_getElem (by rw [HL.out]; exact h)⟩
          obtain ⟨⟨u, v⟩, hq⟩ : ∃ p, m[i]? = some p := ⟨_, List.getElem?_eq_getElem (by rw [HM.out]; exact h)⟩
          obtain ⟨g, off, rfl, hg⟩ := (HA.out.below HW.out).resolve_left (fun e => by rw [e] at hp; simp at hp)
          obtain ⟨g2, off2, rfl, hg2⟩ := (HB.out.below HW.out).resolve_left (fun e => by rw [e] at hq; simp at hq)
          obtain ⟨k1, k2⟩ := hg i (x, y) hp
          obtain ⟨k3, k4⟩ := hg2 i (u, v) hq
          simp only at k1 k2 k3 k4
          have HP := hide hp
          have HQ := hide hq
          clear hg hg2 hp hq
          by_cases he : (x, y) = (u, v)
          · cases he
            have hE : ∀ W : World, (Op.equalIn 10000 39 (.agg #[.int .i64 x, .int .i64 y]) (.agg #[.int .i64 x, .int .i64 y])).run Tryd.prog W = .ok true W := fun W => (eqPair x y x y W).trans (by simp)
            have HT := hide (take_eq_succ HS.out HP.out HQ.out)
            go_wp2_with fail
            go_region
            go_wp2_with fail
            go_roundw
            case rel => exact ⟨i + 1, by go_num, by omega, HT, hide (drewB HW.out)⟩
            case measure => simp [Go.RowKit.intOf]; omega
          · have hE : ∀ W : World, (Op.equalIn 10000 39 (.agg #[.int .i64 x, .int .i64 y]) (.agg #[.int .i64 u, .int .i64 v])).run Tryd.prog W = .ok false W := fun W => (eqPair x y u v W).trans (by
              congr 1
              simp only [Prod.mk.injEq] at he
              simpa using he)
            have HN : Hid (R = false) := hide (by
              rw [← HR.out]
              refine decide_eq_false fun e => he ?_
              have e1 := HP.out
              rw [e.2, HQ.out] at e1
              cases e1
              rfl)
            clear he
            go_wp2_with fail
            go_region
            go_wp2_with fail
            go_ret
            exact ⟨by rw [HN.out]; rfl, drewB HF.out⟩
        · obtain rfl : k = i := by omega
          have hd : decide ((k : Int) < (k : Int)) = false := decide_eq_false (by omega)
          have HN : Hid (R = true) := hide (by
            rw [← HR.out]
            refine decide_eq_true ⟨trivial, eq_of_take (by rw [HL.out, HM.out]) ?_⟩
            rw [HL.out]
            exact HS.out)
          go_wp2_with fail
          go_ret
          exact ⟨by rw [HN.out]; rfl, HF.out⟩
    · have hR : decide (n = n ∧ l = m) = false := decide_eq_false fun e => hlm (by rw [e.2])
      have e1 : ((l.length : Int) != (m.length : Int)) = true := by simp; omega
      have e2 : ((l.length : Int) == (m.length : Int)) = false := by simp; omega
      rw [hR]
      generalize l.length = k at *
      generalize m.length = k2 at *
      clear hA hB hR
      go_enter Tryd.func13, Tryd.ntmps13
      go_wp2_with fail
      go_ret
      exact ⟨rfl, HW2.out⟩
  · have hR : decide (n = n' ∧ l = m) = false := decide_eq_false fun e => hn e.1
    have e1 : (n != n') = true := by simp; omega
    have e2 : (n == n') = false := by simp; omega
    rw [hR]
    generalize l.length = k at *
    generalize m.length = k2 at *
    clear hA hB hR
    go_enter Tryd.func13, Tryd.ntmps13
    go_wp2_with fail
    go_ret
    exact ⟨rfl, HW2.out⟩
end Go.Proofs.YtjniiobhcnjgbaaDoor.Rou
