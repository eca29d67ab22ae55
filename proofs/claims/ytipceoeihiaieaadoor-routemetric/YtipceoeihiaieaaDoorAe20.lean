/- Layer 20: maps held against each other; pairs looked for. -/
import Derived.Test.YtipceoeihiaieaaDoorAa20
import Derived.Laws.StructEq
import Derived.BigRegion
import Derived.BigQuiet
namespace Go.Proofs.YtipceoeihiaieaaDoor.Rou
open Go.RowKit

theorem eq_of_take {α : Type} {l m : List α} (hl : l.length = m.length) (h : l.take l.length = m.take l.length) : l = m := by
  rw [List.take_of_length_le (Nat.le_refl _), List.take_of_length_le (by omega)] at h
  exact h
theorem take_eq_succ {α : Type} {l m : List α} {i : Nat} {x : α} (h : l.take i = m.take i) (hl : l[i]? = some x) (hm : m[i]? = some x) : l.take (i + 1) = m.take (i + 1) := by
  rw [List.take_add_one, List.take_add_one, h, hl, hm]
theorem eqPair (x y u v : Int) (W : World) : (Op.equalIn 10000 33 (.agg #[.int .i64 x, .int .i64 y]) (.agg #[.int .i64 u, .int .i64 v])).run Tryd.prog W = .ok (x == u && y == v) W := by
  have hu : Tryd.prog.underlying 33 = some (.array 2 3) := by kernel_rfl
  have h1 := fun a b => run_equalIn_int (P := Tryd.prog) W 9998 3 .i64 .i64 a b Tryd.underlying3
  rw [show (10000 : Nat) = 9999 + 1 from rfl, Op.equalIn]
  rw [Sem.run_bind, run_underlying hu W, Result.andThen_ok]
  have hs : (sizeOf 3).run Tryd.prog W = .ok 1 W := by kernel_rfl
  simp only
  rw [Sem.run_bind, hs, Result.andThen_ok]
  have hA : (isAgg 3).run Tryd.prog W = .ok false W := by kernel_rfl
  by_cases e1 : x = u
  · subst e1
    by_cases e2 : y = v
    · subst e2
      simp [Std.Legacy.Range.forIn_eq_forIn_range', List.range', Sem.run_bind, part, h1, hA, Result.andThen]
    · simp [Std.Legacy.Range.forIn_eq_forIn_range', List.range', Sem.run_bind, part, h1, hA, Result.andThen, e2]
  · simp [Std.Legacy.Range.forIn_eq_forIn_range', List.range', Sem.run_bind, part, h1, hA, Result.andThen, e1]
theorem below1 {w V : World} {o : Obj} (h : Below (w.heap.size + 1) (w.alloc o) V) : Below w.heap.size w V := (bnew w o).trans (h.mono (Nat.le_succ _))
theorem rNum (c : Int) (w : World) : Calls Tryd.prog 5 #[.int .i64 c] w fun e w' => e = .returned (.int .i64 c) ∧ w' = w := by
  go_enter Tryd.func5, Tryd.ntmps5
  go_wp2_with fail
  go_ret
  exact ⟨rfl, rfl⟩
set_option maxRecDepth 100000 in
set_option maxHeartbeats 2000000 in
theorem rIndexP (q : Pr) (ao : Option Addr) (c : Nat) (ps : List Pr) (hl : ps.length ≤ 1000000000000000) (w : World) (hA : PA w ao ps) : Calls Tryd.prog 71 #[.slice ao ps.length c, .agg #[.int .i64 q.1, .int .i64 q.2]] w fun e w' => (∃ z : Int, e = .returned (.int .i64 z) ∧ (0 ≤ z ↔ q ∈ ps)) ∧ Below w.heap.size w w' := by
  obtain ⟨x, y⟩ := q
  simp only
  have HA := hide (hA.below (bnew w (.cells #[.int .i64 x, .int .i64 y] 33)))
  have hq : (w.alloc (.cells #[.int .i64 x, .int .i64 y] 33)).heap[w.heap.size]? = some (.cells #[.int .i64 x, .int .i64 y] 33 (0, 0)) := heap_alloc_new _ _
  have HQ := hide hq
  obtain ⟨m, hm⟩ : ∃ m, ps.length = m := ⟨_, rfl⟩
  have HL := hide hm
  rw [hm] at hl ⊢
  clear hA hm hq
  go_enter Tryd.func71, Tryd.ntmps71
  go_wp2_with fail
  go_loopw [5, 8] (fun _ vi wr => ∃ i : Nat, vi = .int .i64 (i : Int) ∧ i ≤ m ∧ Hid ((x, y) ∉ ps.take i) ∧ Hid (Below (w.heap.size + 1) (w.alloc (.cells #[.int .i64 x, .int .i64 y] 33)) wr)) (fun _ vi _ => m - (Go.RowKit.intOf vi).toNat)
  case atStart => exact ⟨0, rfl, Nat.zero_le _, hide (by simp), hide (Below.refl _ _)⟩
  case round =>
    obtain ⟨i, rfl, hi, HS, HW⟩ := hrel
    by_cases h : i < m
    · have hd : decide ((i : Int) < (m : Int)) = true := decide_eq_true (by omega)
      have hii : (i : Int) < (m : Int) := by omega
      obtain ⟨p, hp⟩ : ∃ p, ps[i]? = some p := ⟨_, List.getElem?_eq_getElem (by rw [HL.out]; exact h)⟩
      obtain ⟨g, off, rfl, hg⟩ := (HA.out.below (by simpa using HW.out)).resolve_left (fun e => by rw [e] at hp; simp at hp)
      obtain ⟨u, v⟩ := p
      obtain ⟨k1, k2⟩ := hg i (u, v) hp
      simp only at k1 k2
      obtain ⟨y0, y1, y2⟩ := m_cells ((HW.out.block w.heap.size (Nat.lt_succ_self _)).trans HQ.out)
      have hlt := World.block_lt_of_cell? _ _ k1
      have HP := hide hp
      clear hg hp
      go_wp2_with fail
      by_cases he : (x, y) = (u, v)
      · cases he
        have hE : ∀ W : World, (Op.equalIn 10000 33 (.agg #[.int .i64 x, .int .i64 y]) (.agg #[.int .i64 x, .int .i64 y])).run Tryd.prog W = .ok true W := fun W => (eqPair x y x y W).trans (by simp)
        go_region
        go_wp2_with fail
        go_ret
        exact ⟨⟨_, rfl, fun _ => List.mem_of_getElem? HP.out, fun _ => Int.natCast_nonneg _⟩, below1 (drewB HW.out)⟩
      · have hE : ∀ W : World, (Op.equalIn 10000 33 (.agg #[.int .i64 x, .int .i64 y]) (.agg #[.int .i64 u, .int .i64 v])).run Tryd.prog W = .ok false W := fun W => (eqPair x y u v W).trans (by
          congr 1
          simp only [Prod.mk.injEq] at he
          simpa using he)
        have HN := hide he
        clear he
        go_region
        go_wp2_with fail
        go_roundw
        case rel => exact ⟨i + 1, by go_num, by omega, hide (fun hm => by
          rw [List.take_add_one, HP.out] at hm
          rcases List.mem_append.1 hm with hm | hm
          · exact HS.out hm
          · exact HN.out (List.mem_singleton.1 hm)), hide (drewB HW.out)⟩
        case measure => simp [Go.RowKit.intOf]; omega
    · obtain rfl : m = i := by omega
      have hd : decide ((m : Int) < (m : Int)) = false := decide_eq_false (by omega)
      go_wp2_with fail
      go_ret
      refine ⟨⟨_, rfl, fun h => absurd h (by decide), fun h => absurd ?_ HS.out⟩, below1 HW.out⟩
      rw [← HL.out, List.take_length]
      exact h
set_option maxRecDepth 100000 in
set_option maxHeartbeats 1000000 in
theorem rContainsP (q : Pr) (ao : Option Addr) (c : Nat) (ps : List Pr) (hl : ps.length ≤ 1000000000000000) (w : World) (hA : PA w ao ps) : Calls Tryd.prog 48 #[.slice ao ps.length c, .agg #[.int .i64 q.1, .int .i64 q.2]] w fun e w' => e = .returned (.bool (decide (q ∈ ps))) ∧ Below w.heap.size w w' := by
  have HB := hide (bnew w (.cells #[.int .i64 q.1, .int .i64 q.2] 33))
  have c1 := rIndexP q ao c ps hl (w.alloc (.cells #[.int .i64 q.1, .int .i64 q.2] 33)) (hA.below HB.out)
  have HR : Hid (∀ z : Int, (0 ≤ z ↔ q ∈ ps) → decide ((0 : Int) ≤ z) = decide (q ∈ ps)) := hide (fun z h => decide_eq_decide.2 h)
  generalize decide (q ∈ ps) = R at *
  generalize ps.length = m at *
  clear hA
  go_enter Tryd.func48, Tryd.ntmps48
  go_wp2_with (go_at_call 71; (with_reducible refine Calls.mono c1 ?_); rintro e w2 ⟨⟨z, rfl, hz⟩, hb⟩; have HZ := hide hz; have HW := hide hb; clear hz hb c1)
  go_ret
  exact ⟨by rw [← HR.out z HZ.out]; rfl, bkp HB.out HW.out⟩
end Go.Proofs.YtipceoeihiaieaaDoor.Rou
