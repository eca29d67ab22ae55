/- Layer 20: numbers looked for; two pairs compared. -/
import Derived.Test.YtipceoeihiaieaaDoorAj20
import Derived.Extends
namespace Go.Proofs.YtipceoeihiaieaaDoor.Rou
open Go.RowKit

/-- Numbers as they are read. -/
def IA (w : World) (ao : Option Addr) (l : List Int) : Prop := l = [] ∨ ∃ g off, ao = some ⟨g, off, none⟩ ∧ ∀ (j : Nat) z, l[j]? = some z → w.cell? ⟨g, off + j, none⟩ = some (.int .i64 z)
theorem IA.below {w w' : World} {ao : Option Addr} {l : List Int} (h : IA w ao l) (hb : Below w.heap.size w w') : IA w' ao l := by
  rcases h with h | ⟨g, off, e, h⟩
  · exact .inl h
  · exact .inr ⟨g, off, e, fun j z hj => cellB (h j z hj) hb⟩
set_option maxRecDepth 100000 in
set_option maxHeartbeats 2000000 in
theorem rIndexI (x : Int) (ao : Option Addr) (c : Nat) (l : List Int) (hl : l.length ≤ 1000000000000000) (w : World) (hA : IA w ao l) : Calls Tryd.prog 40 #[.slice ao l.length c, .int .i64 x] w fun e w' => (∃ z : Int, e = .returned (.int .i64 z) ∧ (0 ≤ z ↔ x ∈ l)) ∧ w' = w := by
  have HA := hide hA
  obtain ⟨m, hm⟩ : ∃ m, l.length = m := ⟨_, rfl⟩
  have HL := hide hm
  rw [hm] at hl ⊢
  clear hA hm
  go_enter Tryd.func40, Tryd.ntmps40
  go_wp2_with fail
  go_loopw [5, 8] (fun _ vi wr => wr = w ∧ ∃ i : Nat, vi = .int .i64 (i : Int) ∧ i ≤ m ∧ Hid (x ∉ l.take i)) (fun _ vi _ => m - (Go.RowKit.intOf vi).toNat)
  case atStart => exact ⟨rfl, 0, rfl, Nat.zero_le _, hide (by simp)⟩
  case round =>
    obtain ⟨rfl, i, rfl, hi, HS⟩ := hrel
    by_cases h : i < m
    · have hd : decide ((i : Int) < (m : Int)) = true := decide_eq_true (by omega)
      have hii : (i : Int) < (m : Int) := by omega
      obtain ⟨z, hz⟩ : ∃ z, l[i]? = some z := ⟨_, List.getElem?_eq_getElem (by rw [HL.out]; exact h)⟩
      obtain ⟨g, off, rfl, hg⟩ := HA.out.resolve_left (fun e => by rw [e] at hz; simp at hz)
      have k1 := hg i z hz
      have hlt := World.block_lt_of_cell? _ _ k1
      have HZ := hide hz
      clear hg hz
      by_cases he : x = z
      · subst he
        have e1 : (x == x) = true := beq_self_eq_true x
        go_wp2_with fail
        go_ret
        exact ⟨⟨_, rfl, fun _ => List.mem_of_getElem? HZ.out, fun _ => Int.natCast_nonneg _⟩, rfl⟩
      · have e1 : (x == z) = false := beq_eq_false_iff_ne.2 he
        have HN := hide he
        clear he
        go_wp2_with fail
        go_roundw
        case rel => exact ⟨trivial, i + 1, by go_num, by omega, hide (fun hm => by
          rw [List.take_add_one, HZ.out] at hm
          rcases List.mem_append.1 hm with hm | hm
          · exact HS.out hm
          · exact HN.out (List.mem_singleton.1 hm))⟩
        case measure => simp [Go.RowKit.intOf]; omega
    · obtain rfl : m = i := by omega
      have hd : decide ((m : Int) < (m : Int)) = false := decide_eq_false (by omega)
      go_wp2_with fail
      go_ret
      refine ⟨⟨_, rfl, fun h => absurd h (by decide), fun h => absurd ?_ HS.out⟩, rfl⟩
      rw [← HL.out, List.take_length]
      exact h
set_option maxRecDepth 100000 in
set_option maxHeartbeats 1000000 in
theorem rContainsI (x : Int) (ao : Option Addr) (c : Nat) (l : List Int) (hl : l.length ≤ 1000000000000000) (w : World) (hA : IA w ao l) : Calls Tryd.prog 23 #[.slice ao l.length c, .int .i64 x] w fun e w' => e = .returned (.bool (decide (x ∈ l))) ∧ w' = w := by
  have c1 := rIndexI x ao c l hl w hA
  have HR : Hid (∀ z : Int, (0 ≤ z ↔ x ∈ l) → decide ((0 : Int) ≤ z) = decide (x ∈ l)) := hide (fun z h => decide_eq_decide.2 h)
  generalize decide (x ∈ l) = R at *
  generalize l.length = m at *
  clear hA
  go_enter Tryd.func23, Tryd.ntmps23
  go_wp2_with (go_at_call 40; (with_reducible refine Calls.mono c1 ?_); rintro e w2 ⟨⟨z, rfl, hz⟩, rfl⟩; have HZ := hide hz; clear hz c1)
  go_ret
  exact ⟨by rw [← HR.out z HZ.out]; rfl, rfl⟩
def cmI (a b : Int) : Int := if a < b then -1 else if b < a then 1 else 0
theorem rIsNaN (x : Int) (w : World) : Calls Tryd.prog 39 #[.int .i64 x] w fun e w' => e = .returned (.bool false) ∧ w' = w := by
  have e1 : (x != x) = false := by simp
  go_enter Tryd.func39, Tryd.ntmps39
  go_wp2_with fail
  go_ret
  exact ⟨rfl, rfl⟩
set_option maxRecDepth 100000 in
set_option maxHeartbeats 1000000 in
theorem rCompare (x y : Int) (w : World) : Calls Tryd.prog 22 #[.int .i64 x, .int .i64 y] w fun e w' => e = .returned (.int .i64 (cmI x y)) ∧ w' = w := by
  have c1 := rIsNaN x w
  have c2 := rIsNaN y w
  unfold cmI
  by_cases h1 : x < y
  · have d1 : decide (x < y) = true := decide_eq_true h1
    rw [if_pos h1]
    go_enter Tryd.func22, Tryd.ntmps22
    go_wp2_with (first | (go_at_call 39; (with_reducible refine Calls.mono c1 ?_); rintro e w2 ⟨rfl, rfl⟩) | (go_at_call 39; (with_reducible refine Calls.mono c2 ?_); rintro e w2 ⟨rfl, rfl⟩))
    go_ret
    exact ⟨rfl, rfl⟩
  · have d1 : decide (x < y) = false := decide_eq_false h1
    rw [if_neg h1]
    by_cases h2 : y < x
    · have d2 : decide (y < x) = true := decide_eq_true h2
      have d2' : decide (x > y) = true := decide_eq_true h2
      rw [if_pos h2]
      go_enter Tryd.func22, Tryd.ntmps22
      go_wp2_with (first | (go_at_call 39; (with_reducible refine Calls.mono c1 ?_); rintro e w2 ⟨rfl, rfl⟩) | (go_at_call 39; (with_reducible refine Calls.mono c2 ?_); rintro e w2 ⟨rfl, rfl⟩))
      go_ret
      exact ⟨rfl, rfl⟩
    · have d2 : decide (y < x) = false := decide_eq_false h2
      have d2' : decide (x > y) = false := decide_eq_false h2
      rw [if_neg h2]
      go_enter Tryd.func22, Tryd.ntmps22
      go_wp2_with (first | (go_at_call 39; (with_reducible refine Calls.mono c1 ?_); rintro e w2 ⟨rfl, rfl⟩) | (go_at_call 39; (with_reducible refine Calls.mono c2 ?_); rintro e w2 ⟨rfl, rfl⟩))
      go_ret
      exact ⟨rfl, rfl⟩
set_option maxRecDepth 100000 in
set_option maxHeartbeats 1000000 in
theorem rCmp (p q : Pr) (w : World) : Calls Tryd.prog 21 #[.agg (pC p).toArray, .agg (pC q).toArray] w fun e w' => e = .returned (.int .i64 (cmI p.2 q.2)) ∧ w' = (w.alloc (.cells (pC p).toArray 33)).alloc (.cells (pC q).toArray 33) := by
  obtain ⟨p1, p2⟩ := p
  obtain ⟨q1, q2⟩ := q
  have c1 := rCompare p2 q2 ((w.alloc (.cells #[.int .i64 p1, .int .i64 p2] 33)).alloc (.cells #[.int .i64 q1, .int .i64 q2] 33))
  have hp : ((w.alloc (.cells #[.int .i64 p1, .int .i64 p2] 33)).alloc (.cells #[.int .i64 q1, .int .i64 q2] 33)).heap[w.heap.size]? = some (.cells #[.int .i64 p1, .int .i64 p2] 33 (0, 0)) := (Below.heap_alloc _ _ _ (by simp)).trans (heap_alloc_new _ _)
  obtain ⟨x0, x1, x2⟩ := m_cells hp
  clear hp
  show Calls Tryd.prog 21 #[.agg #[.int .i64 p1, .int .i64 p2], .agg #[.int .i64 q1, .int .i64 q2]] w _
  go_enter Tryd.func21, Tryd.ntmps21
  go_wp2_with (go_at_call 22; (with_reducible refine Calls.mono c1 ?_); rintro e w2 ⟨rfl, rfl⟩)
  go_ret
  exact ⟨rfl, rfl⟩
end Go.Proofs.YtipceoeihiaieaaDoor.Rou
