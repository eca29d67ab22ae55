/- The exact sum: what its words say. -/
import Derived.Test.YtnpdfkcjjedamaaGreatDoorSk
import Derived.RegionTactic
import Derived.BigRegion
namespace Go.Proofs.YtnpdfkcjjedamaaGreatDoor.Sca
open Go.RowKit Go.Lib Go.Shelf

/-- The number that words say, the lowest first. -/
def val : List Nat → Int
  | [] => 0
  | x :: r => (x : Int) + 18446744073709551616 * val r
theorem val_set : ∀ (a : List Nat) (i x y : Nat), a[i]? = some x → val (a.set i y) = val a + ((y : Int) - x) * 18446744073709551616 ^ i
  | [], i, x, y, h => by simp at h
  | z :: r, 0, x, y, h => by
    simp at h
    subst h
    simp only [List.set_cons_zero, val, Int.pow_zero]
    omega
  | z :: r, i + 1, x, y, h => by
    have := val_set r i x y (by simpa using h)
    simp only [List.set_cons_succ, val, this, Int.pow_succ]
    generalize (18446744073709551616 : Int) ^ i = p
    rw [Int.mul_add]
    have e : (18446744073709551616 : Int) * (((y : Int) - x) * p) = ((y : Int) - x) * (p * 18446744073709551616) := by rw [Int.mul_left_comm, Int.mul_comm 18446744073709551616 p]
    rw [e]
    omega
/-- Words as a block holds them. -/
def aw (a : List Nat) : Array Value := (a.map (fun x : Nat => Value.int IntKind.u64 (x : Int))).toArray
theorem aw_at {a : List Nat} {i x : Nat} (h : a[i]? = some x) : (aw a)[i]? = some (.int .u64 (x : Int)) := by simp [aw, h]
theorem aw_set (a : List Nat) (i x : Nat) : (aw a).setIfInBounds i (.int .u64 (x : Int)) = aw (a.set i x) := by simp [aw, List.map_set]
theorem aw_size (a : List Nat) : (aw a).size = a.length := by simp [aw]
/-- The words lie in a block. -/
structure Tot (w : World) (b : Nat) (a : List Nat) : Prop where
  len : a.length = 34
  lt : ∀ (i : Nat) x, a[i]? = some x → x < 18446744073709551616
  blk : w.heap[b]? = some (.cells (aw a) 44 (0, 0))
theorem Tot.cell {w : World} {b : Nat} {a : List Nat} (h : Tot w b a) (i x : Nat) (hx : a[i]? = some x) : w.cell? ⟨b, i, none⟩ = some (.int .u64 (x : Int)) := by
  simp [World.cell?, h.blk, aw_at hx]
theorem Tot.free {w : World} {b : Nat} {a : List Nat} (h : Tot w b a) (i : Nat) : w.frozen? ⟨b, i, none⟩ = false := by
  simp [World.frozen?, h.blk]
theorem Tot.drewN {w : World} {b : Nat} {a : List Nat} (h : Tot w b a) (q : Nat) : Tot (w.drewN q) b a := ⟨h.len, h.lt, h.blk⟩
theorem Tot.drew {w : World} {b : Nat} {a : List Nat} (h : Tot w b a) : Tot w.drew b a := ⟨h.len, h.lt, h.blk⟩
theorem Tot.set {w : World} {b : Nat} {a : List Nat} (h : Tot w b a) (i x : Nat) (_hi : i < 34) (hx : x < 18446744073709551616) : Tot (w.setCell ⟨b, i, none⟩ (.int .u64 (x : Int))) b (a.set i x) := by
  refine ⟨by rw [List.length_set]; exact h.len, fun j y hj => ?_, ?_⟩
  · rw [List.getElem?_set] at hj
    split at hj
    · split at hj
      · cases hj; exact hx
      · cases hj
    · exact h.lt j y hj
  · obtain ⟨hlt, hk⟩ := Array.getElem?_eq_some_iff.1 h.blk
    show (w.heap.modify b _)[b]? = _
    rw [Array.getElem?_eq_getElem (by rw [Array.size_modify]; exact hlt), Array.getElem_modify_self, hk]
    show some (Obj.cells ((aw a).setIfInBounds i (.int .u64 (x : Int))) 44 (0, 0)) = _
    rw [aw_set]
theorem Tot.grown {w w' : World} {b : Nat} {a : List Nat} {r : Option Nat} (h : Tot w b a) (hg : w.grownBy w' r) (hne : some b ≠ r) : Tot w' b a := by
  obtain ⟨hlt, _⟩ := Array.getElem?_eq_some_iff.1 h.blk
  exact ⟨h.len, h.lt, (hg.block b hlt (fun e => hne e)).trans h.blk⟩
/-- Two words added in: pure reckoning. -/
theorem acc_start (V V1 V2 p m2 : Int) (x x1 y y1 low high c1 c2 : Nat) (s : Int) (hx : x1 + 18446744073709551616 * c1 = x + low) (hy : y1 + 18446744073709551616 * c2 = y + high + c1)
    (h1 : V1 = V + ((x1 : Int) - x) * p) (h2 : V2 = V1 + ((y1 : Int) - y) * (p * 18446744073709551616)) (hm : m2 = (low : Int) + 18446744073709551616 * ((high : Int) - s * 18446744073709551616)) :
    V2 + ((c2 : Int) - s) * (p * 18446744073709551616 * 18446744073709551616) = V + m2 * p := by
  have ex : (x1 : Int) - x = (low : Int) - 18446744073709551616 * c1 := by omega
  have ey : (y1 : Int) - y = (high : Int) + c1 - 18446744073709551616 * c2 := by omega
  rw [h2, h1, ex, ey, hm]
  simp only [Int.sub_mul, Int.add_mul, Int.mul_add, Int.mul_sub, Int.mul_assoc, Int.mul_left_comm _ (18446744073709551616 : Int), Int.mul_comm _ (18446744073709551616 : Int)]
  omega
theorem acc_step (V V1 p T : Int) (x x1 sg c c' : Nat) (s : Int) (hx : x1 + 18446744073709551616 * c' = x + sg + c) (hs : (sg : Int) = s * 18446744073709551616 - s)
    (h1 : V1 = V + ((x1 : Int) - x) * p) (hT : V + ((c : Int) - s) * p = T) :
    V1 + ((c' : Int) - s) * (p * 18446744073709551616) = T := by
  have ex : (x1 : Int) - x = (s * 18446744073709551616 - s) + c - 18446744073709551616 * c' := by omega
  rw [h1, ex, ← hT]
  simp only [Int.sub_mul, Int.add_mul, Int.mul_sub, Int.mul_assoc, Int.mul_left_comm _ (18446744073709551616 : Int), Int.mul_comm _ (18446744073709551616 : Int)]
  omega
end Go.Proofs.YtnpdfkcjjedamaaGreatDoor.Sca
