/- The kind of a name; the document's kinds; the law GateNames, as it is walked. -/
import Derived.Test.YteknpejkooemjabDoorAc
import Derived.Deep.QuietTactic
import Derived.BigQuiet
namespace Go.Proofs.YteknpejkooemjabDoor.Gt
open Go.RowKit Go.Proofs.YteknpejkooemjabDoor.Oct

theorem below_drewN {B : Nat} {a w : World} (h : Below B a w) (n : Nat) : Below B a (w.drewN n) := ⟨h.os, h.tape, h.output, h.size, h.block⟩
/-- A row whose first n cells are told by their places. -/
def Rk (w : World) (g : Nat) (t : TypeId) (n : Nat) (f : Nat → Value) : Prop := ∃ cur : Array Value, w.heap[g]? = some (.cells cur t (0, 0)) ∧ n ≤ cur.size ∧ ∀ i, i < n → cur[i]? = some (f i)
namespace Rk
variable {w : World} {g : Nat} {t : TypeId} {n : Nat} {f f' : Nat → Value}
theorem cell (h : Rk w g t n f) (i : Nat) (hi : i < n) : w.cell? ⟨g, i, none⟩ = some (f i) := by
  obtain ⟨c, hb, _, hc⟩ := h
  simp [World.cell?, hb, hc i hi]
theorem frozen (h : Rk w g t n f) (i : Nat) : w.frozen? ⟨g, i, none⟩ = false := by
  obtain ⟨c, hb, _, _⟩ := h
  simp [World.frozen?, hb]
theorem lt (h : Rk w g t n f) : g < w.heap.size := by
  obtain ⟨c, hb, _, _⟩ := h
  exact (Array.getElem?_eq_some_iff.1 hb).1
theorem congr (h : Rk w g t n f) (e : ∀ i, i < n → f i = f' i) : Rk w g t n f' := by
  obtain ⟨c, hb, hn, hc⟩ := h
  exact ⟨c, hb, hn, fun i hi => by rw [hc i hi, e i hi]⟩
theorem of_block {w' : World} (h : Rk w g t n f) (e : w'.heap[g]? = w.heap[g]?) : Rk w' g t n f := by
  obtain ⟨c, hb, hn, hc⟩ := h
  exact ⟨c, e.trans hb, hn, hc⟩
theorem below {w' : World} (h : Rk w g t n f) (hb : Below w.heap.size w w') : Rk w' g t n f := h.of_block (hb.block g h.lt)
theorem set (h : Rk w g t n f) (i : Nat) (v : Value) : Rk (w.setCell ⟨g, i, none⟩ v) g t n (fun j => if j = i then v else f j) := by
  obtain ⟨c, hb, hn, hc⟩ := h
  refine ⟨c.setIfInBounds i v, ?_, by simpa using hn, fun j hj => ?_⟩
  · simp [World.setCell, Array.getElem?_modify, hb]
  · rw [Array.getElem?_setIfInBounds]
    by_cases e : j = i
    · subst e
      have : j < c.size := by omega
      simp [this]
    · rw [if_neg (fun h => e h.symm)]
      show c[j]? = some (if j = i then v else f j)
      rw [if_neg e]
      exact hc j hj
theorem far (h : Rk w g t n f) {a : Addr} (ha : g ≠ a.block) (v : Value) : Rk (w.setCell a v) g t n f := h.of_block (Below.heap_setCell _ _ _ _ ha)
end Rk
/-- A row of the call's own, by its places. -/
theorem rk_own {w : World} {B : Nat} {t : TypeId} {g n c m : Nat} {xs : List Value} (h : w.ownsRow B t 1 (.slice (some ⟨g, 0, none⟩) m c) n xs) (f : Nat → Value) (hf : ∀ i, i < n → xs[i]? = some (f i)) : Rk w g t n f ∧ B ≤ g := by
  rcases h.2 with ⟨hv, _⟩ | ⟨g', cap, cur, hv, hbg, hg, h1, h2, h3, h4⟩
  · simp at hv
  · simp only [Value.slice.injEq, Option.some.injEq, Addr.mk.injEq] at hv
    obtain ⟨⟨rfl, _⟩, _, _⟩ := hv
    refine ⟨⟨cur, hg, by omega, fun i hi => ?_⟩, hbg⟩
    have := hf i hi
    rw [← h4, List.getElem?_take, if_pos (by omega)] at this
    simpa using this
theorem kl_at (n i : Nat) (h : i + 1 < n) : (kl n)[i]? = some (.int .i64 ((i + 1 : Nat) : Int)) := by
  unfold kl
  rw [List.getElem?_map, List.getElem?_drop, Nat.add_comm, List.getElem?_range h]
  rfl
theorem rk_kinds {w : World} {B g c : Nat} (h : w.ownsRow B 37 1 (.slice (some ⟨g, 0, none⟩) 20 c) 20 (kl 21)) : Rk w g 37 20 (fun j => .int .i64 ((j + 1 : Nat) : Int)) ∧ B ≤ g :=
  rk_own h _ (fun i hi => kl_at 21 i (by omega))
/-- The kind of a name, from a place on. -/
def ofG (l : List UInt8) : Nat → Nat → Int × Int
  | 0, _ => (0, 60)
  | n + 1, i => if (rw' ((i + 1 : Nat) : Int)).nm = l then (((i + 1 : Nat) : Int), 0) else ofG l n (i + 1)
def ofP (l : List UInt8) : Int × Int := ofG l 20 0
theorem ba_eq (a b : List UInt8) : (a == b) = decide (a = b) := by
  by_cases h : a = b <;> simp [h]
theorem of_name (i : Nat) (h : i < 20) : ofP (rw' ((i + 1 : Nat) : Int)).nm = (((i + 1 : Nat) : Int), 0) := by
  have := (by decide +kernel : ∀ n : Fin 20, ofP (rw' ((n.1 + 1 : Nat) : Int)).nm = (((n.1 + 1 : Nat) : Int), 0)) ⟨i, h⟩
  exact this
/-- Kinds of which the first ones are struck. -/
def kf (i : Nat) (j : Nat) : Value := if j < i then .int .i64 99 else .int .i64 ((j + 1 : Nat) : Int)
theorem kf_succ (i : Nat) : (fun j => if j = i then Value.int .i64 99 else kf i j) = kf (i + 1) := by
  funext j
  unfold kf
  by_cases h : j = i
  · rw [if_pos h, if_pos (by omega)]
  · rw [if_neg h]
    by_cases h2 : j < i
    · rw [if_pos h2, if_pos (by omega)]
    · rw [if_neg h2, if_neg (by omega)]
end Go.Proofs.YteknpejkooemjabDoor.Gt
