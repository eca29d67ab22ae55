import Derived.Test.YthndpbjplcphpaaDoorQ521f99fc
import Derived.BigQuiet
namespace Go.Proofs.YthndpbjplcphpaaDoor.Gt
open Go.RowKit Go.Proofs.YthndpbjplcphpaaDoor.Oct
theorem below_drewN {B : Nat} {a w : World} (h : Below B a w) (n : Nat) : Below B a (w.drewN n) := ⟨h.os, h.tape, h.output, h.size, h.block⟩
def Rk (w : World) (g : Nat) (t : TypeId) (n : Nat) (f : Nat -> Value) : Prop := ∃ cur : Array Value, w.heap[g]? = some (.cells cur t (0, 0)) /\ n <= cur.size /\ ∀ i, i < n -> cur[i]? = some (f i)
namespace Rk
variable {w : World} {g : Nat} {t : TypeId} {n : Nat} {f f' : Nat -> Value}
theorem cell (h : Rk w g t n f) (i : Nat) (hi : i < n) : w.cell? ⟨g, i, none⟩ = some (f i) := by
  obtain ⟨c, hb, _, hc⟩ := h
  simp [World.cell?, hb, hc i hi]
theorem frozen (h : Rk w g t n f) (i : Nat) : w.frozen? ⟨g, i, none⟩ = false := by
  obtain ⟨c, hb, _, _⟩ := h
  simp [World.frozen?, hb]
theorem lt (h : Rk w g t n f) : g < w.heap.size := by
  obtain ⟨c, hb, _, _⟩ := h
  exact (Array.getElem?_eq_some_iff.1 hb).1
theorem congr (h : Rk w g t n f) (e : ∀ i, i < n -> f i = f' i) : Rk w g t n f' := by
  obtain ⟨c, hb, hn, hc⟩ := h
  exact ⟨c, hb, hn, fun i hi => by rw [hc i hi, e i hi]⟩
theorem of_block {w' : World} (h : Rk w g t n f) (e : w'.heap[g]? = w.heap[g]?) : Rk w' g t n f := by
  obtain ⟨c, hb, hn, hc⟩ := h
  exact ⟨c, e.trans hb, hn, hc⟩
theorem below {w' : World} (h : Rk w g t n f) (hb : Below w.heap.size w w') : Rk w' g t n f := h.of_block (hb.block g h.lt)
theorem set (h : Rk w g t n f) (i : Nat) (v : Value) : Rk (w.setCell ⟨g, i, none⟩ v) g t n (fun j => if j = i then v else f j) := by
  obtain ⟨c, hb, hn, hc⟩ := h
  refine ⟨c.setIfInBounds i v, ?_, by simpa using hn, fun j hj => ?_⟩
  . simp [World.setCell, Array.getElem?_modify, hb]
  . rw [Array.getElem?_setIfInBounds]
    by_cases e : j = i
    . subst e
      have : j < c.size := by omega
      simp [this]
    . rw [if_neg (fun h => e h.symm)]
      show c[j]? = some (if j = i then v else f j)
      rw [if_neg e]
      exact hc j hj
end Rk
end Go.Proofs.YthndpbjplcphpaaDoor.Gt
