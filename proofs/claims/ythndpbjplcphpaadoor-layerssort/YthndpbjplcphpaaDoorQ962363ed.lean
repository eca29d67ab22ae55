import Derived.Test.YthndpbjplcphpaaDoorQb973908d
namespace Go.Proofs.YthndpbjplcphpaaDoor.Cir
open Go.RowKit Go.Shelf Go.Proofs.YthndpbjplcphpaaDoor.Oct Go.Proofs.YthndpbjplcphpaaDoor.Tok Go.Proofs.YthndpbjplcphpaaDoor.Gt
structure Ly where
  mq : Nat
  mb : Nat
  md : Nat
  bt : Nat
structure DcOk (d : Dc) : Prop where
  q : d.q.size <= 64
  b : d.b.size <= 64
  rq : ∀ x r, d.q.find x = some r -> 1 <= r.sz /\ r.fr + r.sz <= d.q.size
  rb : ∀ x r, d.b.find x = some r -> 1 <= r.sz /\ r.fr + r.sz <= d.b.size
def RQ (w : World) (b : Nat) (k : Bk) : Prop := ∃ n, n <= k.size /\ Mp w b n (fun x => (k.find x).map rgV)
theorem RQ.below {w w' : World} {b : Nat} {k : Bk} (h : RQ w b k) (hb : Below w.heap.size w w') : RQ w' b k := by
  obtain ⟨n, hn, h⟩ := h
  exact ⟨n, hn, h.below hb⟩
theorem RQ.kept {w w' : World} {b : Nat} {k : Bk} {M : List Nat} (h : RQ w b k) (hk : Kb M w w') (hm : b ∉ M) : RQ w' b k := by
  obtain ⟨n, hn, h⟩ := h
  exact ⟨n, hn, h.kept hk hm⟩
theorem RQ.ne {w : World} {b : Nat} {q : Bk} (h : RQ w b q) {k : Nat} {cs : Array Value} {t : TypeId} {fr : Nat × Nat} (hk : w.heap[k]? = some (.cells cs t fr)) : b ≠ k := by
  obtain ⟨n, _, h⟩ := h
  exact h.ne hk
theorem RQ.lt {w : World} {b : Nat} {k : Bk} (h : RQ w b k) : b < w.heap.size := by
  obtain ⟨n, _, h⟩ := h
  exact h.lt
theorem RM.ne {w : World} {b : Nat} {f : Nm -> Option Rg} (h : RM w b f) {k : Nat} {cs : Array Value} {t : TypeId} {fr : Nat × Nat} (hk : w.heap[k]? = some (.cells cs t fr)) : b ≠ k := by
  obtain ⟨n, _, h⟩ := h
  exact h.ne hk
namespace Rdr
variable {w0 w w' : World} {R : Nat} {L : Ly} {B N : Nat} {d : Dc} {o : Value} {ts ts' : List T} {x : X}
end Rdr
end Go.Proofs.YthndpbjplcphpaaDoor.Cir
