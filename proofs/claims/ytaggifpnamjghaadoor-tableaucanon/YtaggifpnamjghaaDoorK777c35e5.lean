import Derived.Test.YtaggifpnamjghaaDoorKb1151dfc
import Derived.Test.YtaggifpnamjghaaDoorK03bfe772
namespace Go.Proofs.YtaggifpnamjghaaDoor.Tbl
open Go.RowKit Go.Shelf Go.Proofs.YtaggifpnamjghaaDoor.Pau Go.Proofs.YtaggifpnamjghaaDoor.Gt
structure Fo (w V : World) (N : Nat) (p : P) (a b : Option Addr) (ca cb gc g1 g2 c1 c2 : Nat) (u v : List P) : Prop where
  tb : At3 V w.heap.size (.int .i64 (N : Int)) (.slice a N ca) (.slice b N cb)
  pp : At4 V (w.heap.size + 1) (.int .i64 p.n) (.int .u64 (p.x : Int)) (.int .u64 (p.z : Int)) (.int .i64 p.ph)
  rs : At3 V (w.heap.size + 1 + 1) (.int .i64 0) (.slice none 0 0) (.slice none 0 0)
  cc : At3 V gc (.int .i64 (N : Int)) (.slice (some ⟨g1, 0, none⟩) N c1) (.slice (some ⟨g2, 0, none⟩) N c2)
  so : PO V g1 u
  dd : PO V g2 v
  bw : Below w.heap.size w V
  n1 : w.heap.size + 1 + 1 < g1
  n2 : w.heap.size + 1 + 1 < g2
  n3 : w.heap.size + 1 + 1 < gc
  e12 : g1 ≠ g2
  e13 : gc ≠ g1
  e23 : gc ≠ g2
namespace Fo
variable {w V : World} {N : Nat} {p : P} {a b : Option Addr} {ca cb gc g1 g2 c1 c2 : Nat} {u v : List P}
theorem keep {V' : World} (h : Fo w V N p a b ca cb gc g1 g2 c1 c2 u v) (hb : Below V.heap.size V V') : Fo w V' N p a b ca cb gc g1 g2 c1 c2 u v :=
  ⟨h.tb.below hb, h.pp.below hb, h.rs.below hb, h.cc.below hb, h.so.below hb, h.dd.below hb, bkp h.bw hb, h.n1, h.n2, h.n3, h.e12, h.e13, h.e23⟩
theorem setS (h : Fo w V N p a b ca cb gc g1 g2 c1 c2 u v) (i : Nat) (q : P) : Fo w (set4 V g1 (i * 4) q) N p a b ca cb gc g1 g2 c1 c2 (u.set i q) v :=
  ⟨h.tb.off (by have := h.n1; omega), At4.off4 h.pp (by have := h.n1; omega), h.rs.off (by have := h.n1; omega), h.cc.off h.e13, h.so.set q, h.dd.off h.e12.symm, below_set4 h.bw (by have := h.n1; omega), h.n1, h.n2, h.n3, h.e12, h.e13, h.e23⟩
theorem setD (h : Fo w V N p a b ca cb gc g1 g2 c1 c2 u v) (i : Nat) (q : P) : Fo w (set4 V g2 (i * 4) q) N p a b ca cb gc g1 g2 c1 c2 u (v.set i q) :=
  ⟨h.tb.off (by have := h.n2; omega), At4.off4 h.pp (by have := h.n2; omega), h.rs.off (by have := h.n2; omega), h.cc.off h.e23, h.so.off h.e12, h.dd.set q, below_set4 h.bw (by have := h.n2; omega), h.n1, h.n2, h.n3, h.e12, h.e13, h.e23⟩
end Fo
end Go.Proofs.YtaggifpnamjghaaDoor.Tbl
