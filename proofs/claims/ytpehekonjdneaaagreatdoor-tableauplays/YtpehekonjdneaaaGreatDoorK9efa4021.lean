import Derived.Test.YtpehekonjdneaaaGreatDoorK86fc4055
import Derived.Test.YtpehekonjdneaaaGreatDoorK2f4fca35
namespace Go.Proofs.YtpehekonjdneaaaGreatDoor.Tbl
open Go.RowKit Go.Shelf Go.Proofs.YtpehekonjdneaaaGreatDoor.Pau Go.Proofs.YtpehekonjdneaaaGreatDoor.Gt
structure Fo (w V : World) (N : Nat) (p : P) (a b : Option Addr) (ca cb gc g1 g2 c1 c2 : Nat) (u v : List P) : Prop where
  tb : At3 V w.heap.size (.int .i64 (N : Int)) (.slice a N ca) (.slice b N cb)
  pp : At4 V (w.heap.size + 1) (.int .i64 p.n) (.int .u64 (p.x : Int)) (.int .u64 (p.z : Int)) (.int .i64 p.ph)
  rs : At3 V (w.heap.size + 1 + 1) (.int .i64 0) (.slice none 0 0) (.slice none 0 0)
  cc : At3 V gc (.int .i64 (N : Int)) (.slice (some ⟨g1, 0, none⟩) N c1) (.slice (some ⟨g2, 0, none⟩) N c2)
  so : PO V g1 u
  dd : PO V g2 v
  bw : Below w.heap.size w V
  n1 : w.heap.size + 1 + 1 < g1
  n2 : w.heap.size + 1 + 1 < g2
  n3 : w.heap.size + 1 + 1 < gc
  e12 : g1 ≠ g2
  e13 : gc ≠ g1
  e23 : gc ≠ g2
namespace Fo
variable {w V : World} {N : Nat} {p : P} {a b : Option Addr} {ca cb gc g1 g2 c1 c2 : Nat} {u v : List P}
theorem keep {V' : World} (h : Fo w V N p a b ca cb gc g1 g2 c1 c2 u v) (hb : Below V.heap.size V V') : Fo w V' N p a b ca cb gc g1 g2 c1 c2 u v :=
  ⟨h.tb.below hb, h.pp.below hb, h.rs.below hb, h.cc.below hb, h.so.below hb, h.dd.below hb, bkp h.bw hb, h.n1, h.n2, h.n3, h.e12, h.e13, h.e23⟩
theorem setS (h : Fo w V N p a b ca cb gc g1 g2 c1 c2 u v) (i : Nat) (q : P) : Fo w (set4 V g1 (i * 4) q) N p a b ca cb gc g1 g2 c1 c2 (u.set i q) v :=
  ⟨h.tb.off (by have := h.n1; omega), At4.off4 h.pp (by have := h.n1; omega), h.rs.off (by have := h.n1; omega), h.cc.off h.e13, h.so.set q, h.dd.off h.e12.symm, below_set4 h.bw (by have := h.n1; omega), h.n1, h.n2, h.n3, h.e12, h.e13, h.e23⟩
theorem setD (h : Fo w V N p a b ca cb gc g1 g2 c1 c2 u v) (i : Nat) (q : P) : Fo w (set4 V g2 (i * 4) q) N p a b ca cb gc g1 g2 c1 c2 u (v.set i q) :=
  ⟨h.tb.off (by have := h.n2; omega), At4.off4 h.pp (by have := h.n2; omega), h.rs.off (by have := h.n2; omega), h.cc.off h.e23, h.so.off h.e12, h.dd.set q, below_set4 h.bw (by have := h.n2; omega), h.n1, h.n2, h.n3, h.e12, h.e13, h.e23⟩
end Fo
theorem ch_len {t : TT} (hc : chB t = true) : t.s.length <= 64 /\ t.d.length <= 64 := by
  obtain ⟨h0, h64, hls, hld⟩ := sz_of (ch_size hc)
  exact ⟨by omega, by omega⟩
theorem mul_step (l : List P) (q : P) (k : Nat) (T : P -> Bool) (i : Nat) (h1 : i ≠ k) (h2 : T (l.getD i oP) = true) : (upd l (mulF q k T) i).set i (pdP (l.getD i oP) q) = upd l (mulF q k T) (i + 1) := by
  have := upd_succ l (mulF q k T) i
  unfold mulF at this
  rw [if_pos ⟨h1, h2⟩] at this
  exact this
theorem mul_stay (l : List P) (q : P) (k : Nat) (T : P -> Bool) (i : Nat) (h : i = k ∨ T (l.getD i oP) = false) : upd l (mulF q k T) (i + 1) = upd l (mulF q k T) i := upd_same _ _ _ (fun _ => by
  unfold mulF
  rw [if_neg]
  rintro ⟨h1, h2⟩
  rcases h with h | h
  . exact h1 h
  . rw [h] at h2; cases h2)
structure Fi2 (t : TT) (p : P) (N k : Nat) : Prop where
  n : t.n = (N : Int)
  n64 : N <= 64
  ls : t.s.length = N
  ld : t.d.length = N
  kl : k < N
  lo : loI t p = (k : Int)
  ix : lsI t p = k
  ts : ∀ i, i < N -> tnB p (t.s.getD i oP) = !comB (t.s.getD i oP) p
  td : ∀ i, i < N -> tnB p (t.d.getD i oP) = !comB (t.d.getD i oP) p
  ws : ∀ i, i < N -> Wd (t.s.getD i oP)
  wd : ∀ i, i < N -> Wd (t.d.getD i oP)
theorem fi2_of {t : TT} {p : P} (hc : chB t = true) (hsg : sgB p t.n = true) (hl : lsB t p = true) : ∃ N k, Fi2 t p N k /\ Rr N p := by
  obtain ⟨h0, h64, hls, hld⟩ := sz_of (ch_size hc)
  obtain ⟨N, hN⟩ : ∃ N : Nat, t.n = (N : Int) := ⟨t.n.toNat, by omega⟩
  rw [hN, Int.toNat_natCast] at hls hld
  rw [hN] at hsg
  have hp := (sgB_iff.1 hsg).1
  have hr := fun i (hi : i < N) => sg_rr hN ((ch_iff.1 hc).2.1 i (by rw [hN]; omega))
  have hk := ls_at hc hN hp hl
  refine ⟨N, lsI t p, ⟨hN, by omega, hls, hld, hk.1, ?_, rfl, fun i hi => ?_, fun i hi => ?_, fun i hi => (hr i hi).1.wd, fun i hi => (hr i hi).2.wd⟩, hp⟩
  . unfold loI; rw [if_pos hl]
  . unfold tnB; rw [cm_eq (hr i hi).1 hp]
  . unfold tnB; rw [cm_eq (hr i hi).2 hp]
theorem get_some {w : World} {B : Nat} {ao : Option Addr} {l : List P} (h : POo w B ao l) (h0 : 0 < l.length) : ∃ g, ao = some ⟨g, 0, none⟩ /\ B <= g /\ PO w g l := by
  rcases h with h | h
  . rw [h] at h0; simp at h0
  . exact h
end Go.Proofs.YtpehekonjdneaaaGreatDoor.Tbl
