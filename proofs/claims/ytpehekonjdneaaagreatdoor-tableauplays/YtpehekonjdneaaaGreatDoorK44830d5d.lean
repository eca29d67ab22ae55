import Derived.Test.YtpehekonjdneaaaGreatDoorK1ac3fc8d
import Derived.Test.YtpehekonjdneaaaGreatDoorKac1d3529
import Derived.Test.YtpehekonjdneaaaGreatDoorK7cfc0cc3
import Derived.Test.YtpehekonjdneaaaGreatDoorK0c664d21
set_option maxRecDepth 100000
set_option maxHeartbeats 8000000
namespace Go.Proofs.YtpehekonjdneaaaGreatDoor.Tbl
open Go.RowKit Go.Shelf Go.Proofs.YtpehekonjdneaaaGreatDoor.Pau Go.Proofs.YtpehekonjdneaaaGreatDoor.Gt
def AtA (w : World) (g : Nat) (a b c d : Value) : Prop := w.heap[g]? = some (.cells #[a, b, c, d] 41 (0, 0))
theorem AtA.cells {w : World} {g : Nat} {a b c d : Value} (h : AtA w g a b c d) : w.cell? ⟨g, 0, none⟩ = some a /\ w.cell? ⟨g, 1, none⟩ = some b /\ w.cell? ⟨g, 2, none⟩ = some c /\ w.cell? ⟨g, 3, none⟩ = some d /\ g < w.heap.size :=
  ⟨cell_of_row _ _ 0 _ _ _ h, cell_of_row _ _ 1 _ _ _ h, cell_of_row _ _ 2 _ _ _ h, cell_of_row _ _ 3 _ _ _ h, (Array.getElem?_eq_some_iff.1 h).1⟩
theorem AtA.lt {w : World} {g : Nat} {a b c d : Value} (h : AtA w g a b c d) : g < w.heap.size := (Array.getElem?_eq_some_iff.1 h).1
theorem AtA.below {w w' : World} {g : Nat} {a b c d : Value} (h : AtA w g a b c d) (hb : Below w.heap.size w w') : AtA w' g a b c d := (hb.block g h.lt).trans h
theorem results_cct {P : Program} {fn : Func} {p q u : Tmp} {ty ty2 : TypeId} (h : fn.results = #[.cell p ty, .cell q ty2, .tmp u]) (tmps : Array Value) (w : World) (g g2 : Nat) (t t2 : TypeId) (cs cs2 : Array Value) (fr fr2 : Nat × Nat) (d d2 : TypeDesc)
    (hp : tmps.getD p undef = .pointer (some ⟨g, 0, none⟩)) (hg : w.heap[g]? = some (.cells cs t fr)) (hq : tmps.getD q undef = .pointer (some ⟨g2, 0, none⟩)) (hg2 : w.heap[g2]? = some (.cells cs2 t2 fr2))
    (hu : P.underlying ty = some d) (hd : (match d with | .struct _ | .array _ _ => true | _ => false) = true) (hi : (P.info? ty).map (·.size) = some cs.size)
    (hu2 : P.underlying ty2 = some d2) (hd2 : (match d2 with | .struct _ | .array _ _ => true | _ => false) = true) (hi2 : (P.info? ty2).map (·.size) = some cs2.size) :
    (results fn tmps).run P w = .ok (.tuple #[.agg cs, .agg cs2, tmps.getD u undef]) w := by
  have hp' : tmps[p]?.getD undef = .pointer (some ⟨g, 0, none⟩) := by simpa using hp
  have hq' : tmps[q]?.getD undef = .pointer (some ⟨g2, 0, none⟩) := by simpa using hq
  simp [results, h, hp', hq', asAddr, run_loadVar_row w g t ty cs fr d hg hu hd hi, run_loadVar_row w g2 t2 ty2 cs2 fr2 d2 hg2 hu2 hd2 hi2, Result.andThen]
structure Dw (w V : World) (t1 t2 t3 d2 d3 a0 a1 a2 a3 x1 x2 x3 y1 y2 y3 : Value) (gx gy : Nat) : Prop where
  bt : At3 V w.heap.size t1 t2 t3
  bd : At3 V (w.heap.size + 1) t1 d2 d3
  ba : AtA V (w.heap.size + 1 + 1) a0 a1 a2 a3
  b6 : At3 V (w.heap.size + 1 + 1 + 1) (.int .i64 0) (.slice none 0 0) (.slice none 0 0)
  b7 : At3 V (w.heap.size + 1 + 1 + 1 + 1) (.int .i64 0) (.slice none 0 0) (.slice none 0 0)
  x : At3 V gx x1 x2 x3
  y : At3 V gy y1 y2 y3
  ne : gx ≠ gy
  hx : w.heap.size + 1 + 1 + 1 + 1 < gx
  hy : w.heap.size + 1 + 1 + 1 + 1 < gy
  bw : Below w.heap.size w V
namespace Dw
variable {w V V' : World} {t1 t2 t3 d2 d3 a0 a1 a2 a3 x1 x2 x3 y1 y2 y3 : Value} {gx gy : Nat}
theorem keep (h : Dw w V t1 t2 t3 d2 d3 a0 a1 a2 a3 x1 x2 x3 y1 y2 y3 gx gy) (hb : Below V.heap.size V V') : Dw w V' t1 t2 t3 d2 d3 a0 a1 a2 a3 x1 x2 x3 y1 y2 y3 gx gy :=
  ⟨h.bt.below hb, h.bd.below hb, h.ba.below hb, h.b6.below hb, h.b7.below hb, h.x.below hb, h.y.below hb, h.ne, h.hx, h.hy, bkp h.bw hb⟩
theorem drew (h : Dw w V t1 t2 t3 d2 d3 a0 a1 a2 a3 x1 x2 x3 y1 y2 y3 gx gy) : Dw w V.drew t1 t2 t3 d2 d3 a0 a1 a2 a3 x1 x2 x3 y1 y2 y3 gx gy :=
  ⟨h.bt, h.bd, h.ba, h.b6, h.b7, h.x, h.y, h.ne, h.hx, h.hy, h.bw.drew⟩
theorem setx (h : Dw w V t1 t2 t3 d2 d3 a0 a1 a2 a3 x1 x2 x3 y1 y2 y3 gx gy) (u1 u2 u3 : Value) : Dw w (V.setRow gx #[u1, u2, u3]) t1 t2 t3 d2 d3 a0 a1 a2 a3 u1 u2 u3 y1 y2 y3 gx gy := by
  have k := h.hx
  refine ⟨(setRow_other _ _ _ _ (by omega)).trans h.bt, (setRow_other _ _ _ _ (by omega)).trans h.bd, (setRow_other _ _ _ _ (by omega)).trans h.ba, (setRow_other _ _ _ _ (by omega)).trans h.b6, (setRow_other _ _ _ _ (by omega)).trans h.b7, ?_, (setRow_other _ _ _ _ (Ne.symm h.ne)).trans h.y, h.ne, h.hx, h.hy, below_setRow h.bw (by omega) _⟩
  have := h.x
  unfold At3 at this ⊢
  exact setRow_heap _ _ _ _ _ _ this
theorem sety (h : Dw w V t1 t2 t3 d2 d3 a0 a1 a2 a3 x1 x2 x3 y1 y2 y3 gx gy) (u1 u2 u3 : Value) : Dw w (V.setRow gy #[u1, u2, u3]) t1 t2 t3 d2 d3 a0 a1 a2 a3 x1 x2 x3 u1 u2 u3 gx gy := by
  have k := h.hy
  refine ⟨(setRow_other _ _ _ _ (by omega)).trans h.bt, (setRow_other _ _ _ _ (by omega)).trans h.bd, (setRow_other _ _ _ _ (by omega)).trans h.ba, (setRow_other _ _ _ _ (by omega)).trans h.b6, (setRow_other _ _ _ _ (by omega)).trans h.b7, (setRow_other _ _ _ _ h.ne).trans h.x, ?_, h.ne, h.hx, h.hy, below_setRow h.bw (by omega) _⟩
  have := h.y
  unfold At3 at this ⊢
  exact setRow_heap _ _ _ _ _ _ this
end Dw
theorem seven3 (w : World) (t1 t2 t3 d2 d3 a0 a1 a2 a3 : Value) :
    Dw w (((((((w.alloc (.cells #[t1, t2, t3] 29)).alloc (.cells #[t1, d2, d3] 29)).alloc (.cells #[a0, a1, a2, a3] 41)).alloc (.cells #[.int .i64 0, .slice none 0 0, .slice none 0 0] 29)).alloc (.cells #[.int .i64 0, .slice none 0 0, .slice none 0 0] 29)).alloc (.cells #[t1, t2, t3] 29)).alloc (.cells #[t1, d2, d3] 29)) t1 t2 t3 d2 d3 a0 a1 a2 a3 t1 t2 t3 t1 d2 d3 (w.heap.size + 1 + 1 + 1 + 1 + 1) (w.heap.size + 1 + 1 + 1 + 1 + 1 + 1) := by
  have hA : ∀ (V : World) (a b c d : Value), AtA (V.alloc (.cells #[a, b, c, d] 41)) V.heap.size a b c d := fun V a b c d => heap_alloc_new _ _
  have h1 := At3.new w t1 t2 t3
  generalize hV1 : w.alloc (.cells #[t1, t2, t3] 29) = V1 at *
  have s1 : V1.heap.size = w.heap.size + 1 := by rw [← hV1]; simp
  have b1 : Below w.heap.size w V1 := by rw [← hV1]; exact bnew _ _
  have h2 := At3.new V1 t1 d2 d3
  have k2 := bnew V1 (.cells #[t1, d2, d3] 29)
  generalize hV2 : V1.alloc (.cells #[t1, d2, d3] 29) = V2 at *
  have s2 : V2.heap.size = w.heap.size + 1 + 1 := by rw [← hV2]; simp [s1]
  have h3 := hA V2 a0 a1 a2 a3
  have k3 := bnew V2 (.cells #[a0, a1, a2, a3] 41)
  generalize hV3 : V2.alloc (.cells #[a0, a1, a2, a3] 41) = V3 at *
  have s3 : V3.heap.size = w.heap.size + 1 + 1 + 1 := by rw [← hV3]; simp [s2]
  have h4 := At3.new V3 (.int .i64 0) (.slice none 0 0) (.slice none 0 0)
  have k4 := bnew V3 (.cells #[.int .i64 0, .slice none 0 0, .slice none 0 0] 29)
  generalize hV4 : V3.alloc (.cells #[.int .i64 0, .slice none 0 0, .slice none 0 0] 29) = V4 at *
  have s4 : V4.heap.size = w.heap.size + 1 + 1 + 1 + 1 := by rw [← hV4]; simp [s3]
  have h5 := At3.new V4 (.int .i64 0) (.slice none 0 0) (.slice none 0 0)
  have k5 := bnew V4 (.cells #[.int .i64 0, .slice none 0 0, .slice none 0 0] 29)
  generalize hV5 : V4.alloc (.cells #[.int .i64 0, .slice none 0 0, .slice none 0 0] 29) = V5 at *
  have s5 : V5.heap.size = w.heap.size + 1 + 1 + 1 + 1 + 1 := by rw [← hV5]; simp [s4]
  have h6 := At3.new V5 t1 t2 t3
  have k6 := bnew V5 (.cells #[t1, t2, t3] 29)
  generalize hV6 : V5.alloc (.cells #[t1, t2, t3] 29) = V6 at *
  have s6 : V6.heap.size = w.heap.size + 1 + 1 + 1 + 1 + 1 + 1 := by rw [← hV6]; simp [s5]
  have h7 := At3.new V6 t1 d2 d3
  have k7 := bnew V6 (.cells #[t1, d2, d3] 29)
  rw [s1] at h2; rw [s2] at h3; rw [s3] at h4; rw [s4] at h5; rw [s5] at h6; rw [s6] at h7
  exact ⟨(((((h1.below k2).below k3).below k4).below k5).below k6).below k7, ((((h2.below k3).below k4).below k5).below k6).below k7, (((h3.below k4).below k5).below k6).below k7, ((h4.below k5).below k6).below k7, (h5.below k6).below k7, h6.below k7, h7, by omega, by omega, by omega, bkp (bkp (bkp (bkp (bkp (bkp b1 k2) k3) k4) k5) k6) k7⟩
theorem seven3s (w : World) (t1 t2 t3 d2 d3 a0 a1 a2 a3 : Value) :
    Dw w (((((((w.alloc (.cells #[t1, t2, t3] 29)).alloc (.cells #[t1, d2, d3] 29)).alloc (.cells #[a0, a1, a2, a3] 41)).alloc (.cells #[.int .i64 0, .slice none 0 0, .slice none 0 0] 29)).alloc (.cells #[.int .i64 0, .slice none 0 0, .slice none 0 0] 29)).alloc (.cells #[t1, d2, d3] 29)).alloc (.cells #[t1, t2, t3] 29)) t1 t2 t3 d2 d3 a0 a1 a2 a3 t1 t2 t3 t1 d2 d3 (w.heap.size + 1 + 1 + 1 + 1 + 1 + 1) (w.heap.size + 1 + 1 + 1 + 1 + 1) := by
  have hA : ∀ (V : World) (a b c d : Value), AtA (V.alloc (.cells #[a, b, c, d] 41)) V.heap.size a b c d := fun V a b c d => heap_alloc_new _ _
  have h1 := At3.new w t1 t2 t3
  generalize hV1 : w.alloc (.cells #[t1, t2, t3] 29) = V1 at *
  have s1 : V1.heap.size = w.heap.size + 1 := by rw [← hV1]; simp
  have b1 : Below w.heap.size w V1 := by rw [← hV1]; exact bnew _ _
  have h2 := At3.new V1 t1 d2 d3
  have k2 := bnew V1 (.cells #[t1, d2, d3] 29)
  generalize hV2 : V1.alloc (.cells #[t1, d2, d3] 29) = V2 at *
  have s2 : V2.heap.size = w.heap.size + 1 + 1 := by rw [← hV2]; simp [s1]
  have h3 := hA V2 a0 a1 a2 a3
  have k3 := bnew V2 (.cells #[a0, a1, a2, a3] 41)
  generalize hV3 : V2.alloc (.cells #[a0, a1, a2, a3] 41) = V3 at *
  have s3 : V3.heap.size = w.heap.size + 1 + 1 + 1 := by rw [← hV3]; simp [s2]
  have h4 := At3.new V3 (.int .i64 0) (.slice none 0 0) (.slice none 0 0)
  have k4 := bnew V3 (.cells #[.int .i64 0, .slice none 0 0, .slice none 0 0] 29)
  generalize hV4 : V3.alloc (.cells #[.int .i64 0, .slice none 0 0, .slice none 0 0] 29) = V4 at *
  have s4 : V4.heap.size = w.heap.size + 1 + 1 + 1 + 1 := by rw [← hV4]; simp [s3]
  have h5 := At3.new V4 (.int .i64 0) (.slice none 0 0) (.slice none 0 0)
  have k5 := bnew V4 (.cells #[.int .i64 0, .slice none 0 0, .slice none 0 0] 29)
  generalize hV5 : V4.alloc (.cells #[.int .i64 0, .slice none 0 0, .slice none 0 0] 29) = V5 at *
  have s5 : V5.heap.size = w.heap.size + 1 + 1 + 1 + 1 + 1 := by rw [← hV5]; simp [s4]
  have h6 := At3.new V5 t1 d2 d3
  have k6 := bnew V5 (.cells #[t1, d2, d3] 29)
  generalize hV6 : V5.alloc (.cells #[t1, d2, d3] 29) = V6 at *
  have s6 : V6.heap.size = w.heap.size + 1 + 1 + 1 + 1 + 1 + 1 := by rw [← hV6]; simp [s5]
  have h7 := At3.new V6 t1 t2 t3
  have k7 := bnew V6 (.cells #[t1, t2, t3] 29)
  rw [s1] at h2; rw [s2] at h3; rw [s3] at h4; rw [s4] at h5; rw [s5] at h6; rw [s6] at h7
  exact ⟨(((((h1.below k2).below k3).below k4).below k5).below k6).below k7, ((((h2.below k3).below k4).below k5).below k6).below k7, (((h3.below k4).below k5).below k6).below k7, ((h4.below k5).below k6).below k7, (h5.below k6).below k7, h7, h6.below k7, by omega, by omega, by omega, bkp (bkp (bkp (bkp (bkp (bkp b1 k2) k3) k4) k5) k6) k7⟩
theorem c3_setD (w : World) (g : Nat) (a b c a' b' c' : Value) (t : TypeId) (h : w.heap[g]? = some (.cells #[a, b, c] t (0, 0))) : ((w.setCell ⟨g, 0, none⟩ a').setCell ⟨g, 1, none⟩ b').setCell ⟨g, 2, none⟩ c' = w.setRow g #[a', b', c'] := by
  rw [setCell_eq_setRow w g 0 _ t _ _ h, setCell_eq_setRow _ g 1 _ t _ _ (setRow_heap w g _ _ t _ h), setRow_setRow, setCell_eq_setRow _ g 2 _ t _ _ (setRow_heap w g _ _ t _ h), setRow_setRow]
  rfl
theorem Dw.fin {w V : World} {t1 t2 t3 d2 d3 a0 a1 a2 a3 x1 x2 x3 y1 y2 y3 : Value} {gx gy : Nat} (h : Dw w V t1 t2 t3 d2 d3 a0 a1 a2 a3 x1 x2 x3 y1 y2 y3 gx gy) (u1 u2 u3 v1 v2 v3 : Value) :
    (((((((V.setCell ⟨w.heap.size + 1 + 1 + 1, 0, none⟩ u1).setCell ⟨w.heap.size + 1 + 1 + 1, 1, none⟩ u2).setCell ⟨w.heap.size + 1 + 1 + 1, 2, none⟩ u3).setCell ⟨w.heap.size + 1 + 1 + 1 + 1, 0, none⟩ v1).setCell ⟨w.heap.size + 1 + 1 + 1 + 1, 1, none⟩ v2).setCell ⟨w.heap.size + 1 + 1 + 1 + 1, 2, none⟩ v3).drew.heap[w.heap.size + 1 + 1 + 1]? = some (.cells #[u1, u2, u3] 29 (0, 0)) /\
    (((((((V.setCell ⟨w.heap.size + 1 + 1 + 1, 0, none⟩ u1).setCell ⟨w.heap.size + 1 + 1 + 1, 1, none⟩ u2).setCell ⟨w.heap.size + 1 + 1 + 1, 2, none⟩ u3).setCell ⟨w.heap.size + 1 + 1 + 1 + 1, 0, none⟩ v1).setCell ⟨w.heap.size + 1 + 1 + 1 + 1, 1, none⟩ v2).setCell ⟨w.heap.size + 1 + 1 + 1 + 1, 2, none⟩ v3).drew.heap[w.heap.size + 1 + 1 + 1 + 1]? = some (.cells #[v1, v2, v3] 29 (0, 0))) /\
    Below w.heap.size w ((((((V.setCell ⟨w.heap.size + 1 + 1 + 1, 0, none⟩ u1).setCell ⟨w.heap.size + 1 + 1 + 1, 1, none⟩ u2).setCell ⟨w.heap.size + 1 + 1 + 1, 2, none⟩ u3).setCell ⟨w.heap.size + 1 + 1 + 1 + 1, 0, none⟩ v1).setCell ⟨w.heap.size + 1 + 1 + 1 + 1, 1, none⟩ v2).setCell ⟨w.heap.size + 1 + 1 + 1 + 1, 2, none⟩ v3).drew /\
    ∀ (X : TT) (a b : Option Addr) (ca cb : Nat), Th V X a b ca cb -> Th ((((((V.setCell ⟨w.heap.size + 1 + 1 + 1, 0, none⟩ u1).setCell ⟨w.heap.size + 1 + 1 + 1, 1, none⟩ u2).setCell ⟨w.heap.size + 1 + 1 + 1, 2, none⟩ u3).setCell ⟨w.heap.size + 1 + 1 + 1 + 1, 0, none⟩ v1).setCell ⟨w.heap.size + 1 + 1 + 1 + 1, 1, none⟩ v2).setCell ⟨w.heap.size + 1 + 1 + 1 + 1, 2, none⟩ v3).drew X a b ca cb) := by
  have h6 := h.b6
  have h7 : At3 (V.setRow (w.heap.size + 1 + 1 + 1) #[u1, u2, u3]) (w.heap.size + 1 + 1 + 1 + 1) (.int .i64 0) (.slice none 0 0) (.slice none 0 0) := (setRow_other _ _ _ _ (by omega)).trans h.b7
  unfold At3 at h6 h7
  rw [c3_setD V _ _ _ _ _ _ _ _ h6, c3_setD _ _ _ _ _ _ _ _ _ h7]
  refine ⟨(setRow_other _ _ _ _ (by omega)).trans (setRow_heap _ _ _ _ _ _ h6), setRow_heap _ _ _ _ _ _ h7, (below_setRow (below_setRow h.bw (by omega) _) (by omega) _).drew, fun X a b ca cb hX => ?_⟩
  have := (hX.row (show At3 V (w.heap.size + 1 + 1 + 1) _ _ _ from h6) #[u1, u2, u3]).row (show At3 _ (w.heap.size + 1 + 1 + 1 + 1) _ _ _ from h7) #[v1, v2, v3]
  exact this.below (Below.refl _ _).drew
theorem jDone0 (t : TT) (a b a2 b2 : Option Addr) (ca cb ca2 cb2 : Nat) (kk : Int) (gk v : Int) (l : List Int) (hl : l.length <= 1000000000000000) (ao : Option Addr) (c : Nat) (hlc : l.length <= c) (hk : kk ≠ 1 /\ kk ≠ 2 /\ kk ≠ 3 /\ kk ≠ 4 /\ kk ≠ 5) (w : World) (h : Th w t a b ca cb) (h2 : Th w t a2 b2 ca2 cb2) (hT : Tg w) (hN : Ns w ao l) :
    Calls Tryz.prog 9 #[tV t a b ca cb, tV t a2 b2 ca2 cb2, .agg #[.int .i64 kk, .int .i64 gk, .slice ao l.length c, .int .i64 v]] w fun e w' => ∃ a' b' ca' cb' a3 b3 ca3 cb3, e = .returned (.tuple #[tV t a' b' ca' cb', tV t a3 b3 ca3 cb3, .bool true]) /\ (Th w' t a' b' ca' cb' /\ Th w' t a3 b3 ca3 cb3) /\ Below w.heap.size w w' := by
  have HAK := hide (fun W x y cx cy x2 y2 cx2 cy2 (h1 : Th W t x y cx cy) (h2 : Th W t x2 y2 cx2 cy2) => dAlike t t x y x2 y2 cx cy cx2 cy2 W h1 h2)
  simp only [decide_true] at HAK
  have hnum := tNum
  have HT1 := hide (fun W (hb : Below w.heap.size w W) => h.below hb)
  have HT2 := hide (fun W (hb : Below w.heap.size w W) => h2.below hb)
  have HSA := hide (seven3 w (.int .i64 t.n) (.slice a t.s.length ca) (.slice b t.d.length cb) (.slice a2 t.s.length ca2) (.slice b2 t.d.length cb2) (.int .i64 kk) (.int .i64 gk) (.slice ao l.length c) (.int .i64 v))
  have HSB := hide (seven3s w (.int .i64 t.n) (.slice a t.s.length ca) (.slice b t.d.length cb) (.slice a2 t.s.length ca2) (.slice b2 t.d.length cb2) (.int .i64 kk) (.int .i64 gk) (.slice ao l.length c) (.int .i64 v))
  have e1 : (kk == 1) = false := beq_false_of_ne hk.1
  have e2 : (kk == 2) = false := beq_false_of_ne hk.2.1
  have e3 : (kk == 3) = false := beq_false_of_ne hk.2.2.1
  have e4 : (kk == 4) = false := beq_false_of_ne hk.2.2.2.1
  have e5 : (kk == 5) = false := beq_false_of_ne hk.2.2.2.2
  have hu : True := by have := hT; have := hN; have := hl; have := hlc; have := gk; have := v; trivial
  clear hu h h2 hT hN hl hlc hk
  unfold tV at  HAK ⊢
  generalize t.n = tn at *
  generalize t.s.length = ns at *
  generalize t.d.length = nd at *
  generalize l.length = nl at *
  go_enter Tryz.func9, Tryz.ntmps9
  go_upto_region 1 with fail
  go_cut [9, 10] from 17 (fun s9 s10 wq => ∃ gx gy : Nat, s9 = .pointer (some ⟨gx, 0, none⟩) /\ s10 = .pointer (some ⟨gy, 0, none⟩) /\ Hid (Dw w wq (.int .i64 tn) (.slice a ns ca) (.slice b nd cb) (.slice a2 ns ca2) (.slice b2 nd cb2) (.int .i64 kk) (.int .i64 gk) (.slice ao nl c) (.int .i64 v) (.int .i64 tn) (.slice a ns ca) (.slice b nd cb) (.int .i64 tn) (.slice a2 ns ca2) (.slice b2 nd cb2) gx gy))
  case first =>
    go_region
    . go_wp2_with fail
      go_meet
      case rel => exact ⟨_, _, rfl, rfl, hide HSA.out.drew⟩
    . go_wp2_with fail
      go_meet
      case rel => exact ⟨_, _, rfl, rfl, hide HSB.out.drew⟩
  case rest =>
    obtain ⟨gx, gy, rfl, rfl, HD0⟩ := hcut
    clear HSA HSB
    obtain ⟨a0, a1, a2', a3, a4⟩ := HD0.out.ba.cells
    obtain ⟨t0, t1, t2, t3⟩ := HD0.out.bt.cells
    go_upto_region 21 with fail
    have HD4 := HD0
    clear HD0 a0 a1 a2' a3 a4 t0 t1 t2 t3
    generalize wc = W2 at *
    have HX4 := hide (HT1.out _ HD4.out.bw)
    have HY4 := hide (HT2.out _ HD4.out.bw)
    obtain ⟨x0, x1, x2, x3⟩ := HD4.out.x.cells
    obtain ⟨y0, y1, y2, y3⟩ := HD4.out.y.cells
    go_wp2_with (first
      | (go_at_call 7; (with_reducible refine Calls.mono (hnum _ _) ?_); rintro e w3 ⟨rfl, rfl⟩))
    refine (HAK.out _ _ _ _ _ _ _ _ _ HX4.out HY4.out).mono ?_
    rintro e w5 ⟨rfl, hb5⟩
    have HD5 := hide (HD4.out.keep hb5)
    have HX5 := hide (HX4.out.below hb5)
    have HY5 := hide (HY4.out.below hb5)
    clear hb5 HD4 HX4 HY4 x0 x1 x2 x3 y0 y1 y2 y3
    obtain ⟨r0, r1, r2, r3⟩ := HD5.out.x.cells
    obtain ⟨s0, s1, s2, s3⟩ := HD5.out.y.cells
    obtain ⟨p0, p1, p2, p3⟩ := HD5.out.b6.cells
    obtain ⟨q0, q1, q2, q3⟩ := HD5.out.b7.cells
    have pf := HD5.out.b6.fz
    have qf := HD5.out.b7.fz
    have n1 : ¬ gy = w.heap.size + 1 + 1 + 1 := by have := HD5.out.hy; omega
    have n2 : ¬ w.heap.size + 1 + 1 + 1 = gy := by have := HD5.out.hy; omega
    go_upto_region 25 with (first
      | (go_at_call 7; (with_reducible refine Calls.mono (hnum _ _) ?_); rintro e w3 ⟨rfl, rfl⟩))
    go_region
    obtain ⟨f1, f2, f3, f4⟩ := HD5.out.fin (.int .i64 tn) (.slice a ns ca) (.slice b nd cb) (.int .i64 tn) (.slice a2 ns ca2) (.slice b2 nd cb2)
    clear r0 r1 r2 r3 s0 s1 s2 s3 p0 p1 p2 p3 q0 q1 q2 q3 pf qf
    have HF := hide (And.intro f3 (And.intro (f4 _ _ _ _ _ HX5.out) (f4 _ _ _ _ _ HY5.out)))
    clear f3 f4
    go_wp2_with fail
    refine bodyPost_ret (results_cct rfl _ _ (w.heap.size + 1 + 1 + 1) (w.heap.size + 1 + 1 + 1 + 1) _ _ _ _ _ _ _ _ rfl f1 rfl f2 Tryz.underlying29 rfl (by exact infoT) Tryz.underlying29 rfl (by exact infoT)) rfl ?_
    exact ⟨_, _, _, _, _, _, _, _, rfl, ⟨HF.out.2.1, HF.out.2.2⟩, HF.out.1⟩
theorem jDone1_ok (t R : TT) (a b a2 b2 : Option Addr) (ca cb ca2 cb2 : Nat) (gk v : Int) (l : List Int) (hl : l.length <= 1000000000000000) (ao : Option Addr) (c : Nat) (hlc : l.length <= c) (hR : gtR t gk l = (R, 0)) (w : World) (h : Th w t a b ca cb) (h2 : Th w t a2 b2 ca2 cb2) (hT : Tg w) (hN : Ns w ao l) :
    Calls Tryz.prog 9 #[tV t a b ca cb, tV t a2 b2 ca2 cb2, .agg #[.int .i64 1, .int .i64 gk, .slice ao l.length c, .int .i64 v]] w fun e w' => ∃ a' b' ca' cb' a3 b3 ca3 cb3, e = .returned (.tuple #[tV R a' b' ca' cb', tV R a3 b3 ca3 cb3, .bool true]) /\ (Th w' R a' b' ca' cb' /\ Th w' R a3 b3 ca3 cb3) /\ Below w.heap.size w w' := by
  have HC1 := hide (fun W (hb : Below w.heap.size w W) => tGate t a b ca cb gk l hl ao c hlc W (h.below hb) (hT.below hb) (hN.below hb))
  have HC2 := hide (fun W (hb : Below w.heap.size w W) => dGate t a2 b2 ca2 cb2 gk l hl ao c W (h2.below hb) (hN.below hb))
  rw [hR] at HC1 HC2
  have HAK := hide (fun W x y cx cy x2 y2 cx2 cy2 (h1 : Th W R x y cx cy) (h2 : Th W R x2 y2 cx2 cy2) => dAlike R R x y x2 y2 cx cy cx2 cy2 W h1 h2)
  simp only [decide_true] at HAK
  have hnum := tNum
  have HT1 := hide (fun W (hb : Below w.heap.size w W) => h.below hb)
  have HT2 := hide (fun W (hb : Below w.heap.size w W) => h2.below hb)
  have HSA := hide (seven3 w (.int .i64 t.n) (.slice a t.s.length ca) (.slice b t.d.length cb) (.slice a2 t.s.length ca2) (.slice b2 t.d.length cb2) (.int .i64 1) (.int .i64 gk) (.slice ao l.length c) (.int .i64 v))
  have HSB := hide (seven3s w (.int .i64 t.n) (.slice a t.s.length ca) (.slice b t.d.length cb) (.slice a2 t.s.length ca2) (.slice b2 t.d.length cb2) (.int .i64 1) (.int .i64 gk) (.slice ao l.length c) (.int .i64 v))
  clear h h2 hT hN hl hlc hR
  unfold tV at HC1 HC2 HAK ⊢
  simp only at *
  generalize t.n = tn at *
  generalize t.s.length = ns at *
  generalize t.d.length = nd at *
  generalize l.length = nl at *
  generalize R.n = rn at *
  generalize R.s.length = rs at *
  generalize R.d.length = rd at *
  go_enter Tryz.func9, Tryz.ntmps9
  go_upto_region 1 with fail
  go_cut [9, 10] from 17 (fun s9 s10 wq => ∃ gx gy : Nat, s9 = .pointer (some ⟨gx, 0, none⟩) /\ s10 = .pointer (some ⟨gy, 0, none⟩) /\ Hid (Dw w wq (.int .i64 tn) (.slice a ns ca) (.slice b nd cb) (.slice a2 ns ca2) (.slice b2 nd cb2) (.int .i64 1) (.int .i64 gk) (.slice ao nl c) (.int .i64 v) (.int .i64 tn) (.slice a ns ca) (.slice b nd cb) (.int .i64 tn) (.slice a2 ns ca2) (.slice b2 nd cb2) gx gy))
  case first =>
    go_region
    . go_wp2_with fail
      go_meet
      case rel => exact ⟨_, _, rfl, rfl, hide HSA.out.drew⟩
    . go_wp2_with fail
      go_meet
      case rel => exact ⟨_, _, rfl, rfl, hide HSB.out.drew⟩
  case rest =>
    obtain ⟨gx, gy, rfl, rfl, HD0⟩ := hcut
    clear HSA HSB
    obtain ⟨a0, a1, a2', a3, a4⟩ := HD0.out.ba.cells
    obtain ⟨t0, t1, t2, t3⟩ := HD0.out.bt.cells
    go_wp2_with fail
    refine (HC1.out _ HD0.out.bw).mono ?_
    rintro e w1 ⟨xa, xb, xca, xcb, rfl, hx1, hb1⟩
    have HD1 := hide (HD0.out.keep hb1)
    have HX1 := hide hx1
    clear hx1 hb1 HD0 a0 a1 a2' a3 a4 t0 t1 t2 t3
    have hRx := HD1.out.x
    unfold At3 at hRx
    have HD2 := hide (HD1.out.setx (.int .i64 rn) (.slice xa rs xca) (.slice xb rd xcb))
    have HX2 := hide (HX1.out.row (show At3 w1 gx _ _ _ from hRx) #[.int .i64 rn, .slice xa rs xca, .slice xb rd xcb])
    go_upto_region 6 with (first
      | (refine wpList_store_row rfl _ _ _ rfl gx _ rfl rfl _ _ hRx (by exact infoT) (by rfl) (all3 _ _ _ _ _ _ _) ?_))
    clear hRx HD1 HX1
    generalize w1.setRow gx #[.int .i64 rn, .slice xa rs xca, .slice xb rd xcb] = W1 at *
    obtain ⟨a0, a1, a2', a3, a4⟩ := HD2.out.ba.cells
    obtain ⟨t0, t1, t2, t3⟩ := HD2.out.bd.cells
    go_wp2_with fail
    refine (HC2.out _ HD2.out.bw).mono ?_
    rintro e w2 ⟨ya, yb, yca, ycb, rfl, hy1, hb2⟩
    have HD3 := hide (HD2.out.keep hb2)
    have HY1 := hide hy1
    have HX3 := hide (HX2.out.below hb2)
    clear hy1 hb2 HD2 HX2 a0 a1 a2' a3 a4 t0 t1 t2 t3
    have hRy := HD3.out.y
    unfold At3 at hRy
    have HD4 := hide (HD3.out.sety (.int .i64 rn) (.slice ya rs yca) (.slice yb rd ycb))
    have HX4 := hide (HX3.out.row (show At3 w2 gy _ _ _ from hRy) #[.int .i64 rn, .slice ya rs yca, .slice yb rd ycb])
    have HY4 := hide (HY1.out.row (show At3 w2 gy _ _ _ from hRy) #[.int .i64 rn, .slice ya rs yca, .slice yb rd ycb])
    go_upto_region 21 with (first
      | (refine wpList_store_row rfl _ _ _ rfl gy _ rfl rfl _ _ hRy (by exact infoT) (by rfl) (all3 _ _ _ _ _ _ _) ?_))
    clear hRy HD3 HX3 HY1
    generalize w2.setRow gy #[.int .i64 rn, .slice ya rs yca, .slice yb rd ycb] = W2 at *
    obtain ⟨x0, x1, x2, x3⟩ := HD4.out.x.cells
    obtain ⟨y0, y1, y2, y3⟩ := HD4.out.y.cells
    go_wp2_with (first
      | (go_at_call 7; (with_reducible refine Calls.mono (hnum _ _) ?_); rintro e w3 ⟨rfl, rfl⟩))
    refine (HAK.out _ _ _ _ _ _ _ _ _ HX4.out HY4.out).mono ?_
    rintro e w5 ⟨rfl, hb5⟩
    have HD5 := hide (HD4.out.keep hb5)
    have HX5 := hide (HX4.out.below hb5)
    have HY5 := hide (HY4.out.below hb5)
    clear hb5 HD4 HX4 HY4 x0 x1 x2 x3 y0 y1 y2 y3
    obtain ⟨r0, r1, r2, r3⟩ := HD5.out.x.cells
    obtain ⟨s0, s1, s2, s3⟩ := HD5.out.y.cells
    obtain ⟨p0, p1, p2, p3⟩ := HD5.out.b6.cells
    obtain ⟨q0, q1, q2, q3⟩ := HD5.out.b7.cells
    have pf := HD5.out.b6.fz
    have qf := HD5.out.b7.fz
    have n1 : ¬ gy = w.heap.size + 1 + 1 + 1 := by have := HD5.out.hy; omega
    have n2 : ¬ w.heap.size + 1 + 1 + 1 = gy := by have := HD5.out.hy; omega
    go_upto_region 25 with (first
      | (go_at_call 7; (with_reducible refine Calls.mono (hnum _ _) ?_); rintro e w3 ⟨rfl, rfl⟩))
    go_region
    obtain ⟨f1, f2, f3, f4⟩ := HD5.out.fin (.int .i64 rn) (.slice xa rs xca) (.slice xb rd xcb) (.int .i64 rn) (.slice ya rs yca) (.slice yb rd ycb)
    clear r0 r1 r2 r3 s0 s1 s2 s3 p0 p1 p2 p3 q0 q1 q2 q3 pf qf
    have HF := hide (And.intro f3 (And.intro (f4 _ _ _ _ _ HX5.out) (f4 _ _ _ _ _ HY5.out)))
    clear f3 f4
    go_wp2_with fail
    refine bodyPost_ret (results_cct rfl _ _ (w.heap.size + 1 + 1 + 1) (w.heap.size + 1 + 1 + 1 + 1) _ _ _ _ _ _ _ _ rfl f1 rfl f2 Tryz.underlying29 rfl (by exact infoT) Tryz.underlying29 rfl (by exact infoT)) rfl ?_
    exact ⟨_, _, _, _, _, _, _, _, rfl, ⟨HF.out.2.1, HF.out.2.2⟩, HF.out.1⟩
theorem jDone1_no (t R : TT) (rc : Int) (a b a2 b2 : Option Addr) (ca cb ca2 cb2 : Nat) (gk v : Int) (l : List Int) (hl : l.length <= 1000000000000000) (ao : Option Addr) (c : Nat) (hlc : l.length <= c) (hR : gtR t gk l = (R, rc)) (hrc : rc ≠ 0) (w : World) (h : Th w t a b ca cb) (h2 : Th w t a2 b2 ca2 cb2) (hT : Tg w) (hN : Ns w ao l) :
    Calls Tryz.prog 9 #[tV t a b ca cb, tV t a2 b2 ca2 cb2, .agg #[.int .i64 1, .int .i64 gk, .slice ao l.length c, .int .i64 v]] w fun e w' => ∃ a' b' ca' cb' a3 b3 ca3 cb3, e = .returned (.tuple #[tV t a' b' ca' cb', tV t a3 b3 ca3 cb3, .bool true]) /\ (Th w' t a' b' ca' cb' /\ Th w' t a3 b3 ca3 cb3) /\ Below w.heap.size w w' := by
  have HC1 := hide (fun W (hb : Below w.heap.size w W) => tGate t a b ca cb gk l hl ao c hlc W (h.below hb) (hT.below hb) (hN.below hb))
  have HC2 := hide (fun W (hb : Below w.heap.size w W) => dGate t a2 b2 ca2 cb2 gk l hl ao c W (h2.below hb) (hN.below hb))
  rw [hR] at HC1 HC2
  have HAK := hide (fun W x y cx cy x2 y2 cx2 cy2 (h1 : Th W R x y cx cy) (h2 : Th W R x2 y2 cx2 cy2) => dAlike R R x y x2 y2 cx cy cx2 cy2 W h1 h2)
  simp only [decide_true] at HAK
  have hnum := tNum
  have HT1 := hide (fun W (hb : Below w.heap.size w W) => h.below hb)
  have HT2 := hide (fun W (hb : Below w.heap.size w W) => h2.below hb)
  have HSA := hide (seven3 w (.int .i64 t.n) (.slice a t.s.length ca) (.slice b t.d.length cb) (.slice a2 t.s.length ca2) (.slice b2 t.d.length cb2) (.int .i64 1) (.int .i64 gk) (.slice ao l.length c) (.int .i64 v))
  have HSB := hide (seven3s w (.int .i64 t.n) (.slice a t.s.length ca) (.slice b t.d.length cb) (.slice a2 t.s.length ca2) (.slice b2 t.d.length cb2) (.int .i64 1) (.int .i64 gk) (.slice ao l.length c) (.int .i64 v))
  have hr0 : (rc != 0) = true := bne_iff_ne.2 hrc
  have hrr : (rc != rc) = false := by simp
  clear h h2 hT hN hl hlc hR hrc
  unfold tV at HC1 HC2 HAK ⊢
  simp only at *
  generalize t.n = tn at *
  generalize t.s.length = ns at *
  generalize t.d.length = nd at *
  generalize l.length = nl at *
  generalize R.n = rn at *
  generalize R.s.length = rs at *
  generalize R.d.length = rd at *
  go_enter Tryz.func9, Tryz.ntmps9
  go_upto_region 1 with fail
  go_cut [9, 10] from 17 (fun s9 s10 wq => ∃ gx gy : Nat, s9 = .pointer (some ⟨gx, 0, none⟩) /\ s10 = .pointer (some ⟨gy, 0, none⟩) /\ Hid (Dw w wq (.int .i64 tn) (.slice a ns ca) (.slice b nd cb) (.slice a2 ns ca2) (.slice b2 nd cb2) (.int .i64 1) (.int .i64 gk) (.slice ao nl c) (.int .i64 v) (.int .i64 tn) (.slice a ns ca) (.slice b nd cb) (.int .i64 tn) (.slice a2 ns ca2) (.slice b2 nd cb2) gx gy))
  case first =>
    go_region
    . go_wp2_with fail
      go_meet
      case rel => exact ⟨_, _, rfl, rfl, hide HSA.out.drew⟩
    . go_wp2_with fail
      go_meet
      case rel => exact ⟨_, _, rfl, rfl, hide HSB.out.drew⟩
  case rest =>
    obtain ⟨gx, gy, rfl, rfl, HD0⟩ := hcut
    clear HSA HSB
    obtain ⟨a0, a1, a2', a3, a4⟩ := HD0.out.ba.cells
    obtain ⟨t0, t1, t2, t3⟩ := HD0.out.bt.cells
    go_wp2_with fail
    refine (HC1.out _ HD0.out.bw).mono ?_
    rintro e w1 ⟨xa, xb, xca, xcb, rfl, hx1, hb1⟩
    have HD1 := hide (HD0.out.keep hb1)
    have HX1 := hide hx1
    clear hx1 hb1 HD0 a0 a1 a2' a3 a4 t0 t1 t2 t3
    have hRx := HD1.out.x
    unfold At3 at hRx
    have HD2 := hide (HD1.out.setx (.int .i64 rn) (.slice xa rs xca) (.slice xb rd xcb))
    have HX2 := hide (HX1.out.row (show At3 w1 gx _ _ _ from hRx) #[.int .i64 rn, .slice xa rs xca, .slice xb rd xcb])
    go_upto_region 6 with (first
      | (refine wpList_store_row rfl _ _ _ rfl gx _ rfl rfl _ _ hRx (by exact infoT) (by rfl) (all3 _ _ _ _ _ _ _) ?_))
    clear hRx HD1 HX1
    generalize w1.setRow gx #[.int .i64 rn, .slice xa rs xca, .slice xb rd xcb] = W1 at *
    obtain ⟨a0, a1, a2', a3, a4⟩ := HD2.out.ba.cells
    obtain ⟨t0, t1, t2, t3⟩ := HD2.out.bd.cells
    go_wp2_with fail
    refine (HC2.out _ HD2.out.bw).mono ?_
    rintro e w2 ⟨ya, yb, yca, ycb, rfl, hy1, hb2⟩
    have HD3 := hide (HD2.out.keep hb2)
    have HY1 := hide hy1
    have HX3 := hide (HX2.out.below hb2)
    clear hy1 hb2 HD2 HX2 a0 a1 a2' a3 a4 t0 t1 t2 t3
    have hRy := HD3.out.y
    unfold At3 at hRy
    have HD4 := hide (HD3.out.sety (.int .i64 rn) (.slice ya rs yca) (.slice yb rd ycb))
    have HX4 := hide (HX3.out.row (show At3 w2 gy _ _ _ from hRy) #[.int .i64 rn, .slice ya rs yca, .slice yb rd ycb])
    have HY4 := hide (HY1.out.row (show At3 w2 gy _ _ _ from hRy) #[.int .i64 rn, .slice ya rs yca, .slice yb rd ycb])
    go_upto_region 21 with (first
      | (refine wpList_store_row rfl _ _ _ rfl gy _ rfl rfl _ _ hRy (by exact infoT) (by rfl) (all3 _ _ _ _ _ _ _) ?_))
    clear hRy HD3 HX3 HY1
    generalize w2.setRow gy #[.int .i64 rn, .slice ya rs yca, .slice yb rd ycb] = W2 at *
    obtain ⟨x0, x1, x2, x3⟩ := HD4.out.x.cells
    obtain ⟨y0, y1, y2, y3⟩ := HD4.out.y.cells
    go_wp2_with (first
      | (go_at_call 7; (with_reducible refine Calls.mono (hnum _ _) ?_); rintro e w3 ⟨rfl, rfl⟩))
    refine (HAK.out _ _ _ _ _ _ _ _ _ HX4.out HY4.out).mono ?_
    rintro e w5 ⟨rfl, hb5⟩
    have HD5 := hide (HD4.out.keep hb5)
    have HX5 := hide (HX4.out.below hb5)
    have HY5 := hide (HY4.out.below hb5)
    clear hb5 HD4 HX4 HY4 x0 x1 x2 x3 y0 y1 y2 y3
    obtain ⟨r0, r1, r2, r3⟩ := HD5.out.bt.cells
    obtain ⟨s0, s1, s2, s3⟩ := HD5.out.bd.cells
    obtain ⟨p0, p1, p2, p3⟩ := HD5.out.b6.cells
    obtain ⟨q0, q1, q2, q3⟩ := HD5.out.b7.cells
    have pf := HD5.out.b6.fz
    have qf := HD5.out.b7.fz
    have n1 : ¬ gy = w.heap.size + 1 + 1 + 1 := by have := HD5.out.hy; omega
    have n2 : ¬ w.heap.size + 1 + 1 + 1 = gy := by have := HD5.out.hy; omega
    go_upto_region 24 with (first
      | (go_at_call 7; (with_reducible refine Calls.mono (hnum _ _) ?_); rintro e w3 ⟨rfl, rfl⟩))
    go_region
    obtain ⟨f1, f2, f3, f4⟩ := HD5.out.fin (.int .i64 tn) (.slice a ns ca) (.slice b nd cb) (.int .i64 tn) (.slice a2 ns ca2) (.slice b2 nd cb2)
    clear r0 r1 r2 r3 s0 s1 s2 s3 p0 p1 p2 p3 q0 q1 q2 q3 pf qf
    have HF := hide (And.intro f3 (And.intro (f4 _ _ _ _ _ (HT1.out _ HD5.out.bw)) (f4 _ _ _ _ _ (HT2.out _ HD5.out.bw))))
    clear f3 f4
    go_wp2_with fail
    refine bodyPost_ret (results_cct rfl _ _ (w.heap.size + 1 + 1 + 1) (w.heap.size + 1 + 1 + 1 + 1) _ _ _ _ _ _ _ _ rfl f1 rfl f2 Tryz.underlying29 rfl (by exact infoT) Tryz.underlying29 rfl (by exact infoT)) rfl ?_
    exact ⟨_, _, _, _, _, _, _, _, rfl, ⟨HF.out.2.1, HF.out.2.2⟩, HF.out.1⟩
end Go.Proofs.YtpehekonjdneaaaGreatDoor.Tbl
