import Derived.Test.YtpehekonjdneaaaDoorKeb609cbf
import Derived.Test.YtpehekonjdneaaaDoorKaa1b715f
import Derived.Test.YtpehekonjdneaaaDoorK0d023f54
import Derived.Deep.CutRange
set_option maxRecDepth 100000
set_option maxHeartbeats 8000000
namespace Go.Proofs.YtpehekonjdneaaaDoor.Tbl
open Go.RowKit Go.Shelf Go.Proofs.YtpehekonjdneaaaDoor.Pau Go.Proofs.YtpehekonjdneaaaDoor.Gt
theorem gt_zr {t U : TT} {k rc : Int} {l : List Int} (h : gtR t k l = (U, rc)) (hr : rc ≠ 0) : U = zrT := by
  unfold gtR at h
  split at h
  . split at h
    . split at h
      . obtain ⟨-, rfl⟩ := Prod.mk.inj h
        exact absurd rfl hr
      . exact (Prod.mk.inj h).1.symm
    . exact (Prod.mk.inj h).1.symm
  . exact (Prod.mk.inj h).1.symm
theorem gt_ch {t U : TT} {k : Int} {l : List Int} (h : gtR t k l = (U, 0)) : chB t = true := by
  unfold gtR at h
  split at h
  . assumption
  . exact absurd (Prod.mk.inj h).2 (by decide)
theorem c3_setB (w : World) (g : Nat) (a b c a' b' c' : Value) (t : TypeId) (h : w.heap[g]? = some (.cells #[a, b, c] t (0, 0))) : ((w.setCell ⟨g, 0, none⟩ a').setCell ⟨g, 1, none⟩ b').setCell ⟨g, 2, none⟩ c' = w.setRow g #[a', b', c'] := by
  rw [setCell_eq_setRow w g 0 _ t _ _ h, setCell_eq_setRow _ g 1 _ t _ _ (setRow_heap w g _ _ t _ h), setRow_setRow, setCell_eq_setRow _ g 2 _ t _ _ (setRow_heap w g _ _ t _ h), setRow_setRow]
  rfl
theorem infoN14 : (Tryd.prog.info? 3).map (fun i => (i.zero, i.size, i.bytes)) = some (some (.int .i64 0), 1, 8) := by kernel_rfl
def Gi (w : World) (B : Nat) (ao : Option Addr) (c : Nat) (l : List Int) : Prop := w.ownsRow B 3 1 (.slice ao l.length c) l.length (l.map (Value.int .i64))
def blk' (ao : Option Addr) : Option Nat := ao.map (·.block)
theorem own_blk' (ao : Option Addr) (n c : Nat) : (Value.slice ao n c).ownBlock = blk' ao := by cases ao <;> rfl
theorem Gi.lt {w : World} {B : Nat} {ao : Option Addr} {c : Nat} {l : List Int} (h : Gi w B ao c l) {g : Nat} (hg : blk' ao = some g) : B <= g /\ g < w.heap.size := by
  obtain ⟨-, h2 | ⟨g', cap, cur, e, hB, hh, -⟩⟩ := h
  . have e := h2.1
    injection e with e1 e2 e3
    subst e1
    cases hg
  . cases e
    cases hg
    exact ⟨hB, (Array.getElem?_eq_some_iff.1 hh).1⟩
theorem Gi.below {w w' : World} {B : Nat} {ao : Option Addr} {c : Nat} {l : List Int} (h : Gi w B ao c l) (hb : Below w.heap.size w w') : Gi w' B ao c l := by
  have hlt := fun g => @Gi.lt w B ao c l h g
  obtain ⟨h1, h2⟩ := h
  refine ⟨h1, ?_⟩
  rcases h2 with h2 | ⟨g', cap, cur, ev, hB, hh, hr⟩
  . exact .inl h2
  . refine .inr ⟨g', cap, cur, ev, hB, ?_, hr⟩
    cases ev
    rw [hb.block g' (hlt g' rfl).2]
    exact hh
theorem Gi.nil (w : World) (B : Nat) : Gi w B none 0 [] := ⟨rfl, .inl ⟨rfl, rfl⟩⟩
theorem Gi.ns {w : World} {B : Nat} {ao : Option Addr} {c : Nat} {l : List Int} (h : Gi w B ao c l) : Ns w ao l := by
  obtain ⟨h1, h2 | ⟨g', cap, cur, e, hB, hh, hc, hm, hs, ht⟩⟩ := h
  . exact .inl (List.length_eq_zero_iff.1 h2.2)
  . cases e
    refine .inr ⟨g', 0, rfl, fun j z hj => ?_⟩
    have hjl := (List.getElem?_eq_some_iff.1 hj).1
    have h3 : (cur.toList.take (l.length * 1))[j]? = some (.int .i64 z) := by rw [ht, List.getElem?_map, hj]; rfl
    rw [List.getElem?_take_of_lt (by omega)] at h3
    rw [Nat.zero_add]
    exact cell_at hh (by simpa using h3)
theorem Gi.snoc {w : World} {B g cap : Nat} {l : List Int} {z : Int} {n : Nat} (hn : n = l.length) (h : w.ownsRow B 3 1 (.slice (some ⟨g, 0, none⟩) (n + 1) cap) (n + 1) (l.map (Value.int .i64) ++ [.int .i64 z])) : Gi w B (some ⟨g, 0, none⟩) cap (l ++ [z]) := by
  unfold Gi
  rw [List.map_append, List.length_append, ← hn]
  exact h
theorem xTableauBack_no (t : TT) (a b : Option Addr) (ca cb : Nat) (k rc : Int) (l : List Int) (hl : l.length <= 1000000000000000) (ao : Option Addr) (c : Nat) (hlc : l.length <= c) (m : List Int) (so : Option Addr) (sc : Nat) (hR : gtR t k l = (zrT, rc)) (hrc : rc ≠ 0) (w : World) (hT : Tg w) (h : Th w t a b ca cb) (hN : Ns w ao l) :
    Calls Tryd.prog 3 #[tV t a b ca cb, .int .i64 k, .slice ao l.length c, .slice so m.length sc] w fun e w' => e = .returned (.bool true) /\ Below w.heap.size w w' := by
  have HG := hide (fun W (hb : Below w.heap.size w W) => tGate t a b ca cb k l hl ao c hlc W (h.below hb) (hT.below hb) (hN.below hb))
  rw [hR] at HG
  have HAL := hide (fun W (hb : Below w.heap.size w W) => tAlive W (hT.below hb))
  have hnum := tNum
  have hr0 : (rc != 0) = true := bne_iff_ne.2 hrc
  have HB0 := hide (bnew w (.cells #[.int .i64 t.n, .slice a t.s.length ca, .slice b t.d.length cb] 24))
  clear h hT hN hl hlc hR hrc
  unfold tV zrT at HG
  unfold tV
  simp only [List.length_nil] at *
  generalize t.n = tn at *
  generalize t.s.length = ns at *
  generalize t.d.length = nd at *
  generalize l.length = nl at *
  generalize m.length = nm at *
  go_enter Tryd.func3, Tryd.ntmps3
  go_wp2_with fail
  refine (HG.out _ HB0.out).mono ?_
  rintro e w1 ⟨a1, b1, ca1, cb1, rfl, -, hb1⟩
  have hbn := bnew w1 (.cells #[.int .i64 0, .slice a1 0 ca1, .slice b1 0 cb1] 24)
  have HB1 := hide (bkp (bkp HB0.out hb1) hbn)
  have HU1 := hide (At3.new w1 (.int .i64 0) (.slice a1 0 ca1) (.slice b1 0 cb1))
  clear hb1 hbn HB0 HG
  go_upto_region 2 with fail
  generalize w1.alloc (.cells #[.int .i64 0, .slice a1 0 ca1, .slice b1 0 cb1] 24) = W1 at *
  generalize w1.heap.size = gu at *
  obtain ⟨u0, u1, u2, u3⟩ := HU1.out.cells
  go_wp2_with (first
    | (go_at_call 5; (with_reducible refine Calls.mono (hnum _ _) ?_); rintro e w3 ⟨rfl, rfl⟩))
  refine (HAL.out _ HB1.out).mono ?_
  rintro e w9 ⟨rfl, hb9⟩
  have HB9 := hide (bkp HB1.out hb9)
  clear hb9
  go_wp2_with fail
  go_ret
  exact ⟨rfl, HB9.out⟩
theorem xTableauBack_ok (t U : TT) (a b : Option Addr) (ca cb : Nat) (k : Int) (l : List Int) (hl : l.length <= 1000000000000000) (ao : Option Addr) (c : Nat) (hlc : l.length <= c) (m : List Int) (hm : m.length <= 1000000000000000) (so : Option Addr) (sc : Nat) (hR : gtR t k l = (U, 0)) (w : World) (hT : Tg w) (h : Th w t a b ca cb) (hN : Ns w ao l) (hM : Ns w so m) :
    Calls Tryd.prog 3 #[tV t a b ca cb, .int .i64 k, .slice ao l.length c, .slice so m.length sc] w fun e w' => e = .returned (.bool true) /\ Below w.heap.size w w' := by
  have hc := gt_ch hR
  obtain ⟨hcu, -, hback⟩ := gt_back hR
  obtain ⟨h0, h64, hls, hld⟩ := sz_of (ch_size hc)
  obtain ⟨N, hNn⟩ : ∃ N : Nat, t.n = (N : Int) := ⟨t.n.toNat, by omega⟩
  rw [hNn, Int.toNat_natCast] at hls hld
  have hN64 : N <= 64 := by omega
  have HG1 := hide (fun W (hb : Below w.heap.size w W) => tGate t a b ca cb k l hl ao c hlc W (h.below hb) (hT.below hb) (hN.below hb))
  rw [hR] at HG1
  have HIV := hide (fun W (hb : Below w.heap.size w W) => gInverse k W (hT.below hb).tb)
  have HG2 := hide (fun W x y cx cy (hb : Below w.heap.size w W) (hu : Th W U x y cx cy) => tGate U x y cx cy (rw' k).v l hl ao c hlc W hu (hT.below hb) (hN.below hb))
  rw [hback] at HG2
  have HC1 := hide (fun W (hb : Below w.heap.size w W) => tCut t a b ca cb m hm so sc W (h.below hb) (hM.below hb))
  have HC2 := hide (fun W ro cr (hb : Below w.heap.size w W) (hr : Ns W ro (rsL m N)) => tCut t a b ca cb (rsL m N) (Nat.le_trans (rs_len m N) (by omega)) ro cr W (h.below hb) hr)
  have HAK := hide (fun W x y cx cy (hb : Below w.heap.size w W) (h1 : Th W t x y cx cy) => dAlike t t x y a b cx cy ca cb W h1 (h.below hb))
  have HCU := hide (fun W x y cx cy (h1 : Th W U x y cx cy) => tCheck U x y cx cy W h1)
  have HAL := hide (fun W (hb : Below w.heap.size w W) => tAlive W (hT.below hb))
  have HNM := hide (fun W (hb : Below w.heap.size w W) => hM.below hb)
  have hnum := tNum
  unfold chI at HCU
  rw [if_pos hcu] at HCU
  simp only [decide_true] at HAK
  have hrc : (cuR t (rsL m N)).2 = 0 := by rw [cu_rk hc hNn _ (rs_ul m N)]
  have HEND : Hid ((cuR t m).2 ≠ 0 ∨ ((cuR t m).2 = 0 /\ (cuR t m).1 = (cuR t (rsL m N)).1 /\ 0 <= (cuR t m).1 /\ (cuR t m).1 <= (m.length : Int) /\ (cuR t m).1 <= ((rsL m N).length : Int))) := hide (by
    cases hu : ulB (N : Int) m with
    | false => left; unfold cuR; rw [if_pos hc, hNn, hu, if_neg (by decide)]; decide
    | true =>
      right
      obtain ⟨e1, e2, e3, e4⟩ := cut_sym hc hNn hu (rs_ul m N) (fun q hq => rs_mem m hq)
      exact ⟨by rw [cu_rk hc hNn _ hu], e1, e2, e3, e4⟩)
  have HRS := hide (fun i => rs_succ m i)
  have HR0 : Hid (rsL m 0 = []) := hide rfl
  have HRL := hide (fun i => rs_len m i)
  have HB0 := hide (bnew w (.cells #[.int .i64 t.n, .slice a t.s.length ca, .slice b t.d.length cb] 24))
  have HA0 := hide (At3.new w (.int .i64 t.n) (.slice a t.s.length ca) (.slice b t.d.length cb))
  obtain ⟨i0, hi, hz0, hz1, hz2⟩ := info_parts infoN14
  clear h hT hN hl hlc hR hback hcu hc h0 h64
  generalize cuR t (rsL m N) = cB at *
  obtain ⟨b1, b2⟩ := cB
  simp only at hrc
  subst hrc
  generalize cuR t m = cA at *
  obtain ⟨a1, a2⟩ := cA
  generalize (rw' k).v = kv at *
  unfold tV at HG1 HG2 HC1 HC2 HAK HCU ⊢
  simp only at *
  rw [hls, hld, hNn] at HG2 HC1 HC2 HAK HB0 HA0 ⊢
  rw [hls, hld, hNn] at HG1
  generalize U.n = un at *
  generalize U.s.length = us at *
  generalize U.d.length = ud at *
  generalize l.length = nl at *
  obtain ⟨nm, hnm⟩ : ∃ x, m.length = x := ⟨_, rfl⟩
  have HNMM := hide hnm
  rw [hnm] at HC1 HEND hm ⊢
  clear hnm hls hld hNn
  go_enter Tryd.func3, Tryd.ntmps3
  go_wp2_with fail
  refine (HG1.out _ HB0.out).mono ?_
  rintro e w1 ⟨ua, ub, uca, ucb, rfl, hu1, hb1⟩
  have hbn := bnew w1 (.cells #[.int .i64 un, .slice ua us uca, .slice ub ud ucb] 24)
  have HB1 := hide (bkp (bkp HB0.out hb1) hbn)
  have HA1 := hide ((HA0.out.below hb1).below hbn)
  have HU1 := hide (And.intro (At3.new w1 (.int .i64 un) (.slice ua us uca) (.slice ub ud ucb)) (hu1.below hbn))
  clear hu1 hb1 hbn HB0 HA0 HG1
  go_upto_region 2 with fail
  generalize w1.alloc (.cells #[.int .i64 un, .slice ua us uca, .slice ub ud ucb] 24) = V0 at *
  generalize w1.heap.size = gu at *
  go_upto_region 4 with (first
    | (go_at_call 5; (with_reducible refine Calls.mono (hnum _ _) ?_); rintro e w3 ⟨rfl, rfl⟩))
  obtain ⟨V0', rfl⟩ : ∃ W, W = w3 := ⟨_, rfl⟩
  have HSV : Hid (∀ V, Below V0'.heap.size V0' V -> (Below V0'.heap.size V0' V /\ V.cell? ⟨gu, 0, none⟩ = some (.int .i64 un) /\ V.cell? ⟨gu, 1, none⟩ = some (.slice ua us uca) /\ V.cell? ⟨gu, 2, none⟩ = some (.slice ub ud ucb))) := hide (fun V hV => by
    obtain ⟨k0, k1, k2, -⟩ := (HU1.out.1.below hV).cells
    exact ⟨hV, k0, k1, k2⟩)
  have HBV : Hid (∀ V, Below V0'.heap.size V0' V -> Below w.heap.size w V) := hide (fun V hV => bkp HB1.out hV)
  have HUV : Hid (∀ V, Below V0'.heap.size V0' V -> Th V U ua ub uca ucb) := hide (fun V hV => HU1.out.2.below hV)
  have HD0 : Hid (Below V0'.heap.size V0' V0'.drew) := hide (Below.refl _ _).drew
  have HD1 : Hid (∀ o, Below V0'.heap.size V0' (V0'.alloc o).drew) := hide (fun o => (bnew V0' o).drew)
  go_cut [11, 12] from 21 (fun s11 s12 wq => ∃ (gv : Nat) (xa xb : Option Addr) (xca xcb : Nat), s11 = .pointer (some ⟨gv, 0, none⟩) /\ s12 = .int .i64 0 /\ Hid (Below V0'.heap.size V0' wq /\ At3 wq gv (.int .i64 (N : Int)) (.slice xa N xca) (.slice xb N xcb) /\ Th wq t xa xb xca xcb))
  case first =>
    go_region_held3 (fun V => Below V0'.heap.size V0' V /\ V.cell? ⟨gu, 0, none⟩ = some (.int .i64 un) /\ V.cell? ⟨gu, 1, none⟩ = some (.slice ua us uca) /\ V.cell? ⟨gu, 2, none⟩ = some (.slice ub ud ucb))
      (first | exact HSV.out _ HD0.out | exact HSV.out _ (HD1.out _) | exact HSV.out _ (by assumption) | exact HSV.out _ (bkp hb9 (bnew _ _)) | exact HSV.out _ (bkp ‹Below V0'.heap.size V0' _ /\ _›.1 (bnew _ _)) | exact HSV.out _ (((hb9.setCell (p := ⟨_, 0, none⟩) (Nat.le_refl _) _).setCell (p := ⟨_, 1, none⟩) (Nat.le_refl _) _).setCell (p := ⟨_, 2, none⟩) (Nat.le_refl _) _) | exact HSV.out _ (((hb9.setCell (p := ⟨_, 0, none⟩) hb8.size _).setCell (p := ⟨_, 1, none⟩) hb8.size _).setCell (p := ⟨_, 2, none⟩) hb8.size _))
      (first
        | (go_at_call 7; (with_reducible refine Calls.mono (HIV.out _ (HBV.out _ (‹Below V0'.heap.size V0' _ /\ _›.1))) ?_); rintro e w8 ⟨rfl, q8⟩; have hb8 := bkp (‹Below V0'.heap.size V0' _ /\ _›.1) q8; first | (have zz8 : At3 w8 V0'.heap.size (.int .i64 0) (.slice none 0 0) (.slice none 0 0) := (q8.block V0'.heap.size (by simp)).trans (heap_alloc_new V0' _)) | skip)
        | (go_at_call 4; (with_reducible refine Calls.mono (HG2.out _ _ _ _ _ (HBV.out _ (‹Below V0'.heap.size V0' _ /\ _›.1)) (HUV.out _ (‹Below V0'.heap.size V0' _ /\ _›.1))) ?_); rintro e w9 ⟨xa, xb, xca, xcb, rfl, hx9, q9⟩; have hb9 := bkp (‹Below V0'.heap.size V0' _ /\ _›.1) q9; first | (have zz9 := At3.below zz8 q9; obtain ⟨z0, z1, z2, z3⟩ := zz9.cells; have zf := fun j => zz9.fz j) | (have zz9 : At3 w9 w8.heap.size (.int .i64 0) (.slice none 0 0) (.slice none 0 0) := (q9.block w8.heap.size (by simp)).trans (heap_alloc_new w8 _); obtain ⟨z0, z1, z2, z3⟩ := zz9.cells; have zf := fun j => zz9.fz j) | skip))
    all_goals first
      | (have HX : Hid (Below V0'.heap.size V0' (w9.alloc (.cells #[.int .i64 (N : Int), .slice xa N xca, .slice xb N xcb] 24)) /\ At3 (w9.alloc (.cells #[.int .i64 (N : Int), .slice xa N xca, .slice xb N xcb] 24)) w9.heap.size (.int .i64 (N : Int)) (.slice xa N xca) (.slice xb N xcb) /\ Th (w9.alloc (.cells #[.int .i64 (N : Int), .slice xa N xca, .slice xb N xcb] 24)) t xa xb xca xcb) := hide ⟨bkp hb9 (bnew _ _), At3.new _ _ _ _, hx9.below (bnew _ _)⟩
         go_wp2_with fail
         go_meet
         case rel => exact ⟨_, _, _, _, _, rfl, rfl, HX⟩)
      | (have HX : Hid (Below V0'.heap.size V0' (((w9.setCell ⟨V0'.heap.size, 0, none⟩ (.int .i64 (N : Int))).setCell ⟨V0'.heap.size, 1, none⟩ (.slice xa N xca)).setCell ⟨V0'.heap.size, 2, none⟩ (.slice xb N xcb)) /\ At3 (((w9.setCell ⟨V0'.heap.size, 0, none⟩ (.int .i64 (N : Int))).setCell ⟨V0'.heap.size, 1, none⟩ (.slice xa N xca)).setCell ⟨V0'.heap.size, 2, none⟩ (.slice xb N xcb)) V0'.heap.size (.int .i64 (N : Int)) (.slice xa N xca) (.slice xb N xcb) /\ Th (((w9.setCell ⟨V0'.heap.size, 0, none⟩ (.int .i64 (N : Int))).setCell ⟨V0'.heap.size, 1, none⟩ (.slice xa N xca)).setCell ⟨V0'.heap.size, 2, none⟩ (.slice xb N xcb)) t xa xb xca xcb) := hide (by
           have hrow := hx9.row zz9 #[.int .i64 (N : Int), .slice xa N xca, .slice xb N xcb]
           have hz := zz9
           unfold At3 at hz
           rw [← c3_setB _ _ _ _ _ _ _ _ _ hz] at hrow
           exact ⟨((hb9.setCell (p := ⟨_, 0, none⟩) (Nat.le_refl _) _).setCell (p := ⟨_, 1, none⟩) (Nat.le_refl _) _).setCell (p := ⟨_, 2, none⟩) (Nat.le_refl _) _, zz9.set _ _ _, hrow⟩)
         go_wp2_with fail
         go_meet
         case rel => exact ⟨_, _, _, _, _, rfl, rfl, HX⟩)
      | (have HX : Hid (Below V0'.heap.size V0' (((w9.setCell ⟨w8.heap.size, 0, none⟩ (.int .i64 (N : Int))).setCell ⟨w8.heap.size, 1, none⟩ (.slice xa N xca)).setCell ⟨w8.heap.size, 2, none⟩ (.slice xb N xcb)) /\ At3 (((w9.setCell ⟨w8.heap.size, 0, none⟩ (.int .i64 (N : Int))).setCell ⟨w8.heap.size, 1, none⟩ (.slice xa N xca)).setCell ⟨w8.heap.size, 2, none⟩ (.slice xb N xcb)) w8.heap.size (.int .i64 (N : Int)) (.slice xa N xca) (.slice xb N xcb) /\ Th (((w9.setCell ⟨w8.heap.size, 0, none⟩ (.int .i64 (N : Int))).setCell ⟨w8.heap.size, 1, none⟩ (.slice xa N xca)).setCell ⟨w8.heap.size, 2, none⟩ (.slice xb N xcb)) t xa xb xca xcb) := hide (by
           have hrow := hx9.row zz9 #[.int .i64 (N : Int), .slice xa N xca, .slice xb N xcb]
           have hz := zz9
           unfold At3 at hz
           rw [← c3_setB _ _ _ _ _ _ _ _ _ hz] at hrow
           exact ⟨((hb9.setCell (p := ⟨_, 0, none⟩) hb8.size _).setCell (p := ⟨_, 1, none⟩) hb8.size _).setCell (p := ⟨_, 2, none⟩) hb8.size _, zz9.set _ _ _, hrow⟩)
         go_wp2_with fail
         go_meet
         case rel => exact ⟨_, _, _, _, _, rfl, rfl, HX⟩)
  case rest =>
    obtain ⟨gv, xa, xb, xca, xcb, rfl, rfl, HX⟩ := hcut
    have HA2 := hide (HA1.out.below HX.out.1)
    have HU2 := hide (And.intro (HU1.out.1.below HX.out.1) (HU1.out.2.below HX.out.1))
    have HB2 := hide (bkp HB1.out HX.out.1)
    have HV2 := hide HX.out.2
    clear HX HA1 HU1 HB1 HSV HBV HUV HD0 HD1 HIV HG2
    obtain ⟨x0, x1, x2, x3⟩ := HA2.out.cells
    go_wp2_with fail
    refine (HC1.out _ HB2.out).mono ?_
    rintro e V1 ⟨rfl, hb1⟩
    have HA3 := hide (HA2.out.below hb1)
    have HU3 := hide (And.intro (HU2.out.1.below hb1) (HU2.out.2.below hb1))
    have HV3 := hide (And.intro (HV2.out.1.below hb1) (HV2.out.2.below hb1))
    have HB3 := hide (bkp HB2.out hb1)
    clear hb1 HA2 HU2 HV2 HB2 HC1 x0 x1 x2 x3
    go_wp2_with fail
    have HI0 : Hid (Gi V1 V1.heap.size none 0 (rsL m 0) /\ Below V1.heap.size V1 V1) := hide ⟨by rw [HR0.out]; exact Gi.nil _ _, Below.refl _ _⟩
    have hl0 : (rsL m 0).length = 0 := by rw [HR0.out]; rfl
    have HL0 := hide hl0
    clear hl0
    go_loopw [15, 16] (fun vr vi wr => ∃ (i : Nat) (ro : Option Addr) (cr nr : Nat), vr = .slice ro nr cr /\ vi = .int .i64 (i : Int) /\ i <= N /\ nr <= i /\ Hid ((rsL m i).length = nr) /\ Hid (Gi wr V1.heap.size ro cr (rsL m i) /\ Below V1.heap.size V1 wr)) (fun _ vi _ => N - (Go.RowKit.intOf vi).toNat)
    case atStart => exact ⟨0, none, 0, 0, rfl, rfl, Nat.zero_le _, Nat.zero_le _, HL0, HI0⟩
    case round =>
      obtain ⟨i, ro, cr, nr, rfl, rfl, hiN, hnr, HLR, HI⟩ := hrel
      clear HI0 HL0
      obtain ⟨x0, x1, x2, x3⟩ := (HA3.out.below HI.out.2).cells
      by_cases hlt : i < N
      . have hd : decide ((i : Int) < (N : Int)) = true := decide_eq_true (by omega)
        have hd' : decide (i < N) = true := decide_eq_true hlt
        have HSO : Hid (∀ j, j < nm -> ∃ g o x, so = some ⟨g, o, none⟩ /\ m[j]? = some x /\ ∀ W, Below V1.heap.size V1 W -> W.cell? ⟨g, o + j, none⟩ = some (.int .i64 x) /\ g < W.heap.size) := hide (fun j hj => by
          obtain ⟨x, hx⟩ : ∃ x, m[j]? = some x := ⟨_, List.getElem?_eq_getElem (by rw [HNMM.out]; exact hj)⟩
          have hne : m ≠ [] := fun e => by rw [e] at hx; simp at hx
          obtain ⟨g, o, e, hcell⟩ := (HNM.out V1 HB3.out).resolve_left hne
          have h1 := hcell j x hx
          have h2 := World.block_lt_of_cell? _ _ h1
          exact ⟨g, o, x, e, hx, fun W hW => ⟨(hW.cell (p := ⟨g, o + j, none⟩) h2).trans h1, Nat.lt_of_lt_of_le h2 hW.size⟩⟩)
        have HTK : Hid (∀ j x, m[j]? = some x -> (m.take (j + 1)).contains (i : Int) = ((m.take j).contains (i : Int) || (x == (i : Int)))) := hide (fun j x hx => by
          rw [List.take_add_one, hx, List.contains_append]
          congr 1
          rw [Bool.eq_iff_iff, beq_iff_eq]
          simp
          exact eq_comm)
        have HT0 : Hid ((m.take 0).contains (i : Int) = false) := hide (by rw [List.take_zero]; rfl)
        have HTN : Hid ((m.take nm).contains (i : Int) = m.contains (i : Int)) := hide (by rw [List.take_of_length_le (by rw [HNMM.out]; exact Nat.le_refl _)])
        go_wp2_with fail
        go_loopw [17, 18] (fun vb vj wq => ∃ (j : Nat) (bv : Bool), vb = .bool bv /\ vj = .int .i64 (j : Int) /\ j <= nm /\ Hid (bv = (m.take j).contains (i : Int)) /\ Hid (Gi wq V1.heap.size ro cr (rsL m i) /\ Below V1.heap.size V1 wq)) (fun _ vj _ => nm - (Go.RowKit.intOf vj).toNat)
        case atStart => exact ⟨0, false, rfl, rfl, Nat.zero_le _, hide HT0.out.symm, HI⟩
        case round =>
          obtain ⟨j, bv, rfl, rfl, hj, HBJ, HJ⟩ := hrel
          clear HI HT0
          by_cases hjl : j < nm
          . have hdj : decide ((j : Int) < (nm : Int)) = true := decide_eq_true (by omega)
            have hdj' : decide (j < nm) = true := decide_eq_true hjl
            obtain ⟨gs, os, xm, rfl, hx, hcell⟩ := HSO.out j hjl
            obtain ⟨c0, c1⟩ := hcell _ HJ.out.2
            have HN2 := hide (HTK.out j xm hx)
            clear hx hcell
            cases bv with
            | true =>
              have HE : Hid (true = (m.take (j + 1)).contains (i : Int)) := hide (by rw [HN2.out, ← HBJ.out]; rfl)
              clear HN2 HBJ c0 c1
              go_wp2_with fail
              go_roundw
              case rel => exact ⟨j + 1, true, rfl, by go_num, by omega, HE, HJ⟩
              case measure => simp [Go.RowKit.intOf]; omega
            | false =>
              have HE : Hid ((xm == (i : Int)) = (m.take (j + 1)).contains (i : Int)) := hide (by rw [HN2.out, ← HBJ.out]; rfl)
              clear HN2 HBJ
              generalize hbx : (xm == (i : Int)) = bx at *
              go_wp2_with fail
              go_roundw
              case rel => exact ⟨j + 1, bx, by first | rfl | simp [hbx], by go_num, by omega, HE, HJ⟩
              case measure => simp [Go.RowKit.intOf]; omega
          . obtain rfl : nm = j := by omega
            have hdj : decide ((nm : Int) < (nm : Int)) = false := decide_eq_false (by omega)
            have HBV : Hid (bv = m.contains (i : Int)) := hide (HBJ.out.trans HTN.out)
            have HRS' := hide (HRS.out i)
            clear HBJ HTN HTK HSO
            cases bv with
            | true =>
              have HE : Hid (rsL m (i + 1) = rsL m i) := hide (by rw [HRS'.out, ← HBV.out, if_pos rfl, List.append_nil])
              clear HRS' HBV
              go_wp2_with fail
              go_roundw
              case rel => exact ⟨i + 1, ro, cr, nr, rfl, by go_num, by omega, by omega, hide (by rw [HE.out]; exact HLR.out), hide (by rw [HE.out]; exact HJ.out)⟩
              case measure => simp [Go.RowKit.intOf]; omega
            | false =>
              have HE : Hid (rsL m (i + 1) = rsL m i ++ [(i : Int)]) := hide (by rw [HRS'.out, ← HBV.out, if_neg (by decide)])
              clear HRS' HBV
              have HOW : Hid (∀ o, (wr.alloc o).ownsRow V1.heap.size 3 1 (.slice ro nr cr) nr ((rsL m i).map (Value.int .i64))) := hide (fun o => by
                have := HJ.out.1.below (bnew wr o)
                unfold Gi at this
                rw [HLR.out] at this
                exact this)
              have HGL : Hid (∀ k, (Value.slice ro nr cr).ownBlock = some k -> V1.heap.size <= k) := hide (fun k hk => by
                rw [own_blk'] at hk
                exact (HJ.out.1.lt hk).1)
              have hsz : V1.heap.size <= wr.heap.size := HJ.out.2.size
              go_wp2_with (first
                | (at_builtin; refine wpList_append_lies _ rfl _ _ 26 rfl V1.heap.size 3 i0 _ 1 8 Tryd.underlying26 hi hz0 hz1 hz2 rfl (by decide) (.slice ro nr cr) nr ((rsL m i).map (Value.int .i64)) rfl (HOW.out _) ⟨wr.heap.size, 0, none⟩ 1 1 [.int .i64 (i : Int)] rfl rfl (World.news_of_block (heap_alloc_new wr _)) (by simp [Value.oneCell']) (by decide) (by unfold maxLen; omega) (by omega) (by simp; omega) _ rfl ?_; intro g7 c7 w7 ho7 hgr7 hat7 hlt7))
              have HIn : Hid (Gi w7 V1.heap.size (some ⟨g7, 0, none⟩) c7 (rsL m (i + 1)) /\ Below V1.heap.size V1 w7) := hide (by
                rw [HE.out]
                exact ⟨Gi.snoc HLR.out.symm ho7, (bkp HJ.out.2 (bnew wr _)).grown hgr7 (by simp; omega) HGL.out⟩)
              have HLN : Hid ((rsL m (i + 1)).length = nr + 1) := hide (by rw [HE.out, List.length_append, HLR.out]; rfl)
              clear ho7 hgr7 hat7 hlt7 HOW HGL HJ HE
              go_wp2_with fail
              go_roundw
              case rel => first | exact ⟨i + 1, some ⟨g7, 0, none⟩, c7, nr + 1, rfl, by go_num, by omega, by omega, HLN, HIn⟩ | ((repeat apply Exists.intro); exact ⟨⟨i + 1, some ⟨g7, 0, none⟩, c7, nr + 1, rfl, by go_num, by omega, by omega, HLN, HIn⟩, rfl⟩)
              case measure => simp [Go.RowKit.intOf]; omega
      . obtain rfl : N = i := by omega
        have hd : decide ((N : Int) < (N : Int)) = false := decide_eq_false (by omega)
        have HB4 := hide (bkp HB3.out HI.out.2)
        have HA4 := hide (HA3.out.below HI.out.2)
        have HU4 := hide (And.intro (HU3.out.1.below HI.out.2) (HU3.out.2.below HI.out.2))
        have HV4 := hide (And.intro (HV3.out.1.below HI.out.2) (HV3.out.2.below HI.out.2))
        have HNS := hide HI.out.1.ns
        have HC3 := hide (fun cr' => HC2.out wr ro cr' HB4.out HNS.out)
        rw [HLR.out] at HC3
        have HEN : Hid (a2 ≠ 0 ∨ (a2 = 0 /\ a1 = b1 /\ 0 <= a1 /\ a1 <= (nm : Int) /\ a1 <= (nr : Int))) := hide (by have := HEND.out; rw [HLR.out] at this; exact this)
        clear HI HB3 HA3 HU3 HV3 HC2 HNS HEND HLR HRS HRL
        go_wp2_with fail
        refine (HC3.out _).mono ?_
        rintro e w4 ⟨rfl, hb4⟩
        have HB5 := hide (bkp HB4.out hb4)
        have HA5 := hide (HA4.out.below hb4)
        have HU5 := hide (And.intro (HU4.out.1.below hb4) (HU4.out.2.below hb4))
        have HV5 := hide (And.intro (HV4.out.1.below hb4) (HV4.out.2.below hb4))
        clear hb4 HB4 HA4 HU4 HV4 HC3 x0 x1 x2 x3
        obtain ⟨x0, x1, x2, x3⟩ := HA5.out.cells
        obtain ⟨y0, y1, y2, y3⟩ := HV5.out.1.cells
        go_wp2_with (first
          | (go_at_call 5; (with_reducible refine Calls.mono (hnum _ _) ?_); rintro e wn ⟨rfl, hw⟩; obtain rfl := hw.symm))
        refine (HAK.out _ _ _ _ _ HB5.out HV5.out.2).mono ?_
        rintro e w5 ⟨rfl, hb5⟩
        have HB6 := hide (bkp HB5.out hb5)
        have HU6 := hide (And.intro (HU5.out.1.below hb5) (HU5.out.2.below hb5))
        clear hb5 HB5 HA5 HU5 HV5 HAK x0 x1 x2 x3 y0 y1 y2 y3
        obtain ⟨x0, x1, x2, x3⟩ := HU6.out.1.cells
        go_wp2_with (first
          | (go_at_call 5; (with_reducible refine Calls.mono (hnum _ _) ?_); rintro e wn ⟨rfl, hw⟩; obtain rfl := hw.symm))
        refine (HCU.out _ _ _ _ _ HU6.out.2).mono ?_
        rintro e w6 ⟨rfl, hb6⟩
        have HB7 := hide (bkp HB6.out hb6)
        clear hb6 HB6 HU6 HCU x0 x1 x2 x3
        rcases HEN.out with hne | ⟨rfl, rfl, e0, e1, e2⟩
        . have hg : (a2 != 0) = true := bne_iff_ne.2 hne
          clear hne HEN
          go_wp2_with (first
            | (go_at_call 5; (with_reducible refine Calls.mono (hnum _ _) ?_); rintro e wn ⟨rfl, hw⟩; obtain rfl := hw.symm))
          refine (HAL.out _ HB7.out).mono ?_
          rintro e w9 ⟨rfl, hb9⟩
          have HB9 := hide (bkp HB7.out hb9)
          clear hb9
          go_wp2_with fail
          go_ret
          exact ⟨rfl, HB9.out⟩
        . have d0 : decide (0 <= a1) = true := decide_eq_true e0
          have d1 : decide (a1 <= (nm : Int)) = true := decide_eq_true e1
          have d2 : decide (a1 <= (nr : Int)) = true := decide_eq_true e2
          have d3 : (a1 == a1) = true := by simp
          clear HEN e0 e1 e2
          go_wp2_with (first
            | (go_at_call 5; (with_reducible refine Calls.mono (hnum _ _) ?_); rintro e wn ⟨rfl, hw⟩; obtain rfl := hw.symm))
          refine (HAL.out _ HB7.out).mono ?_
          rintro e w9 ⟨rfl, hb9⟩
          have HB9 := hide (bkp HB7.out hb9)
          clear hb9
          go_wp2_with fail
          go_ret
          exact ⟨rfl, HB9.out⟩
theorem xTableauBack (t : TT) (a b : Option Addr) (ca cb : Nat) (k : Int) (l : List Int) (hl : l.length <= 1000000000000000) (ao : Option Addr) (c : Nat) (hlc : l.length <= c) (m : List Int) (hm : m.length <= 1000000000000000) (so : Option Addr) (sc : Nat) (w : World) (hT : Tg w) (h : Th w t a b ca cb) (hN : Ns w ao l) (hM : Ns w so m) :
    Calls Tryd.prog 3 #[tV t a b ca cb, .int .i64 k, .slice ao l.length c, .slice so m.length sc] w fun e w' => e = .returned (.bool true) /\ Below w.heap.size w w' := by
  obtain ⟨U, rc, hR⟩ : ∃ U rc, gtR t k l = (U, rc) := ⟨_, _, rfl⟩
  by_cases hrc : rc = 0
  . subst hrc
    exact xTableauBack_ok t U a b ca cb k l hl ao c hlc m hm so sc hR w hT h hN hM
  . have hz := gt_zr hR hrc
    subst hz
    exact xTableauBack_no t a b ca cb k rc l hl ao c hlc m so sc hR hrc w hT h hN
end Go.Proofs.YtpehekonjdneaaaDoor.Tbl
