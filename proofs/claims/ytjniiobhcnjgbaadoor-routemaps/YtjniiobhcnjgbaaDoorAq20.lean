/- Layer 20: the law of the maps. -/
import Derived.Test.YtjniiobhcnjgbaaDoorAp20
import Derived.Test.YtjniiobhcnjgbaaDoorAd20
import Derived.Test.YtjniiobhcnjgbaaDoorAr20
namespace Go.Proofs.YtjniiobhcnjgbaaDoor.Rou
open Go.RowKit

/-- What a maker of maps answers, said plainly. -/
def M2 (W : World) (n : Int) (l : List Pr) (z : Int) (e : Ending) (w' : World) : Prop := ∃ ao c, e = .returned (.tuple #[.agg #[.int .i64 n, .slice ao l.length c], .int .i64 z]) ∧ PA w' ao l ∧ Below W.heap.size W w'
theorem MPost.two (r : Option (Int × List Pr)) (hr : ∀ n l, r = some (n, l) → l.length ≤ 1000) : ∃ n l z, l.length ≤ 1000 ∧ ∀ W e w', MPost W r e w' → M2 W n l z e w' := by
  rcases r with _ | ⟨n, l⟩
  · refine ⟨0, [], 2, by simp, fun W e w' h => ?_⟩
    obtain ⟨h1, ⟨-, h2⟩ | ⟨_, _, _, _, h2, -⟩⟩ := h
    · exact ⟨none, 0, h2, .inl rfl, h1⟩
    · cases h2
  · refine ⟨n, l, 0, hr n l rfl, fun W e w' h => ?_⟩
    obtain ⟨h1, ⟨h2, -⟩ | ⟨_, _, ao, c, h2, h3, h4⟩⟩ := h
    · cases h2
    · cases h2
      exact ⟨ao, c, h3, h4.at, h1⟩
theorem lnG_len (n : Nat) (h : n ≤ 64) : (lnG n).length ≤ 128 := by
  have := gI_len n n n
  unfold lnG
  omega
theorem two_line (y : Int) : ∃ n l z, l.length ≤ 1000 ∧ (∀ W, Calls Tryd.prog 4 #[.int .i64 y] W (M2 W n l z)) ∧ ∀ W, Calls Tryd.prog 5 #[.int .i64 y] W (M2 W n l z) := by
  obtain ⟨n, l, z, h1, h2⟩ := MPost.two (lineR y) (fun n l h => by
    unfold lineR at h
    split at h
    · cases h
      have := lnG_len y.toNat (by omega)
      omega
    · cases h)
  exact ⟨n, l, z, h1, fun W => (rLine y W).mono (h2 W), fun W => (dLine y W).mono (h2 W)⟩
theorem two_ring (y : Int) : ∃ n l z, l.length ≤ 1000 ∧ (∀ W, Calls Tryd.prog 6 #[.int .i64 y] W (M2 W n l z)) ∧ ∀ W, Calls Tryd.prog 7 #[.int .i64 y] W (M2 W n l z) := by
  obtain ⟨n, l, z, h1, h2⟩ := MPost.two (ringR y) (fun n l h => by
    unfold ringR at h
    split at h
    · cases h
      have := lnG_len y.toNat (by omega)
      simp
      omega
    · cases h)
  exact ⟨n, l, z, h1, fun W => (rRing y W).mono (h2 W), fun W => (dRing y W).mono (h2 W)⟩
theorem two_grid (y x : Int) : ∃ n l z, l.length ≤ 1000 ∧ (∀ W, Calls Tryd.prog 8 #[.int .i64 y, .int .i64 x] W (M2 W n l z)) ∧ ∀ W, Calls Tryd.prog 9 #[.int .i64 y, .int .i64 x] W (M2 W n l z) := by
  obtain ⟨n, l, z, h1, h2⟩ := MPost.two (gridR y x) (fun n l h => by
    unfold gridR at h
    split at h
    · cases h
      have := gI_len y.toNat (y * x).toNat (y * x).toNat
      omega
    · cases h)
  exact ⟨n, l, z, h1, fun W => (rGridC y x W).mono (h2 W), fun W => (dGridC y x W).mono (h2 W)⟩
theorem keep {V w' : World} {g : Nat} {o : Obj} (h : V.heap[g]? = some o) (hb : Below V.heap.size V w') : w'.heap[g]? = some o := (hb.block g (Array.getElem?_eq_some_iff.1 h).1).trans h
theorem bkp2 {w V U : World} (h1 : Below w.heap.size w V) (h2 : Below V.heap.size V U) : Below w.heap.size w U := h1.trans (h2.mono h1.size)
/-- A map that lies in a block of its own. -/
structure MB (w : World) (g : Nat) (n : Int) (ao : Option Addr) (l : List Pr) (c : Nat) : Prop where
  b : w.heap[g]? = some (.cells #[.int .i64 n, .slice ao l.length c] 24 (0, 0))
  a : PA w ao l
theorem MB.below {w w' : World} {g : Nat} {n : Int} {ao : Option Addr} {l : List Pr} {c : Nat} (h : MB w g n ao l c) (hb : Below w.heap.size w w') : MB w' g n ao l c := ⟨keep h.b hb, h.a.below hb⟩
theorem MB.new {w : World} {n : Int} {ao : Option Addr} {l : List Pr} {c : Nat} (h : PA w ao l) : MB (w.alloc (.cells #[.int .i64 n, .slice ao l.length c] 24)) w.heap.size n ao l c := ⟨heap_alloc_new _ _, h.below (bnew _ _)⟩
set_option maxRecDepth 100000 in
set_option maxHeartbeats 8000000 in
theorem xRouteMaps (N : Int) (ps : List Pr) (ao : Option Addr) (k : Nat) (y x : Int) (hl : ps.length ≤ 1000000000000000) (w : World) (hA : PA w ao ps) (hG : GT w) : Calls Tryd.prog 3 #[.agg #[.int .i64 N, .slice ao ps.length k], .int .i64 y, .int .i64 x] w fun e w' => e = .returned (.bool true) ∧ Below w.heap.size w w' := by
  obtain ⟨n1, l1, z1, hl1, c1, d1⟩ := two_line y
  obtain ⟨n2, l2, z2, hl2, c2, d2⟩ := two_ring y
  obtain ⟨n3, l3, z3, hl3, c3, d3⟩ := two_grid y x
  have HG := hide hG
  have HM := hide (MB.new (n := N) (c := k) hA)
  have HB := hide (bnew w (.cells #[.int .i64 N, .slice ao ps.length k] 24))
  have e1 : (z1 == z1) = true := beq_self_eq_true z1
  have e2 : (z2 == z2) = true := beq_self_eq_true z2
  have e3 : (z3 == z3) = true := beq_self_eq_true z3
  clear hA hG
  obtain ⟨M, hMw⟩ : ∃ M, w.heap.size = M := ⟨_, rfl⟩
  have HMW := hide hMw
  rw [hMw] at HM
  go_enter Tryd.func3, Tryd.ntmps3
  go_wp2_with (go_at_call 4; (with_reducible refine Calls.mono (c1 _) ?_); rintro e w1 ⟨a1, k1, rfl, ha1, hb1⟩)
  have hbn := bnew w1 (.cells #[.int .i64 n1, .slice a1 l1.length k1] 24)
  have HA1 := hide (MB.new (n := n1) (c := k1) ha1)
  have HMx := hide ((HM.out.below hb1).below hbn)
  have HBx := hide (HB.out.trans ((bkp hb1 hbn).mono HB.out.size))
  clear HB HM ha1 hb1 hbn
  have HM := HMx
  have HB := HBx
  clear HBx HMx
  generalize w1.alloc (.cells #[.int .i64 n1, .slice a1 l1.length k1] 24) = V1 at *
  generalize w1.heap.size = g1 at *
  go_wp2_with (go_at_call 5; (with_reducible refine Calls.mono (d1 _) ?_); rintro e w2 ⟨a2, k2, rfl, ha2, hb2⟩)
  have hbn := bnew w2 (.cells #[.int .i64 n1, .slice a2 l1.length k2] 24)
  have HA2 := hide (MB.new (n := n1) (c := k2) ha2)
  have HMx := hide ((HM.out.below hb2).below hbn)
  have HA1x := hide ((HA1.out.below hb2).below hbn)
  have HBx := hide (HB.out.trans ((bkp hb2 hbn).mono HB.out.size))
  clear HB HM HA1 ha2 hb2 hbn
  have HM := HMx
  have HA1 := HA1x
  have HB := HBx
  clear HBx HMx HA1x
  generalize w2.alloc (.cells #[.int .i64 n1, .slice a2 l1.length k2] 24) = V2 at *
  generalize w2.heap.size = g2 at *
  go_wp2_with (go_at_call 6; (with_reducible refine Calls.mono (c2 _) ?_); rintro e w3 ⟨a3, k3, rfl, ha3, hb3⟩)
  have hbn := bnew w3 (.cells #[.int .i64 n2, .slice a3 l2.length k3] 24)
  have HA3 := hide (MB.new (n := n2) (c := k3) ha3)
  have HMx := hide ((HM.out.below hb3).below hbn)
  have HA1x := hide ((HA1.out.below hb3).below hbn)
  have HA2x := hide ((HA2.out.below hb3).below hbn)
  have HBx := hide (HB.out.trans ((bkp hb3 hbn).mono HB.out.size))
  clear HB HM HA1 HA2 ha3 hb3 hbn
  have HM := HMx
  have HA1 := HA1x
  have HA2 := HA2x
  have HB := HBx
  clear HBx HMx HA1x HA2x
  generalize w3.alloc (.cells #[.int .i64 n2, .slice a3 l2.length k3] 24) = V3 at *
  generalize w3.heap.size = g3 at *
  go_wp2_with (go_at_call 7; (with_reducible refine Calls.mono (d2 _) ?_); rintro e w4 ⟨a4, k4, rfl, ha4, hb4⟩)
  have hbn := bnew w4 (.cells #[.int .i64 n2, .slice a4 l2.length k4] 24)
  have HA4 := hide (MB.new (n := n2) (c := k4) ha4)
  have HMx := hide ((HM.out.below hb4).below hbn)
  have HA1x := hide ((HA1.out.below hb4).below hbn)
  have HA2x := hide ((HA2.out.below hb4).below hbn)
  have HA3x := hide ((HA3.out.below hb4).below hbn)
  have HBx := hide (HB.out.trans ((bkp hb4 hbn).mono HB.out.size))
  clear HB HM HA1 HA2 HA3 ha4 hb4 hbn
  have HM := HMx
  have HA1 := HA1x
  have HA2 := HA2x
  have HA3 := HA3x
  have HB := HBx
  clear HBx HMx HA1x HA2x HA3x
  generalize w4.alloc (.cells #[.int .i64 n2, .slice a4 l2.length k4] 24) = V4 at *
  generalize w4.heap.size = g4 at *
  go_wp2_with (go_at_call 8; (with_reducible refine Calls.mono (c3 _) ?_); rintro e w5 ⟨a5, k5, rfl, ha5, hb5⟩)
  have hbn := bnew w5 (.cells #[.int .i64 n3, .slice a5 l3.length k5] 24)
  have HA5 := hide (MB.new (n := n3) (c := k5) ha5)
  have HMx := hide ((HM.out.below hb5).below hbn)
  have HA1x := hide ((HA1.out.below hb5).below hbn)
  have HA2x := hide ((HA2.out.below hb5).below hbn)
  have HA3x := hide ((HA3.out.below hb5).below hbn)
  have HA4x := hide ((HA4.out.below hb5).below hbn)
  have HBx := hide (HB.out.trans ((bkp hb5 hbn).mono HB.out.size))
  clear HB HM HA1 HA2 HA3 HA4 ha5 hb5 hbn
  have HM := HMx
  have HA1 := HA1x
  have HA2 := HA2x
  have HA3 := HA3x
  have HA4 := HA4x
  have HB := HBx
  clear HBx HMx HA1x HA2x HA3x HA4x
  generalize w5.alloc (.cells #[.int .i64 n3, .slice a5 l3.length k5] 24) = V5 at *
  generalize w5.heap.size = g5 at *
  go_wp2_with (go_at_call 9; (with_reducible refine Calls.mono (d3 _) ?_); rintro e w6 ⟨a6, k6, rfl, ha6, hb6⟩; have hbn := bnew w6 (.cells #[.int .i64 n3, .slice a6 l3.length k6] 24); have HA6 := hide (MB.new (n := n3) (c := k6) ha6); have HMx := hide ((HM.out.below hb6).below hbn); have HA1x := hide ((HA1.out.below hb6).below hbn); have HA2x := hide ((HA2.out.below hb6).below hbn); have HA3x := hide ((HA3.out.below hb6).below hbn); have HA4x := hide ((HA4.out.below hb6).below hbn); have HA5x := hide ((HA5.out.below hb6).below hbn); have HBx := hide (HB.out.trans ((bkp hb6 hbn).mono HB.out.size)); clear HB HM HA1 HA2 HA3 HA4 HA5 ha6 hb6 hbn; obtain ⟨x0, x1, x2⟩ := m_cells HMx.out.b)
  have HM := HMx
  have HA1 := HA1x
  have HA2 := HA2x
  have HA3 := HA3x
  have HA4 := HA4x
  have HA5 := HA5x
  have HB := HBx
  clear HBx x0 x1 x2 HMx HA1x HA2x HA3x HA4x HA5x
  generalize w6.alloc (.cells #[.int .i64 n3, .slice a6 l3.length k6] 24) = V6 at *
  generalize w6.heap.size = g6 at *
  have sm : ∀ (n : Int) (l : List Pr) (a b : Option Addr) (ca cb : Nat), l.length ≤ 1000 → ∀ W, PA W a l → PA W b l → Calls Tryd.prog 13 #[.agg #[.int .i64 n, .slice a l.length ca], .agg #[.int .i64 n, .slice b l.length cb]] W fun e w' => e = .returned (.bool true) ∧ Below W.heap.size W w' := fun n l a b ca cb h W h1 h2 => (rSame n n a b ca cb l l (by omega) W h1 h2).mono fun e w' h => ⟨by rw [h.1, decide_eq_true ⟨rfl, rfl⟩], h.2⟩
  by_cases hR : RtP N ps
  · have cR : ∀ W, PA W ao ps → Calls Tryd.prog 10 #[.agg #[.int .i64 N, .slice ao ps.length k]] W fun e w' => e = .returned (.bool true) ∧ Below W.heap.size W w' := fun W h => (dRight N ps ao k hl W h).mono fun e w' h => ⟨by
      obtain ⟨⟨b, rfl, hb⟩, -⟩ := h
      cases b
      · exact absurd (hb.2 hR) (by decide)
      · rfl, h.2⟩
    have cK : ∀ W, PA W ao ps → Calls Tryd.prog 12 #[.agg #[.int .i64 N, .slice ao ps.length k]] W fun e w' => e = .returned (.int .i64 0) ∧ Below W.heap.size W w' := fun W h => (rCheck N ps ao k hl W h).mono fun e w' h => ⟨by
      rcases h.1 with ⟨rfl, h1⟩ | ⟨rfl, h1⟩
      · rfl
      · exact absurd hR h1, h.2⟩
    clear hR
    go_wp2_with (first | (go_at_call 10; (with_reducible refine Calls.mono (cR _ HM.out.a) ?_); rintro e w7 ⟨rfl, hb7⟩; have HMp := hide (HM.out.below hb7); have HA1p := hide (HA1.out.below hb7); have HA2p := hide (HA2.out.below hb7); have HA3p := hide (HA3.out.below hb7); have HA4p := hide (HA4.out.below hb7); have HA5p := hide (HA5.out.below hb7); have HA6p := hide (HA6.out.below hb7); have HBp := hide (bkp2 HB.out hb7); clear hb7; obtain ⟨x0, x1, x2⟩ := m_cells HMp.out.b) | (go_at_call 12; (with_reducible refine Calls.mono (cK _ HMp.out.a) ?_); rintro e w8 ⟨rfl, hb8⟩; have HA1q := hide (HA1p.out.below hb8); have HA2q := hide (HA2p.out.below hb8); have HA3q := hide (HA3p.out.below hb8); have HA4q := hide (HA4p.out.below hb8); have HA5q := hide (HA5p.out.below hb8); have HA6q := hide (HA6p.out.below hb8); have HBq := hide (bkp2 HBp.out hb8); clear hb8; obtain ⟨y10, y11, y12⟩ := m_cells HA1q.out.b; obtain ⟨y20, y21, y22⟩ := m_cells HA2q.out.b; obtain ⟨y30, y31, y32⟩ := m_cells HA3q.out.b; obtain ⟨y40, y41, y42⟩ := m_cells HA4q.out.b; obtain ⟨y50, y51, y52⟩ := m_cells HA5q.out.b; obtain ⟨y60, y61, y62⟩ := m_cells HA6q.out.b) | (go_at_call 11; (with_reducible refine Calls.mono (rNumZ _ _) ?_); rintro e w9 ⟨rfl, rfl⟩) | (go_at_call 13; (with_reducible refine Calls.mono (sm n1 l1 a1 a2 k1 k2 hl1 _ HA1q.out.a HA2q.out.a) ?_); rintro e w10 ⟨rfl, hb10⟩; have HA3r := hide (HA3q.out.below hb10); have HA4r := hide (HA4q.out.below hb10); have HA5r := hide (HA5q.out.below hb10); have HA6r := hide (HA6q.out.below hb10); have HBr := hide (bkp2 HBq.out hb10); clear hb10 y30 y31 y32 y40 y41 y42 y50 y51 y52 y60 y61 y62; obtain ⟨y30, y31, y32⟩ := m_cells HA3r.out.b; obtain ⟨y40, y41, y42⟩ := m_cells HA4r.out.b; obtain ⟨y50, y51, y52⟩ := m_cells HA5r.out.b; obtain ⟨y60, y61, y62⟩ := m_cells HA6r.out.b) | (go_at_call 13; (with_reducible refine Calls.mono (sm n2 l2 a3 a4 k3 k4 hl2 _ HA3r.out.a HA4r.out.a) ?_); rintro e w11 ⟨rfl, hb11⟩; have HA5s := hide (HA5r.out.below hb11); have HA6s := hide (HA6r.out.below hb11); have HBs := hide (bkp2 HBr.out hb11); clear hb11 y50 y51 y52 y60 y61 y62; obtain ⟨y50, y51, y52⟩ := m_cells HA5s.out.b; obtain ⟨y60, y61, y62⟩ := m_cells HA6s.out.b) | (go_at_call 13; (with_reducible refine Calls.mono (sm n3 l3 a5 a6 k5 k6 hl3 _ HA5s.out.a HA6s.out.a) ?_); rintro e w12 ⟨rfl, hb12⟩; have HBt := hide (bkp2 HBs.out hb12); clear hb12) | (go_at_call 14; (with_reducible refine Calls.mono (rAlive _ (HG.out.below HBt.out)) ?_); rintro e w13 ⟨rfl, hb13⟩; have HBu := hide (bkp2 HBt.out hb13); clear hb13))
    go_ret
    exact ⟨rfl, HBu.out⟩
  · have cR : ∀ W, PA W ao ps → Calls Tryd.prog 10 #[.agg #[.int .i64 N, .slice ao ps.length k]] W fun e w' => e = .returned (.bool false) ∧ Below W.heap.size W w' := fun W h => (dRight N ps ao k hl W h).mono fun e w' h => ⟨by
      obtain ⟨⟨b, rfl, hb⟩, -⟩ := h
      cases b
      · rfl
      · exact absurd (hb.1 rfl) hR, h.2⟩
    have cK : ∀ W, PA W ao ps → Calls Tryd.prog 12 #[.agg #[.int .i64 N, .slice ao ps.length k]] W fun e w' => e = .returned (.int .i64 200) ∧ Below W.heap.size W w' := fun W h => (rCheck N ps ao k hl W h).mono fun e w' h => ⟨by
      rcases h.1 with ⟨rfl, h1⟩ | ⟨rfl, h1⟩
      · exact absurd h1 hR
      · rfl, h.2⟩
    clear hR
    go_wp2_with (first | (go_at_call 10; (with_reducible refine Calls.mono (cR _ HM.out.a) ?_); rintro e w7 ⟨rfl, hb7⟩; have HMp := hide (HM.out.below hb7); have HA1p := hide (HA1.out.below hb7); have HA2p := hide (HA2.out.below hb7); have HA3p := hide (HA3.out.below hb7); have HA4p := hide (HA4.out.below hb7); have HA5p := hide (HA5.out.below hb7); have HA6p := hide (HA6.out.below hb7); have HBp := hide (bkp2 HB.out hb7); clear hb7; obtain ⟨x0, x1, x2⟩ := m_cells HMp.out.b) | (go_at_call 12; (with_reducible refine Calls.mono (cK _ HMp.out.a) ?_); rintro e w8 ⟨rfl, hb8⟩; have HA1q := hide (HA1p.out.below hb8); have HA2q := hide (HA2p.out.below hb8); have HA3q := hide (HA3p.out.below hb8); have HA4q := hide (HA4p.out.below hb8); have HA5q := hide (HA5p.out.below hb8); have HA6q := hide (HA6p.out.below hb8); have HBq := hide (bkp2 HBp.out hb8); clear hb8; obtain ⟨y10, y11, y12⟩ := m_cells HA1q.out.b; obtain ⟨y20, y21, y22⟩ := m_cells HA2q.out.b; obtain ⟨y30, y31, y32⟩ := m_cells HA3q.out.b; obtain ⟨y40, y41, y42⟩ := m_cells HA4q.out.b; obtain ⟨y50, y51, y52⟩ := m_cells HA5q.out.b; obtain ⟨y60, y61, y62⟩ := m_cells HA6q.out.b) | (go_at_call 11; (with_reducible refine Calls.mono (rNumZ _ _) ?_); rintro e w9 ⟨rfl, rfl⟩) | (go_at_call 13; (with_reducible refine Calls.mono (sm n1 l1 a1 a2 k1 k2 hl1 _ HA1q.out.a HA2q.out.a) ?_); rintro e w10 ⟨rfl, hb10⟩; have HA3r := hide (HA3q.out.below hb10); have HA4r := hide (HA4q.out.below hb10); have HA5r := hide (HA5q.out.below hb10); have HA6r := hide (HA6q.out.below hb10); have HBr := hide (bkp2 HBq.out hb10); clear hb10 y30 y31 y32 y40 y41 y42 y50 y51 y52 y60 y61 y62; obtain ⟨y30, y31, y32⟩ := m_cells HA3r.out.b; obtain ⟨y40, y41, y42⟩ := m_cells HA4r.out.b; obtain ⟨y50, y51, y52⟩ := m_cells HA5r.out.b; obtain ⟨y60, y61, y62⟩ := m_cells HA6r.out.b) | (go_at_call 13; (with_reducible refine Calls.mono (sm n2 l2 a3 a4 k3 k4 hl2 _ HA3r.out.a HA4r.out.a) ?_); rintro e w11 ⟨rfl, hb11⟩; have HA5s := hide (HA5r.out.below hb11); have HA6s := hide (HA6r.out.below hb11); have HBs := hide (bkp2 HBr.out hb11); clear hb11 y50 y51 y52 y60 y61 y62; obtain ⟨y50, y51, y52⟩ := m_cells HA5s.out.b; obtain ⟨y60, y61, y62⟩ := m_cells HA6s.out.b) | (go_at_call 13; (with_reducible refine Calls.mono (sm n3 l3 a5 a6 k5 k6 hl3 _ HA5s.out.a HA6s.out.a) ?_); rintro e w12 ⟨rfl, hb12⟩; have HBt := hide (bkp2 HBs.out hb12); clear hb12) | (go_at_call 14; (with_reducible refine Calls.mono (rAlive _ (HG.out.below HBt.out)) ?_); rintro e w13 ⟨rfl, hb13⟩; have HBu := hide (bkp2 HBt.out hb13); clear hb13))
    go_ret
    exact ⟨rfl, HBu.out⟩
end Go.Proofs.YtjniiobhcnjgbaaDoor.Rou
