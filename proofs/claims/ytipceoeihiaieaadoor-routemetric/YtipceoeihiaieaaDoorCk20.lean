/- Layer 20: the law of distances. -/
import Derived.Test.YtipceoeihiaieaaDoorCf20
import Derived.Test.YtipceoeihiaieaaDoorLx20
namespace Go.Proofs.YtipceoeihiaieaaDoor.Rou
open Go.RowKit

theorem bkp2 {w V U : World} (h1 : Below w.heap.size w V) (h2 : Below V.heap.size V U) : Below w.heap.size w U := h1.trans (h2.mono h1.size)
/-- Of a number, a place. -/
theorem modN (N : Nat) (h0 : 0 < N) (h : N ≤ 64) (a : Int) : ∃ x : Nat, x < N ∧ wrap64 ((IntKind.u64.wrap a).tmod (N : Int)) = (x : Int) := by
  have e2 : 0 ≤ IntKind.u64.wrap a := by simp [IntKind.wrap, IntKind.bits, IntKind.signed]; omega
  have h1 := Int.emod_lt_of_pos (IntKind.u64.wrap a) (show (0 : Int) < (N : Int) by omega)
  have h2 := Int.emod_nonneg (IntKind.u64.wrap a) (show (N : Int) ≠ 0 by omega)
  rw [Int.tmod_eq_emod_of_nonneg e2]
  refine ⟨(IntKind.u64.wrap a % (N : Int)).toNat, by omega, ?_⟩
  unfold wrap64
  omega
/-- Is one of the first pairs these two places? -/
def nrB (ps : List Pr) (u v : Int) (i : Nat) : Bool := (ps.take i).any fun p => decide (p = (u, v)) || decide (p = (v, u))
theorem nrB_succ {ps : List Pr} {u v : Int} {i : Nat} {p : Pr} (h : ps[i]? = some p) : nrB ps u v (i + 1) = (nrB ps u v i || (decide (p = (u, v)) || decide (p = (v, u)))) := by
  unfold nrB
  rw [List.take_add_one, h, List.any_append]
  simp
theorem nrB_all {ps : List Pr} {a b : Nat} : nrB ps (a : Int) (b : Int) ps.length = true ↔ Ed ps a b := by
  unfold nrB Ed
  rw [List.take_length, List.any_eq_true]
  constructor
  · rintro ⟨p, h1, h2⟩
    rw [Bool.or_eq_true] at h2
    rcases h2 with h2 | h2
    · rw [of_decide_eq_true h2] at h1
      exact .inl h1
    · rw [of_decide_eq_true h2] at h1
      exact .inr h1
  · rintro (h | h)
    · exact ⟨_, h, by simp⟩
    · exact ⟨_, h, by simp⟩
/-- What holds of three places' distances. -/
structure MF (N : Nat) (ps : List Pr) (xa xb xc dn m1 m2 J dl : Nat) (q : Bool) : Prop where
  dd : (Dd N ps xa xb = (dn : Int) ∧ Dd N ps xb xa = (dn : Int)) ∧ (Dd N ps xa xc = (m1 : Int) ∧ Dd N ps xc xb = (m2 : Int))
  le : dn ≤ 64 ∧ m1 ≤ 64 ∧ m2 ≤ 64
  num : decide ((dn : Int) ≤ (J : Int)) = true ∧ decide (dn ≤ J) = true ∧ IntKind.i64.wrap ((m1 : Int) + (m2 : Int)) = (J : Int) ∧ IntKind.i64.wrap ((dn : Int) + 1) = (dl : Int) ∧ IntKind.i64.wrap ((dl : Int) - 1) = (dn : Int) ∧ wrap64 ((m1 : Int) + (m2 : Int)) = (J : Int) ∧ wrap64 ((dn : Int) + 1) = (dl : Int) ∧ wrap64 ((dl : Int) - 1) = (dn : Int) ∧ (dn : Int) < (dl : Int) ∧ (0 : Int) < (dl : Int) ∧ dn < dl ∧ 0 < dl
  q : ((dn : Int) == 0) = q ∧ ((xa : Int) == (xb : Int)) = q
  pth : (pth N ps xa xb).length = dl ∧ (pth N ps xa xb)[0]? = some xa ∧ (pth N ps xa xb)[dn]? = some xb
  near : ∀ {r : Bool}, (r = true ↔ Ed ps xa xb) → ((dn : Int) == 1) = r
theorem mNum {dn m1 m2 J dl : Nat} (hJ : J = m1 + m2) (hdl : dl = dn + 1) (h1 : dn ≤ 64) (h2 : m1 ≤ 64) (h3 : m2 ≤ 64) (h4 : dn ≤ m1 + m2) : decide ((dn : Int) ≤ (J : Int)) = true ∧ decide (dn ≤ J) = true ∧ IntKind.i64.wrap ((m1 : Int) + (m2 : Int)) = (J : Int) ∧ IntKind.i64.wrap ((dn : Int) + 1) = (dl : Int) ∧ IntKind.i64.wrap ((dl : Int) - 1) = (dn : Int) ∧ wrap64 ((m1 : Int) + (m2 : Int)) = (J : Int) ∧ wrap64 ((dn : Int) + 1) = (dl : Int) ∧ wrap64 ((dl : Int) - 1) = (dn : Int) ∧ (dn : Int) < (dl : Int) ∧ (0 : Int) < (dl : Int) ∧ dn < dl ∧ 0 < dl := by
  refine ⟨decide_eq_true (by omega), decide_eq_true (by omega), ?_, ?_, ?_, ?_, ?_, ?_, by omega, by omega, by omega, by omega⟩
  · rw [IntKind.wrap_i64]; omega
  · rw [IntKind.wrap_i64]; omega
  · rw [IntKind.wrap_i64]; omega
  · unfold wrap64; omega
  · unfold wrap64; omega
  · unfold wrap64; omega
theorem mNat {x : Int} {N : Nat} (h0 : 0 ≤ x) (h1 : x ≤ (N : Int)) (hN : N ≤ 64) : ∃ n : Nat, x = (n : Int) ∧ n ≤ 64 := ⟨x.toNat, by omega, by omega⟩
theorem mTri {d a b : Int} {dn m1 m2 : Nat} (h : d ≤ a + b) (e1 : d = (dn : Int)) (e2 : a = (m1 : Int)) (e3 : b = (m2 : Int)) : dn ≤ m1 + m2 := by omega
theorem mFacts {N : Nat} {ps : List Pr} (h : RtP (N : Int) ps) {xa xb xc : Nat} (ha : xa < N) (hb : xb < N) (hc : xc < N) : ∃ (dn m1 m2 J dl : Nat) (q : Bool), MF N ps xa xb xc dn m1 m2 J dl q := by
  have hN : N ≤ 64 := by have := h.2.1; omega
  obtain ⟨dn, hdn, l1⟩ := mNat (Dd_pos h ha hb) (Dd_hi h ha hb) hN
  obtain ⟨m1, hm1, l2⟩ := mNat (Dd_pos h ha hc) (Dd_hi h ha hc) hN
  obtain ⟨m2, hm2, l3⟩ := mNat (Dd_pos h hc hb) (Dd_hi h hc hb) hN
  have l4 := mTri (Dd_tri h ha hb hc) hdn hm1 hm2
  have hpl : (Rou.pth N ps xa xb).length = dn + 1 := by
    rw [Rou.pth, List.length_cons, pt_len, hdn]
    rfl
  have hpn : (Rou.pth N ps xa xb)[dn]? = some xb := by
    have := pt_last h hb _ xa ha rfl
    change (Rou.pth N ps xa xb).getLast? = some xb at this
    rw [List.getLast?_eq_getElem?, hpl] at this
    simpa using this
  have hz := Dd_zero h ha hb
  have h1 := Dd_one h ha hb
  rw [hdn] at hz h1
  refine ⟨dn, m1, m2, m1 + m2, dn + 1, (dn : Int) == 0, ⟨⟨hdn, (Dd_sym (Rt.vl h) hb ha).trans hdn⟩, hm1, hm2⟩, ⟨l1, l2, l3⟩, mNum rfl rfl l1 l2 l3 l4, ⟨rfl, ?_⟩, ⟨hpl, rfl, hpn⟩, fun {r} hr => ?_⟩
  · by_cases e : xa = xb
    · rw [beq_iff_eq.2 (hz.2 e), e]
      exact beq_self_eq_true _
    · rw [beq_eq_false_iff_ne.2 (fun e2 => e (hz.1 e2))]
      exact beq_eq_false_iff_ne.2 (fun e2 => e (Int.ofNat.inj e2))
  · rw [Bool.eq_iff_iff, beq_iff_eq]
    exact h1.trans hr.symm
theorem nrB_end {ps : List Pr} {xa xb i n : Nat} {r : Bool} (h : nrB ps (xa : Int) (xb : Int) i = r) (hi : i = n) (hn : ps.length = n) : r = true ↔ Ed ps xa xb := by
  rw [← h, hi, ← hn]
  exact nrB_all
/-- A region that only reads and calls, in any class of worlds. -/
theorem region_quietC {P : Program} {id : Nat} {Q : Exit → Act → World → Prop} {a : Act} {w : World} {l : List Oper} (C : World → Prop) (hm : P.follows .mixedOrders = true) (hB : Region.lexB .any l.toArray = true) (h0 : C w.drew)
    (h : wpQuiet P l.toArray C (fun a' => ∀ w', C w' → Q .normal a' w') l a) : (Code.region id l.toArray true).wp P Q a w :=
  wp_region_quiet (C := C) hm hB h0 (by simpa using h)
/-- The last region's operations: what each writes, looks at, waits for. -/
def dlRM : List Gt.LD := [(some 125, [9], []), (some 126, [1], []), (some 127, [125, 126], [0, 1]), (some 128, [127], [2]), (some 129, [2], []), (some 130, [128, 129], [3, 4]), (some 131, [130], [5]), (some 132, [9], []), (some 133, [2], []), (some 134, [132, 133], [7, 8]), (some 135, [134], [9]), (some 136, [1], []), (some 137, [135, 136], [10, 11]), (some 138, [137], [12]), (some 139, [131, 138], [6, 13]), (some 140, [139], [14]), (some 141, [9, 140], [15]), (some 142, [1, 140], [15]), (some 143, [141, 142, 140], [16, 17, 15]), (some 144, [143, 140], [18, 15]), (some 145, [2, 140], [15]), (some 146, [144, 145, 140], [19, 20, 15]), (some 147, [146, 140], [21, 15]), (some 148, [9, 140], [15]), (some 149, [1, 140], [15]), (some 150, [148, 149, 140], [23, 24, 15]), (some 151, [150, 140], [25, 15]), (some 152, [3, 140], [15]), (some 153, [151, 152, 140], [26, 27, 15]), (some 154, [153, 140], [28, 15]), (some 155, [9, 140], [15]), (some 156, [3, 140], [15]), (some 157, [155, 156, 140], [30, 31, 15]), (some 158, [157, 140], [32, 15]), (some 159, [2, 140], [15]), (some 160, [158, 159, 140], [33, 34, 15]), (some 161, [160, 140], [35, 15]), (some 162, [154, 161, 140], [29, 36, 15]), (some 163, [147, 162, 140], [22, 37, 15]), (some 164, [140, 163], [15, 38]), (some 165, [164], [39, 15]), (some 166, [9, 165], [40]), (some 167, [1, 165], [40]), (some 168, [166, 167, 165], [41, 42, 40]), (some 169, [168, 165], [43, 40]), (some 170, [2, 165], [40]), (some 171, [169, 170, 165], [44, 45, 40]), (some 172, [171, 165], [46, 40]), (some 173, [172, 165], [47, 40]), (some 174, [1, 165], [40]), (some 175, [2, 165], [40]), (some 176, [174, 175, 165], [49, 50, 40]), (some 177, [173, 176, 165], [48, 51, 40]), (some 178, [165, 177], [40, 52]), (some 179, [178], [53, 40]), (some 180, [9, 179], [54]), (some 181, [1, 179], [54]), (some 182, [180, 181, 179], [55, 56, 54]), (some 183, [182, 179], [57, 54]), (some 184, [2, 179], [54]), (some 185, [183, 184, 179], [58, 59, 54]), (some 186, [185, 179], [60, 54]), (some 187, [186, 179], [61, 54]), (some 188, [11, 179], [54]), (some 189, [187, 188, 179], [62, 63, 54]), (some 190, [179, 189], [54, 64]), (some 191, [190], [65, 54]), (some 192, [14, 191], [66]), (some 193, [192, 191], [67, 66, 66]), (some 194, [193, 191], [68, 66]), (some 195, [191, 194], [66, 69]), (some 196, [195], [70, 68]), (some 197, [13, 196], [71]), (some 198, [197, 196], [72, 71]), (some 199, [9, 196], [71]), (some 200, [1, 196], [71]), (some 201, [199, 200, 196], [74, 75, 71]), (some 202, [201, 196], [76, 71]), (some 203, [2, 196], [71]), (some 204, [202, 203, 196], [77, 78, 71]), (some 205, [204, 196], [79, 71]), (some 206, [205, 196], [80, 71]), (some 207, [198, 206, 196], [73, 81, 71]), (some 208, [196, 207], [71, 82]), (some 209, [208], [83, 71]), (some 210, [13, 209], [84]), (some 211, [210, 209], [85, 84]), (some 212, [211, 209], [86, 84]), (some 213, [1, 209], [84]), (some 214, [212, 213, 209], [87, 88, 84]), (some 215, [209, 214], [84, 89]), (some 216, [215], [90, 84]), (some 217, [13, 216], [91]), (some 218, [13, 216], [91]), (some 219, [218, 216], [93, 91]), (some 220, [219, 216], [94, 91]), (some 221, [217, 220, 216], [92, 95, 91]), (some 222, [221, 216], [96, 91]), (some 223, [2, 216], [91]), (some 224, [222, 223, 216], [97, 98, 91]), (some 225, [216, 224], [91, 99]), (some 226, [225], [100, 91]), (some 227, [226], [101, 101]), (some 228, [226, 227], [101, 102]), (some 8, [228], [103, 102, 0, 1, 2, 3, 4, 5, 6, 7, 8, 9, 10, 11, 12, 13, 14, 15, 16, 17, 18, 19, 20, 21, 22, 23, 24, 25, 26, 27, 28, 29, 30, 31, 32, 33, 34, 35, 36, 37, 38, 39, 40, 41, 42, 43, 44, 45, 46, 47, 48, 49, 50, 51, 52, 53, 54, 55, 56, 57, 58, 59, 60, 61, 62, 63, 64, 65, 66, 67, 68, 69, 70, 71, 72, 73, 74, 75, 76, 77, 78, 79, 80, 81, 82, 83, 84, 85, 86, 87, 88, 89, 90, 91, 92, 93, 94, 95, 96, 97, 98, 99, 100, 101, 102, 103])]
/-- A world above one. -/
structure MSp (w : World) where
  V : World
  h : Below w.heap.size w V
set_option maxRecDepth 100000 in
set_option maxHeartbeats 8000000 in
theorem xRouteMetric (N : Int) (ps : List Pr) (ao : Option Addr) (k : Nat) (a b c : Int) (hl : ps.length ≤ 1000000000000000) (w : World) (hA : PA w ao ps) (hG : GT w) : Calls Tryd.prog 3 #[.agg #[.int .i64 N, .slice ao ps.length k], .int .i64 a, .int .i64 b, .int .i64 c] w fun e w' => e = .returned (.bool true) ∧ Below w.heap.size w w' := by
  have HG := hide hG
  have HB := hide (bnew w (.cells #[.int .i64 N, .slice ao ps.length k] 24))
  have HA := hide (hA.below HB.out)
  have HM := hide (heap_alloc_new w (.cells #[.int .i64 N, .slice ao ps.length k] 24))
  obtain ⟨x0, x1, x2⟩ := m_cells HM.out
  by_cases hR : RtP N ps
  · have cf := fun W h => rFarR N ps ao k N.toNat 0 (.inr ⟨hR, rfl, rfl⟩) hl W h
    have HR := hide hR
    obtain ⟨N, rfl⟩ : ∃ m : Nat, N = (m : Int) := ⟨N.toNat, by have := hR.1; omega⟩
    have hN64 : N ≤ 64 := by have := hR.2.1; omega
    have hN1 : 1 ≤ N := by have := hR.1; omega
    simp only [Int.toNat_natCast] at cf
    obtain ⟨n, hn⟩ : ∃ n, ps.length = n := ⟨_, rfl⟩
    have HL := hide hn
    rw [hn] at HB HA HM x0 x1 x2 cf hl ⊢
    clear hn hA hG hR
    have eN : ((N : Int) != (N : Int)) = false := by simp
    obtain ⟨xa, hxa, ea⟩ := modN N hN1 hN64 a
    obtain ⟨xb, hxb, eb⟩ := modN N hN1 hN64 b
    obtain ⟨xc, hxc, ec⟩ := modN N hN1 hN64 c
    go_enter Tryd.func3, Tryd.ntmps3
    go_wp2_with (first | (go_at_call 4; (with_reducible refine Calls.mono (cf _ HA.out) ?_); rintro e w1 ⟨⟨d1, c1, g0, G, K, rfl, hd1⟩, hb1⟩; obtain ⟨rfl, hrg⟩ := hd1.resolve_left (by omega); have HRG := hide hrg; have HM1 := hide (keep HM.out hb1); have HB1 := hide (bkp2 HB.out hb1); have HA1 := hide (HA.out.below hb1); obtain ⟨y0, y1, y2⟩ := m_cells HM1.out; clear hd1 hrg hb1) | (go_at_call 5; (with_reducible refine Calls.mono (rNumZ _ _) ?_); rintro e w9 ⟨rfl, rfl⟩))
    rw [ea, eb, ec]
    clear ea eb ec
    have HWG : Hid (∀ V, Below w.heap.size w V → GT V) := hide (fun V h => HG.out.below h)
    generalize hMM : w.heap.size = M at *
    have HME := hide hMM
    clear hMM
    have hrr := HRG.out.rr (fun i _ => dR_len N ps i)
    have HRR := hide hrr
    have p1 := hrr.hd xa hxa
    have p2 := hrr.hd xb hxb
    have p3 := hrr.hd xc hxc
    have p0 := World.block_lt_of_cell? _ _ p1
    have ia : (xa : Int) < (N : Int) := by omega
    have ib : (xb : Int) < (N : Int) := by omega
    have ic : (xc : Int) < (N : Int) := by omega
    clear hrr
    go_region
    have HM0 : Hid (w9.drew.heap[M]? = some (.cells #[.int .i64 (N : Int), .slice ao n k] 24 (0, 0))) := hide HM1.out
    have HB0 := hide (drewB HB1.out)
    have HA0 := hide (HA1.out.below (drewB (Below.refl _ _)))
    have HR0 := hide (HRR.out.below (drewB (Below.refl _ _)))
    clear HRG HRR HA1 HB1 HM1 HA HB HM p0 p1 p2 p3 x0 x1 x2 y0 y1 y2 cf
    generalize w9.drew = V0 at *
    go_wp2_with fail
    go_loopw [11, 12] (fun vr vi wr => ∃ (i : Nat) (r : Bool), vr = .bool r ∧ vi = .int .i64 (i : Int) ∧ i ≤ n ∧ Hid (Below V0.heap.size V0 wr) ∧ Hid (nrB ps (xa : Int) (xb : Int) i = r)) (fun _ vi _ => n - (Go.RowKit.intOf vi).toNat)
    case atStart => exact ⟨0, false, rfl, rfl, Nat.zero_le _, hide (Below.refl _ _), hide rfl⟩
    case round =>
      obtain ⟨i, r, rfl, rfl, hi, HB, HN⟩ := hrel
      obtain ⟨y0, y1, y2⟩ := m_cells (keep HM0.out HB.out)
      by_cases h : i < n
      · have hd : decide ((i : Int) < (n : Int)) = true := decide_eq_true (by omega)
        have hin : (i : Int) < (n : Int) := by omega
        obtain ⟨⟨u, v⟩, hp⟩ : ∃ p, ps[i]? = some p := ⟨_, List.getElem?_eq_getElem (by rw [HL.out]; exact h)⟩
        have HS := hide (nrB_succ (u := (xa : Int)) (v := (xb : Int)) hp)
        rcases (HA0.out.below HB.out) with hpa | ⟨gp, op, hao, hpa⟩
        · rw [hpa] at hp
          simp at hp
        subst hao
        obtain ⟨k2, k3⟩ := hpa i _ hp
        simp only at k2 k3
        have hgp := World.block_lt_of_cell? _ _ k2
        clear hpa hp
        cases r with
        | true =>
          have HN2 : Hid (nrB ps (xa : Int) (xb : Int) (i + 1) = true) := hide (by rw [HS.out, HN.out]; rfl)
          go_wp2_with fail
          go_wp2_with fail
          go_roundw
          case rel => exact ⟨i + 1, true, rfl, by go_num, by omega, HB, HN2⟩
          case measure => simp [Go.RowKit.intOf]; omega
        | false =>
          by_cases h1 : ((u, v) : Pr) = ((xa : Int), (xb : Int))
          · have HN2 : Hid (nrB ps (xa : Int) (xb : Int) (i + 1) = true) := hide (by rw [HS.out, HN.out, decide_eq_true h1]; rfl)
            have hE1 : ∀ W : World, (Op.equalIn 10000 33 (.agg #[.int .i64 u, .int .i64 v]) (.agg #[.int .i64 (xa : Int), .int .i64 (xb : Int)])).run Tryd.prog W = .ok true W := fun W => (eqPair u v (xa : Int) (xb : Int) W).trans (by
              congr 1
              have := h1
              simp only [Prod.mk.injEq] at this
              simpa using this)
            clear h1
            go_wp2_with fail
            go_roundw
            case rel => exact ⟨i + 1, true, rfl, by go_num, by omega, HB, HN2⟩
            case measure => simp [Go.RowKit.intOf]; omega
          · by_cases h2 : ((u, v) : Pr) = ((xb : Int), (xa : Int))
            · have HN2 : Hid (nrB ps (xa : Int) (xb : Int) (i + 1) = true) := hide (by rw [HS.out, HN.out, decide_eq_true h2]; simp)
              have hE1 : ∀ W : World, (Op.equalIn 10000 33 (.agg #[.int .i64 u, .int .i64 v]) (.agg #[.int .i64 (xa : Int), .int .i64 (xb : Int)])).run Tryd.prog W = .ok false W := fun W => (eqPair u v (xa : Int) (xb : Int) W).trans (by
                congr 1
                have := h1
                simp only [Prod.mk.injEq] at this
                simpa using this)
              have hE2 : ∀ W : World, (Op.equalIn 10000 33 (.agg #[.int .i64 u, .int .i64 v]) (.agg #[.int .i64 (xb : Int), .int .i64 (xa : Int)])).run Tryd.prog W = .ok true W := fun W => (eqPair u v (xb : Int) (xa : Int) W).trans (by
                congr 1
                have := h2
                simp only [Prod.mk.injEq] at this
                simpa using this)
              clear h1 h2
              go_wp2_with fail
              go_roundw
              case rel => exact ⟨i + 1, true, rfl, by go_num, by omega, HB, HN2⟩
              case measure => simp [Go.RowKit.intOf]; omega
            · have HN2 : Hid (nrB ps (xa : Int) (xb : Int) (i + 1) = false) := hide (by rw [HS.out, HN.out, decide_eq_false h1, decide_eq_false h2]; rfl)
              have hE1 : ∀ W : World, (Op.equalIn 10000 33 (.agg #[.int .i64 u, .int .i64 v]) (.agg #[.int .i64 (xa : Int), .int .i64 (xb : Int)])).run Tryd.prog W = .ok false W := fun W => (eqPair u v (xa : Int) (xb : Int) W).trans (by
                congr 1
                have := h1
                simp only [Prod.mk.injEq] at this
                simpa using this)
              have hE2 : ∀ W : World, (Op.equalIn 10000 33 (.agg #[.int .i64 u, .int .i64 v]) (.agg #[.int .i64 (xb : Int), .int .i64 (xa : Int)])).run Tryd.prog W = .ok false W := fun W => (eqPair u v (xb : Int) (xa : Int) W).trans (by
                congr 1
                have := h2
                simp only [Prod.mk.injEq] at this
                simpa using this)
              clear h1 h2
              go_wp2_with fail
              go_roundw
              case rel => exact ⟨i + 1, false, rfl, by go_num, by omega, HB, HN2⟩
              case measure => simp [Go.RowKit.intOf]; omega
      · have hie : i = n := by omega
        have hd : decide ((i : Int) < (n : Int)) = false := decide_eq_false (by omega)
        obtain ⟨dn, m1, m2, J, dl, q, hF⟩ := mFacts HR.out hxa hxb hxc
        obtain ⟨eT, eT2, ew1, ew2, ew3, ex1, ex2, ex3, edl, edl0, edn, edn0⟩ := hF.num
        obtain ⟨hq1, hq2⟩ := hF.q
        obtain ⟨hpl, hp0, hpn⟩ := hF.pth
        have hr1 : ((dn : Int) == 1) = r := hF.near (nrB_end HN.out hie HL.out)
        have eq0 : (q == q) = true := beq_self_eq_true q
        have er0 : (r == r) = true := beq_self_eq_true r
        have ed0 : ((dn : Int) == (dn : Int)) = true := beq_self_eq_true _
        have ea0 : ((xa : Int) == (xa : Int)) = true := beq_self_eq_true _
        have eb0 : ((xb : Int) == (xb : Int)) = true := beq_self_eq_true _
        have el0 : ((dl : Int) == (dl : Int)) = true := beq_self_eq_true _
        have cp : ∀ W, PA W ao ps → Calls Tryd.prog 7 #[.agg #[.int .i64 (N : Int), .slice ao n k], .int .i64 (xa : Int), .int .i64 (xb : Int)] W fun e w' => (∃ ao c, e = .returned (.tuple #[.slice ao dl c, .int .i64 0]) ∧ QO w' W.heap.size ao c (pth N ps xa xb)) ∧ Below W.heap.size W w' := fun W h => by
          have := rPath (N : Int) ps ao k (xa : Int) (xb : Int) (pth N ps xa xb) 0 (.inr (.inr (.inr ⟨HR.out, ⟨by omega, ia⟩, ⟨by omega, ib⟩, by simp, rfl⟩))) (by rw [HL.out]; exact hl) W h
          rw [hpl, HL.out] at this
          exact this
        have HPN := hide (And.intro hp0 hpn)
        have HDS := hide hF.dd
        obtain ⟨hdn64, hm164, hm264⟩ := hF.le
        clear hF hp0 hpn hpl
        go_wp2_with (first | (go_at_call 7; (with_reducible refine Calls.mono (cp _ (HA0.out.below HB.out)) ?_); rintro e w5 ⟨⟨a5, c5, rfl, hq5⟩, hb5⟩; have HB5 := hide (bkp HB.out hb5); have hrr := HR0.out.below HB5.out; obtain ⟨g5, rfl, -, -, p5⟩ := own_cell hq5 (iv_at (j := 0) (z := (xa : Int)) (by rw [List.getElem?_map, HPN.out.1]; rfl)); obtain ⟨g6, hg6, -, -, p6⟩ := own_cell hq5 (iv_at (j := dn) (z := (xb : Int)) (by rw [List.getElem?_map, HPN.out.2]; rfl)); cases hg6; have p1 := hrr.hd xa hxa; have p2 := hrr.hd xb hxb; have p3 := hrr.hd xc hxc; have p0 := World.block_lt_of_cell? _ _ p1; have r1 : w5.cell? ⟨G xa, xb, none⟩ = some (.int .i64 (dn : Int)) := (hrr.row xa xb hxa hxb).trans (congrArg _ (congrArg _ HDS.out.1.1)); have r2 : w5.cell? ⟨G xb, xa, none⟩ = some (.int .i64 (dn : Int)) := (hrr.row xb xa hxb hxa).trans (congrArg _ (congrArg _ HDS.out.1.2)); have r3 : w5.cell? ⟨G xa, xc, none⟩ = some (.int .i64 (m1 : Int)) := (hrr.row xa xc hxa hxc).trans (congrArg _ (congrArg _ HDS.out.2.1)); have r4 : w5.cell? ⟨G xc, xb, none⟩ = some (.int .i64 (m2 : Int)) := (hrr.row xc xb hxc hxb).trans (congrArg _ (congrArg _ HDS.out.2.2)); have q1 := World.block_lt_of_cell? _ _ r1; have q2 := World.block_lt_of_cell? _ _ r2; have q4 := World.block_lt_of_cell? _ _ r4; have q5 := World.block_lt_of_cell? _ _ p5; clear hq5 hb5 hrr cp) | (go_at_call 5; (with_reducible refine Calls.mono (rNumZ _ _) ?_); rintro e w9 ⟨rfl, rfl⟩) | (go_at_call 6; (with_reducible refine Calls.mono (rAlive _ ((HG.out.below HB0.out).below HB5.out)) ?_); rintro e w7 ⟨rfl, hb7⟩; have HB7 := hide (bkp HB5.out hb7); clear hb7))
        have HS : Hid (∀ V, Below w5.heap.size w5 V → Below w5.heap.size w5 V ∧ V.cell? ⟨g0, xa, none⟩ = some (.slice (some ⟨G xa, 0, none⟩) N (K xa)) ∧ V.cell? ⟨g0, xb, none⟩ = some (.slice (some ⟨G xb, 0, none⟩) N (K xb)) ∧ V.cell? ⟨g0, xc, none⟩ = some (.slice (some ⟨G xc, 0, none⟩) N (K xc)) ∧ V.cell? ⟨G xa, xb, none⟩ = some (.int .i64 (dn : Int)) ∧ V.cell? ⟨G xb, xa, none⟩ = some (.int .i64 (dn : Int)) ∧ V.cell? ⟨G xa, xc, none⟩ = some (.int .i64 (m1 : Int)) ∧ V.cell? ⟨G xc, xb, none⟩ = some (.int .i64 (m2 : Int)) ∧ V.cell? ⟨g5, 0, none⟩ = some (.int .i64 (xa : Int)) ∧ V.cell? ⟨g5, dn, none⟩ = some (.int .i64 (xb : Int))) := hide (fun V h => ⟨h, cellB p1 h, cellB p2 h, cellB p3 h, cellB r1 h, cellB r2 h, cellB r3 h, cellB r4 h, cellB p5 h, cellB p6 h⟩)
        have HAL : Hid (∀ V, Below w5.heap.size w5 V → Calls Tryd.prog 6 #[] V fun e w' => e = .returned (.bool true) ∧ Below V.heap.size V w') := hide (fun V h => rAlive V (((HWG.out _ HB0.out).below HB5.out).below h))
        have HFI : Hid (∀ V, Below w5.heap.size w5 V → Below w.heap.size w V) := hide (fun V h => by rw [HME.out]; exact HB0.out.trans ((bkp HB5.out h).mono (by have := HB0.out.size; have := HME.out; omega)))
        have hb5r : Below w5.heap.size w5 w5.drew := drewB (Below.refl _ _)
        clear p0 p1 p2 p3 r1 r2 r3 r4 q1 q2 q4 q5 p5 p6 y0 y1 y2 HPN HDS HB5 HB HN HA0 HM0 HB0 HWG HME HG HL HR eN hl hN1 hd
        simp only [List.append_eq, List.cons_append, List.nil_append]
        have z1 := fun pp : MSp w5 => (HS.out pp.V pp.h).2.1
        have z2 := fun pp : MSp w5 => (HS.out pp.V pp.h).2.2.1
        have z3 := fun pp : MSp w5 => (HS.out pp.V pp.h).2.2.2.1
        have z4 := fun pp : MSp w5 => (HS.out pp.V pp.h).2.2.2.2.1
        have z5 := fun pp : MSp w5 => (HS.out pp.V pp.h).2.2.2.2.2.1
        have z6 := fun pp : MSp w5 => (HS.out pp.V pp.h).2.2.2.2.2.2.1
        have z7 := fun pp : MSp w5 => (HS.out pp.V pp.h).2.2.2.2.2.2.2.1
        have z8 := fun pp : MSp w5 => (HS.out pp.V pp.h).2.2.2.2.2.2.2.2.1
        have z9 := fun pp : MSp w5 => (HS.out pp.V pp.h).2.2.2.2.2.2.2.2.2
        have HB5r := hide hb5r
        clear hb5r HS
        haveI : Nonempty (MSp w5) := ⟨⟨_, HB5r.out⟩⟩
        refine region_quietC (fun W => ∃ p : MSp w5, W = p.V) (by kernel_rfl) (Gt.lexB_fast dlRM (by kernel_rfl) (by decide +kernel) (by decide +kernel)) ⟨⟨_, HB5r.out⟩, rfl⟩ ?_
        repeat (go_big_quiet_step ((rename_i pp; first | (with_reducible refine Calls.mono (rNumZ _ _) ?_; rintro e x ⟨rfl, q⟩; exact ⟨rfl, ⟨pp.V, pp.h⟩, q⟩) | (with_reducible refine Calls.mono (HAL.out _ pp.h) ?_; rintro e x ⟨rfl, q⟩; exact ⟨rfl, ⟨x, bkp pp.h q⟩, rfl⟩))))
        refine wpQuiet_nil ?_
        intro _ hw
        obtain ⟨pp, hw2⟩ := hw
        subst hw2
        go_wp2_with fail
        go_ret
        exact ⟨rfl, HFI.out _ pp.h⟩
  · exact xMetric_no N ps ao k a b c hR hl w hA hG
end Go.Proofs.YtipceoeihiaieaaDoor.Rou
