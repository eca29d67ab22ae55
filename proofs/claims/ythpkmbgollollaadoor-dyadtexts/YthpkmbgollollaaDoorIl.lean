/- LastIndexAny, cutParts and Parse of any text. -/
import Derived.Test.YthpkmbgollollaaDoorIk
import Derived.Test.YthpkmbgollollaaDoorIe
import Derived.Lib.TrimU
namespace Go.Proofs.YthpkmbgollollaaDoor.Dy
open Go.RowKit Go.Lib Go.Shelf Go.Proofs.YthpkmbgollollaaDoor.Sca

/-- The tables of package utf8. -/
def Tu (w : World) : Prop := Lib.Utf8Tabs 7 8 w
theorem Tu.below {w w' : World} (h : Tu w) (hb : Below w.heap.size w w') : Tu w' := Utf8Tabs_below h hb
theorem iRune_any (r : Nat) (w : World) : Calls Tryd.prog 71 #[.string ⟨#[43, 45]⟩, .int .i32 (r : Int)] w fun e w' => (∃ v : Int, e = .returned (.int .i64 v)) ∧ Below w.heap.size w w' := by
  by_cases h1 : r < 128
  · exact (iRune_near r h1 w).mono fun _ _ ⟨he, hw⟩ => ⟨⟨_, he⟩, hw ▸ Below.refl _ _⟩
  · by_cases h2 : r = 65533
    · subst h2
      exact (iRune_err w).mono fun _ _ ⟨he, hb⟩ => ⟨⟨_, he⟩, hb⟩
    · exact (iRune_far r (by omega) h2 w).mono fun _ _ ⟨he, hb⟩ => ⟨⟨_, he⟩, hb⟩
theorem dLast (l : List UInt8) (hl : l.length ≤ 140737488355328) (w : World) (hT : Tu w) : Calls Tryd.prog 75 #[.string ⟨l.toArray⟩] w fun e w' => e = .returned (.tuple #[.int .i32 ((Lib.decodeLastL l).1 : Int), .int .i64 ((Lib.decodeLastL l).2 : Int)]) ∧ Below w.heap.size w w' :=
  Any.utf8_DecodeLastRuneInString Tryd.laysDecodeLast ⟨l.toArray⟩ w (by have : (⟨l.toArray⟩ : ByteArray).size = l.length := size_str l; omega) hT
set_option maxRecDepth 100000 in
set_option maxHeartbeats 1000000 in
theorem yLast_tiny (l : List UInt8) (h1 : l.length ≠ 1) (h8 : l.length ≤ 8) (w : World) (hT : Tu w) :
    Calls Tryd.prog 61 #[.string ⟨l.toArray⟩, .string ⟨#[43, 45]⟩] w fun e w' => (∃ k : Int, e = .returned (.int .i64 k) ∧ -1 ≤ k ∧ (k < l.length)) ∧ Below w.heap.size w w' := by
  have cS := fun w => yAsciiSet l.length w
  rw [decide_eq_false (by omega)] at cS
  have hext := fun k => (ext_list l 0 k).trans (by rw [List.drop_zero])
  have hsz : (⟨l.toArray⟩ : ByteArray).size = l.length := by show l.toArray.size = _; simp
  generalize (⟨l.toArray⟩ : ByteArray) = s at *
  have z1 : ((l.length : Int) == 1) = false := by rw [beq_eq_false_iff_ne]; omega
  go_enter Tryd.func61, Tryd.ntmps61
  go_wp2_with fail
  refine (cS _).mono ?_
  rintro e w1 ⟨rfl, hw⟩
  obtain rfl := hw.symm
  clear cS
  go_wp2_with fail
  go_loopw [13] (fun vi wr => ∃ i : Nat, vi = .int .i64 (i : Int) ∧ i ≤ l.length ∧ Below w.heap.size w wr) (fun vi _ => (RowKit.intOf vi).toNat)
  case atStart => exact ⟨l.length, rfl, Nat.le_refl _, Below.refl _ _⟩
  case round =>
    obtain ⟨i, rfl, hi, hbw⟩ := hrel
    cases i with
    | zero =>
      go_wp2_with fail
      go_ret
      exact ⟨⟨-1, rfl, by omega, by omega⟩, hbw⟩
    | succ i =>
      have hpos : 0 < ((i + 1 : Nat) : Int) := by omega
      have hx := hext (i + 1)
      have hle : ((i + 1 : Nat) : Int) ≤ (l.length : Int) := by omega
      have hle2 : i + 1 ≤ s.size := by omega
      have htl : (l.take (i + 1)).length = i + 1 := by rw [List.length_take]; omega
      have hwd := Lib.decodeLastL_width (l.take (i + 1)) (by omega)
      have hrn := Lib.decodeLastL_rune (l.take (i + 1))
      have cD := fun w hT => dLast (l.take (i + 1)) (by omega) w hT
      have cR := fun w => iRune_any (Lib.decodeLastL (l.take (i + 1))).1 w
      rw [htl] at hwd
      generalize (⟨(l.take (i + 1)).toArray⟩ : ByteArray) = s1 at *
      generalize (Lib.decodeLastL (l.take (i + 1))).1 = r at *
      generalize (Lib.decodeLastL (l.take (i + 1))).2 = n at *
      have hsub : ((i + 1 : Nat) : Int) - (n : Int) = ((i + 1 - n : Nat) : Int) := by omega
      clear hext htl
      go_wp2_with fail
      refine (cD _ (hT.below hbw)).mono ?_
      rintro e w1 ⟨rfl, q1⟩
      have hb1 := hbw.trans (q1.mono hbw.size)
      go_wp2_with fail
      refine (cR _).mono ?_
      rintro e w2 ⟨⟨v, rfl⟩, q2⟩
      have hb2 := hb1.trans (q2.mono hb1.size)
      clear q1 q2 cD cR hx
      by_cases hv : (0 : Int) ≤ v
      · go_wp2_with fail
        go_ret
        refine ⟨⟨((i + 1 - n : Nat) : Int), ?_, by omega, by omega⟩, hb2⟩
        show Ending.returned (Value.int .i64 ((i : Int) + 1 - (n : Int))) = _
        rw [show (i : Int) + 1 - (n : Int) = ((i + 1 - n : Nat) : Int) by omega]
      · have hv' : decide ((0 : Int) ≤ v) = false := decide_eq_false hv
        go_wp2_with fail
        refine ⟨⟨i + 1 - n, ?_, by omega, hb2⟩, by simp [RowKit.intOf]; omega⟩
        congr 1
set_option maxRecDepth 100000 in
set_option maxHeartbeats 1000000 in
theorem yLast_one (l : List UInt8) (h1 : l.length = 1) (w : World) :
    Calls Tryd.prog 61 #[.string ⟨l.toArray⟩, .string ⟨#[43, 45]⟩] w fun e w' => (∃ k : Int, e = .returned (.int .i64 k) ∧ -1 ≤ k ∧ (k < l.length)) ∧ Below w.heap.size w w' := by
  have hsz : (⟨l.toArray⟩ : ByteArray).size = l.length := by show l.toArray.size = _; simp
  have hlt : 0 < (⟨l.toArray⟩ : ByteArray).size := by omega
  obtain ⟨c, hc⟩ : ∃ c, (⟨l.toArray⟩ : ByteArray)[0]'hlt = c := ⟨_, rfl⟩
  have cR := fun w => iRune_any c.toNat w
  have cE := fun w => iRune_any 65533 w
  generalize (⟨l.toArray⟩ : ByteArray) = s at *
  have hs1 : (s.size : Int) = 1 := by omega
  have hc256 : (c.toNat : Int) < 256 := by have := UInt8.toNat_lt c; omega
  rw [h1]
  clear hsz
  by_cases h128 : 128 ≤ c.toNat
  · have hz : (128 : Int) ≤ (c.toNat : Int) := by omega
    go_enter Tryd.func61, Tryd.ntmps61
    go_wp2_with fail
    refine (cE _).mono ?_
    rintro e w2 ⟨⟨v, rfl⟩, q2⟩
    by_cases hv : (0 : Int) ≤ v
    · go_wp2_with fail
      go_ret
      exact ⟨⟨0, rfl, by omega, by omega⟩, q2⟩
    · have hv' : decide ((0 : Int) ≤ v) = false := decide_eq_false hv
      go_wp2_with fail
      go_ret
      exact ⟨⟨-1, rfl, by omega, by omega⟩, q2⟩
  · have hz : ¬ (128 : Int) ≤ (c.toNat : Int) := by omega
    have hz' : decide ((128 : Int) ≤ (c.toNat : Int)) = false := decide_eq_false hz
    go_enter Tryd.func61, Tryd.ntmps61
    go_wp2_with fail
    refine (cR _).mono ?_
    rintro e w2 ⟨⟨v, rfl⟩, q2⟩
    by_cases hv : (0 : Int) ≤ v
    · go_wp2_with fail
      go_ret
      exact ⟨⟨0, rfl, by omega, by omega⟩, q2⟩
    · have hv' : decide ((0 : Int) ≤ v) = false := decide_eq_false hv
      go_wp2_with fail
      go_ret
      exact ⟨⟨-1, rfl, by omega, by omega⟩, q2⟩
theorem yLast_any (l : List UInt8) (hl : l.length ≤ 140737488355328) (w : World) (hT : Tu w) :
    Calls Tryd.prog 61 #[.string ⟨l.toArray⟩, .string ⟨#[43, 45]⟩] w fun e w' => (∃ k : Int, e = .returned (.int .i64 k) ∧ -1 ≤ k ∧ (k < l.length)) ∧ Below w.heap.size w w' := by
  by_cases h8 : l.length ≤ 8
  · by_cases h1 : l.length = 1
    · exact yLast_one l h1 w
    · exact yLast_tiny l h1 h8 w hT
  · exact (yLast_long l (by omega) hl w).mono fun _ _ ⟨he, hb⟩ => ⟨⟨_, he, (lastA_lt _ _).1, (lastA_lt _ _).2⟩, hb⟩
set_option maxRecDepth 100000 in
theorem yCut_any (l : List UInt8) (hl : l.length ≤ 140737488355328) (w : World) (hT : Tu w) :
    Calls Tryd.prog 49 #[.string ⟨l.toArray⟩] w fun e w' => (∃ x y : List UInt8, e = .returned (.tuple #[.string ⟨x.toArray⟩, .string ⟨y.toArray⟩]) ∧ x.length ≤ l.length ∧ y.length ≤ l.length) ∧ Below w.heap.size w w' := by
  have hL := yLast_any l hl w hT
  have hsz := size_str l
  have hx := fun n : Nat => (ext_list l 0 n).trans (by rw [List.drop_zero])
  have hy := fun n : Nat => (ext_list l n l.length).trans (by rw [List.take_length])
  generalize (⟨l.toArray⟩ : ByteArray) = s at *
  have mixed := mixed_ok
  go_enter Tryd.func49, Tryd.ntmps49
  go_wp2_with fail
  refine hL.mono ?_
  rintro e w1 ⟨⟨k, rfl, hk0, hk1⟩, hb⟩
  obtain ⟨n, hn⟩ : ∃ n : Nat, k.toNat = n := ⟨_, rfl⟩
  have hmax : max (0 : Int) k = (n : Int) := by omega
  have hnl : n ≤ l.length := by omega
  have e1 := hx n
  have e2 := hy n
  have g1 : (l.take n).length ≤ l.length := by rw [List.length_take]; omega
  have g2 : (l.drop n).length ≤ l.length := by rw [List.length_drop]; omega
  generalize l.take n = X at *
  generalize l.drop n = Y at *
  have hn1 : (n : Int) ≤ (l.length : Int) := by omega
  have hn2 : n ≤ s.size := by omega
  clear hk0 hk1 hn hL hx hy
  go_wp2_with fail
  go_big_quiet_o (fail)
  go_wp2
  go_ret2
  exact ⟨⟨X, Y, rfl, g1, g2⟩, below_drewN hb _⟩
set_option maxRecDepth 100000 in
set_option maxHeartbeats 1000000 in
theorem yParse_no (l : List UInt8) (hl : l.length ≤ 140737488351300) (hno : ∀ d, Rt d → prD d ≠ l) (w : World) (hT : Tp w) (hU : Tu w) :
    Calls Tryd.prog 27 #[.string ⟨l.toArray⟩] w fun e w' => e = .returned (aV (o0, 50)) ∧ Below w.heap.size w w' := by
  have c1 := fun w => sCut l hl w
  have cNum := fun (x : List UInt8) (hx : x.length ≤ l.length) w hT => yNumber x (by omega) w hT
  have c4 := fun w => sCutPrefix (cutB l) [47] w
  have hbl := cutB_len l
  have hal := cutA_len l
  have hC := fun w hT => yCut_any (cutA l) (by omega) w hT
  have htl : (Lib.trimPrefix (cutB l) [47]).length ≤ l.length := by
    unfold Lib.trimPrefix
    split
    · rw [List.length_drop]; omega
    · exact hbl
  have c5 := fun w hT => yNumber (Lib.trimPrefix (cutB l) [47]) (by omega) w hT
  have c6 := fun w => len64 (un (numP (Lib.trimPrefix (cutB l) [47]))) (un_lt _) w
  have hun : IntKind.u64.wrap (numP (Lib.trimPrefix (cutB l) [47])) = (un (numP (Lib.trimPrefix (cutB l) [47])) : Int) := by rw [wrapU]; unfold un; omega
  have hPr : ∀ x y : List UInt8, ∃ PV, (∀ w, T10 w → Calls Tryd.prog 25 #[dV (parseD x y l)] w fun e w' => e = .returned PV ∧ Below w.heap.size w w') ∧ ∃ T E, PV = .tuple #[.string T, .int .i64 E] ∧ (E ≠ 0 ∨ (E = 0 ∧ (T.toList == (⟨l.toArray⟩ : ByteArray).toList) = false)) := by
    intro x y
    refine ⟨pV (parseD x y l), fun w hT => yPrint (parseD x y l) (parseD_64 x y l) w hT, ?_⟩
    unfold pV
    by_cases hR : Rt (parseD x y l)
    · rw [if_pos hR]
      exact ⟨_, _, rfl, .inr ⟨rfl, by rw [list_eq]; exact decide_eq_false (hno _ hR)⟩⟩
    · rw [if_neg hR]
      exact ⟨_, _, rfl, .inl (by decide)⟩
  have hex : exP l = if Lib.hasPrefix (cutB l) [47] then (bl (un (numP (Lib.trimPrefix (cutB l) [47]))) : Int) - 1 else 0 := rfl
  have hbl64 := (bl_le_iff (un (numP (Lib.trimPrefix (cutB l) [47]))) 64).2 (un_lt _)
  have hpd : ∀ x y : List UInt8, dV (parseD x y l) = .agg #[.int .i64 (numP x), .int .i64 (numP y), .int .i64 (exP l)] := fun _ _ => rfl
  simp only [hpd] at hPr
  clear hpd hbl htl hno
  generalize exP l = ex at *
  generalize numP (Lib.trimPrefix (cutB l) [47]) = n3 at *
  generalize un n3 = u3 at *
  generalize bl u3 = b3 at *
  generalize Lib.hasPrefix (cutB l) [47] = hp? at *
  generalize (⟨(Lib.trimPrefix (cutB l) [47]).toArray⟩ : ByteArray) = P3 at *
  generalize (cutA l).length = LA at *
  generalize (⟨(cutA l).toArray⟩ : ByteArray) = CA at *
  generalize (⟨(cutB l).toArray⟩ : ByteArray) = CB at *
  generalize (⟨l.toArray⟩ : ByteArray) = S0 at *
  have c4' : ∀ w, Calls Tryd.prog 51 #[.string CB, .string ⟨#[47]⟩] w fun e w' => e = .returned (.tuple #[.string P3, .bool hp?]) ∧ w' = w := c4
  have hw3 : IntKind.i64.wrap ((b3 : Int) - 1) = (b3 : Int) - 1 := by rw [wrapI]; omega
  have Hex := hidP hex
  clear c4 hex
  go_enter Tryd.func27, Tryd.ntmps27
  go_wp2_with fail
  refine (c1 _).mono ?_
  rintro e w1 ⟨⟨u, rfl⟩, q, hw⟩
  have hb1 : Below w.heap.size w w1 := by rw [hw]; exact below_drewN (below_new _ _) q
  have hA1 : At w1 w.heap.size 0 0 0 := by rw [hw]; exact (At.new w 0 0 0).drewN q
  clear hw c1
  go_wp2_with fail
  refine (hC _ (hU.below hb1)).mono ?_
  rintro e w2 ⟨⟨x, y, rfl, hx, hy⟩, hb2⟩
  have hbw2 := hb1.trans (hb2.mono hb1.size)
  have hA2 := hA1.below hb2
  obtain ⟨PV, c7, T, E, hp, hE⟩ := hPr x y
  have c2 := fun w hT => cNum x (by omega) w hT
  have c3 := fun w hT => cNum y (by omega) w hT
  clear hC hb2 hA1 hb1 hPr cNum hx hy
  generalize numP x = n1 at *
  generalize numP y = n2 at *
  generalize (⟨x.toArray⟩ : ByteArray) = X at *
  generalize (⟨y.toArray⟩ : ByteArray) = Y at *
  go_wp2_with fail
  refine (c2 _ (hT.below hbw2).er).mono ?_
  rintro e w3 ⟨rfl, hb3⟩
  have hbw3 := hbw2.trans (hb3.mono hbw2.size)
  have hA3 := hA2.below hb3
  clear c2 hb3 hA2 hbw2
  go_wp2_with fail
  refine (c3 _ (hT.below hbw3).er).mono ?_
  rintro e w4 ⟨rfl, hb4⟩
  have hbw4 := hbw3.trans (hb4.mono hbw3.size)
  have hA4 := hA3.below hb4
  have hK : w.heap.size < w4.heap.size := hA4.lt
  clear c3 hb4 hA3 hbw3
  have hDn := At.new w4 n1 n2 0
  have hRn := hA4.below (below_new w4 (dO n1 n2 0))
  have hbn := hbw4.trans ((below_new w4 (dO n1 n2 0)).mono hbw4.size)
  clear hA4
  go_wp2_with fail
  generalize w4.alloc (dO n1 n2 0) = W4 at *
  refine (c4' _).mono ?_
  rintro e w5 ⟨rfl, hw⟩
  obtain rfl := hw.symm
  clear c4'
  have hex := Hex.out
  clear Hex
  cases hp?
  · rw [if_neg (by decide)] at hex
    subst hex
    have hD := hDn
    have hRD := hRn
    have hbD := hbn
    clear hDn hRn hbn c5 c6
    obtain ⟨g0, g1, g2⟩ := hD.cells
    go_wp2_with fail
    refine (c7 _ (hT.below hbD).ten).mono ?_
    rintro e w6 ⟨rfl, hb6⟩
    have hbw6 := hbD.trans (hb6.mono hbD.size)
    have hR6 := hRD.below hb6
    have hD6 := hD.below hb6
    clear g0 g1 g2 hb6 c7 hRD hD hbD
    obtain ⟨g0, g1, g2⟩ := hD6.cells
    subst hp
    rcases hE with hE | ⟨hE, hq⟩
    · have hE' : (E == 0) = false := by rw [beq_eq_false_iff_ne]; exact hE
      have hE2 : (E != 0) = true := by rw [bne_iff_ne]; exact hE
      go_wp2_with (refine wpList_store_row rfl _ _ _ rfl w.heap.size _ rfl rfl _ _ hR6 (by exact infoD) (by rfl) (allD _ _ _) ?_)
      refine bodyPost_ret (results_ct rfl _ _ w.heap.size _ _ _ _ rfl (setRow_heap _ _ _ _ _ _ hR6) Tryd.underlying23 rfl (by exact infoD)) rfl ?_
      exact ⟨rfl, below_setRow hbw6 (by omega) _⟩
    · subst hE
      have hq2 : (T.toList != S0.toList) = true := by rw [bne, hq]; rfl
      go_wp2_with (refine wpList_store_row rfl _ _ _ rfl w.heap.size _ rfl rfl _ _ hR6 (by exact infoD) (by rfl) (allD _ _ _) ?_)
      refine bodyPost_ret (results_ct rfl _ _ w.heap.size _ _ _ _ rfl (setRow_heap _ _ _ _ _ _ hR6) Tryd.underlying23 rfl (by exact infoD)) rfl ?_
      exact ⟨rfl, below_setRow hbw6 (by omega) _⟩
  · rw [if_pos rfl] at hex
    subst hex
    go_wp2_with fail
    refine (c5 _ (hT.below hbn).er).mono ?_
    rintro e w5 ⟨rfl, hb5⟩
    have hD5 := hDn.below hb5
    have hRD := (hRn.below hb5).far ⟨w4.heap.size, 2, none⟩ (.int .i64 ((b3 : Int) - 1)) (by show w4.heap.size ≠ w.heap.size; omega)
    have hD : At (w5.setCell ⟨w4.heap.size, 2, none⟩ (.int .i64 ((b3 : Int) - 1))) w4.heap.size n1 n2 ((b3 : Int) - 1) := by
      unfold At
      rw [setCell_eq_setRow _ _ _ _ _ _ _ hD5]
      exact setRow_heap _ _ _ _ _ _ hD5
    have hbw5 := hbn.trans (hb5.mono hbn.size)
    have hbD : Below w.heap.size w (w5.setCell ⟨w4.heap.size, 2, none⟩ (.int .i64 ((b3 : Int) - 1))) := below_set hbw5 _ _ (by show w.heap.size ≤ w4.heap.size; omega)
    have fz := hD5.fz
    obtain ⟨f0, f1, f2⟩ := hD5.cells
    obtain ⟨g0, g1, g2⟩ := hD.cells
    clear c5 hb5 hDn hRn hbn
    go_wp2_with fail
    refine (c6 _).mono ?_
    rintro e w6 ⟨rfl, hw⟩
    obtain rfl := hw.symm
    clear c6
    go_wp2_with fail
    clear f0 f1 f2 fz
    generalize w5.setCell ⟨w4.heap.size, 2, none⟩ (.int .i64 ((b3 : Int) - 1)) = W5 at *
    refine (c7 _ (hT.below hbD).ten).mono ?_
    rintro e w6 ⟨rfl, hb6⟩
    have hbw6 := hbD.trans (hb6.mono hbD.size)
    have hR6 := hRD.below hb6
    have hD6 := hD.below hb6
    clear g0 g1 g2 hb6 c7 hRD hD hbD
    obtain ⟨g0, g1, g2⟩ := hD6.cells
    subst hp
    rcases hE with hE | ⟨hE, hq⟩
    · have hE' : (E == 0) = false := by rw [beq_eq_false_iff_ne]; exact hE
      have hE2 : (E != 0) = true := by rw [bne_iff_ne]; exact hE
      go_wp2_with (refine wpList_store_row rfl _ _ _ rfl w.heap.size _ rfl rfl _ _ hR6 (by exact infoD) (by rfl) (allD _ _ _) ?_)
      refine bodyPost_ret (results_ct rfl _ _ w.heap.size _ _ _ _ rfl (setRow_heap _ _ _ _ _ _ hR6) Tryd.underlying23 rfl (by exact infoD)) rfl ?_
      exact ⟨rfl, below_setRow hbw6 (by omega) _⟩
    · subst hE
      have hq2 : (T.toList != S0.toList) = true := by rw [bne, hq]; rfl
      go_wp2_with (refine wpList_store_row rfl _ _ _ rfl w.heap.size _ rfl rfl _ _ hR6 (by exact infoD) (by rfl) (allD _ _ _) ?_)
      refine bodyPost_ret (results_ct rfl _ _ w.heap.size _ _ _ _ rfl (setRow_heap _ _ _ _ _ _ hR6) Tryd.underlying23 rfl (by exact infoD)) rfl ?_
      exact ⟨rfl, below_setRow hbw6 (by omega) _⟩
end Go.Proofs.YthpkmbgollollaaDoor.Dy
