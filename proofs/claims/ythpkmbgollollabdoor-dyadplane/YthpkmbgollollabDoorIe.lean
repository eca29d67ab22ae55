/- cutParts, Parse, as they are walked. -/
import Derived.Test.YthpkmbgollollabDoorId
import Derived.Test.YthpkmbgollollabDoorDg
import Derived.Deep.RegionWith
namespace Go.Proofs.YthpkmbgollollabDoor.Dy
open Go.RowKit Go.Lib Go.Shelf Go.Proofs.YthpkmbgollollabDoor.Sca

/-- What the variables hold that Parse reads. -/
structure Tp (w : World) : Prop where
  er : Te w
  ten : T10 w
theorem Tp.below {w w' : World} (h : Tp w) (hb : Below w.heap.size w w') : Tp w' := ⟨h.er.below hb, h.ten.below hb⟩
theorem size_str (l : List UInt8) : (⟨l.toArray⟩ : ByteArray).size = l.length := by show l.toArray.size = _; simp
set_option maxRecDepth 100000 in
theorem yCutParts (l : List UInt8) (k : Int) (hk0 : -1 ≤ k) (hk1 : k < l.length) (w : World)
    (hL : Calls Tryd.prog 47 #[.string ⟨l.toArray⟩, .string ⟨#[43, 45]⟩] w fun e w' => e = .returned (.int .i64 k) ∧ Below w.heap.size w w') :
    Calls Tryd.prog 37 #[.string ⟨l.toArray⟩] w fun e w' => e = .returned (.tuple #[.string ⟨(l.take k.toNat).toArray⟩, .string ⟨(l.drop k.toNat).toArray⟩]) ∧ Below w.heap.size w w' := by
  obtain ⟨n, hn⟩ : ∃ n : Nat, k.toNat = n := ⟨_, rfl⟩
  have hmax : max (0 : Int) k = (n : Int) := by omega
  have hnl : n ≤ l.length := by omega
  rw [hn]
  have e1 := (ext_list l 0 n).trans (by rw [List.drop_zero])
  have e2 := (ext_list l n l.length).trans (by rw [List.take_length])
  have hsz := size_str l
  generalize (⟨(l.take n).toArray⟩ : ByteArray) = s1 at *
  generalize (⟨(l.drop n).toArray⟩ : ByteArray) = s2 at *
  generalize (⟨l.toArray⟩ : ByteArray) = s at *
  have hn1 : (n : Int) ≤ (l.length : Int) := by omega
  have hn2 : n ≤ s.size := by omega
  clear hk0 hk1 hn
  go_enter Tryd.func37, Tryd.ntmps37
  go_wp2_with fail
  refine hL.mono ?_
  rintro e w1 ⟨rfl, hb⟩
  clear hL
  go_wp2_with fail
  have mixed := mixed_ok
  go_big_quiet_o (fail)
  go_wp2
  go_ret2
  exact ⟨rfl, below_drewN hb _⟩
/-- The power that stands behind the i. -/
def exP (l : List UInt8) : Int := if Lib.hasPrefix (cutB l) [47] then (bl (un (numP (Lib.trimPrefix (cutB l) [47]))) : Int) - 1 else 0
theorem exP_i64 (l : List UInt8) : -1 ≤ exP l ∧ exP l ≤ 63 := by
  unfold exP
  split
  · have := (bl_le_iff (un (numP (Lib.trimPrefix (cutB l) [47]))) 64).2 (un_lt _)
    omega
  · omega
def parseD (x y l : List UInt8) : DD := ⟨numP x, numP y, exP l⟩
theorem parseD_64 (x y l : List UInt8) : d64 (parseD x y l) := ⟨numP_i64 x, numP_i64 y, by have := exP_i64 l; constructor <;> (show _ ≤ _; unfold parseD; dsimp only; omega)⟩
/-- What Parse answers. -/
def parsR (x y l : List UInt8) : DD × Int := if Rt (parseD x y l) ∧ prD (parseD x y l) = l then (parseD x y l, 0) else (o0, 50)
theorem yPrint (d : DD) (hd : d64 d) (w : World) (hT : T10 w) : Calls Tryd.prog 23 #[dV d] w fun e w' => e = .returned (pV d) ∧ Below w.heap.size w w' := by
  unfold pV
  by_cases h : Rt d
  · rw [if_pos h]; exact yPrint_ok d h w hT
  · rw [if_neg h]; exact yPrint_no d hd h w
theorem list_eq (l m : List UInt8) : ((⟨l.toArray⟩ : ByteArray).toList == (⟨m.toArray⟩ : ByteArray).toList) = decide (l = m) := by
  rw [Lib.toList_data, Lib.toList_data]
  show (l == m) = _
  by_cases h : l = m
  · rw [h]; simp
  · rw [decide_eq_false h, beq_eq_false_iff_ne]; exact h
set_option maxRecDepth 100000 in
set_option maxHeartbeats 1000000 in
theorem yParse_gen (l x y : List UInt8) (hl : l.length ≤ 140737488351300) (hx : x.length ≤ l.length) (hy : y.length ≤ l.length) (w : World) (hT : Tp w)
    (hC : ∀ W, Below w.heap.size w W → Calls Tryd.prog 37 #[.string ⟨(cutA l).toArray⟩] W fun e w' => e = .returned (.tuple #[.string ⟨x.toArray⟩, .string ⟨y.toArray⟩]) ∧ Below W.heap.size W w') :
    Calls Tryd.prog 24 #[.string ⟨l.toArray⟩] w fun e w' => e = .returned (aV (parsR x y l)) ∧ Below w.heap.size w w' := by
  have c1 := fun w => sCut l hl w
  have c2 := fun w hT => yNumber x (by omega) w hT
  have c3 := fun w hT => yNumber y (by omega) w hT
  have c4 := fun w => sCutPrefix (cutB l) [47] w
  have hbl := cutB_len l
  have htl : (Lib.trimPrefix (cutB l) [47]).length ≤ l.length := by
    unfold Lib.trimPrefix
    split
    · rw [List.length_drop]; omega
    · exact hbl
  have c5 := fun w hT => yNumber (Lib.trimPrefix (cutB l) [47]) (by omega) w hT
  have c6 := fun w => len64 (un (numP (Lib.trimPrefix (cutB l) [47]))) (un_lt _) w
  have hun : IntKind.u64.wrap (numP (Lib.trimPrefix (cutB l) [47])) = (un (numP (Lib.trimPrefix (cutB l) [47])) : Int) := by rw [wrapU]; unfold un; omega
  have c7 := fun w hT => yPrint (parseD x y l) (parseD_64 x y l) w hT
  have hcase : ∃ PV, pV (parseD x y l) = PV ∧ ((PV = .tuple #[.string ⟨l.toArray⟩, .int .i64 0] ∧ parsR x y l = (parseD x y l, 0)) ∨ ∃ T E, PV = .tuple #[.string T, .int .i64 E] ∧ (E ≠ 0 ∨ (E = 0 ∧ (T.toList == (⟨l.toArray⟩ : ByteArray).toList) = false)) ∧ parsR x y l = (o0, 50)) := by
    refine ⟨_, rfl, ?_⟩
    unfold pV parsR
    by_cases hR : Rt (parseD x y l)
    · rw [if_pos hR]
      by_cases hE : prD (parseD x y l) = l
      · left; rw [if_pos ⟨hR, hE⟩, hE]; exact ⟨rfl, rfl⟩
      · right; rw [if_neg (fun h => hE h.2)]
        exact ⟨_, _, rfl, .inr ⟨rfl, by rw [list_eq]; exact decide_eq_false hE⟩, rfl⟩
    · right
      rw [if_neg hR, if_neg (fun h => hR h.1)]
      exact ⟨_, _, rfl, .inl (by decide), rfl⟩
  obtain ⟨PV, hPV, hcase⟩ := hcase
  rw [hPV] at c7
  have hex : exP l = if Lib.hasPrefix (cutB l) [47] then (bl (un (numP (Lib.trimPrefix (cutB l) [47]))) : Int) - 1 else 0 := rfl
  have hbl64 := (bl_le_iff (un (numP (Lib.trimPrefix (cutB l) [47]))) 64).2 (un_lt _)
  have hpd : parseD x y l = ⟨numP x, numP y, exP l⟩ := rfl
  rw [hpd] at c7 hcase
  clear hPV hpd hx hy hbl htl
  generalize parsR x y l = PR at *
  generalize numP x = n1 at *
  generalize numP y = n2 at *
  generalize exP l = ex at *
  generalize numP (Lib.trimPrefix (cutB l) [47]) = n3 at *
  generalize un n3 = u3 at *
  generalize bl u3 = b3 at *
  generalize Lib.hasPrefix (cutB l) [47] = hp? at *
  generalize (⟨(Lib.trimPrefix (cutB l) [47]).toArray⟩ : ByteArray) = P3 at *
  generalize (⟨x.toArray⟩ : ByteArray) = X at *
  generalize (⟨y.toArray⟩ : ByteArray) = Y at *
  generalize (⟨(cutA l).toArray⟩ : ByteArray) = CA at *
  generalize (⟨(cutB l).toArray⟩ : ByteArray) = CB at *
  generalize (⟨l.toArray⟩ : ByteArray) = S0 at *
  have c4' : ∀ w, Calls Tryd.prog 39 #[.string CB, .string ⟨#[47]⟩] w fun e w' => e = .returned (.tuple #[.string P3, .bool hp?]) ∧ w' = w := c4
  have hw3 : IntKind.i64.wrap ((b3 : Int) - 1) = (b3 : Int) - 1 := by rw [wrapI]; omega
  unfold dV at c7
  dsimp only at c7
  go_enter Tryd.func24, Tryd.ntmps24
  go_wp2_with fail
  refine (c1 _).mono ?_
  rintro e w1 ⟨⟨u, rfl⟩, q, hw⟩
  have hb1 : Below w.heap.size w w1 := by rw [hw]; exact below_drewN (below_new _ _) q
  have hA1 : At w1 w.heap.size 0 0 0 := by rw [hw]; exact (At.new w 0 0 0).drewN q
  clear hw c1
  go_wp2_with fail
  refine (hC _ hb1).mono ?_
  rintro e w2 ⟨rfl, hb2⟩
  have hbw2 := hb1.trans (hb2.mono hb1.size)
  have hA2 := hA1.below hb2
  clear hC hb2 hA1 hb1
  go_wp2_with fail
  refine (c2 _ (hT.below hbw2).er).mono ?_
  rintro e w3 ⟨rfl, hb3⟩
  have hbw3 := hbw2.trans (hb3.mono hbw2.size)
  have hA3 := hA2.below hb3
  clear c2 hb3 hA2 hbw2
  go_wp2_with fail
  refine (c3 _ (hT.below hbw3).er).mono ?_
  rintro e w4 ⟨rfl, hb4⟩
  have hbw4 := hbw3.trans (hb4.mono hbw3.size)
  have hA4 := hA3.below hb4
  have hK : w.heap.size < w4.heap.size := hA4.lt
  clear c3 hb4 hA3 hbw3
  have hDn := At.new w4 n1 n2 0
  have hRn := hA4.below (below_new w4 (dO n1 n2 0))
  have hbn := hbw4.trans ((below_new w4 (dO n1 n2 0)).mono hbw4.size)
  clear hA4
  go_wp2_with fail
  generalize w4.alloc (dO n1 n2 0) = W4 at *
  refine (c4' _).mono ?_
  rintro e w5 ⟨rfl, hw⟩
  obtain rfl := hw.symm
  clear c4 c4'
  cases hp?
  · rw [if_neg (by decide)] at hex
    subst hex
    have hD := hDn
    have hRD := hRn
    have hbD := hbn
    clear hDn hRn hbn c5 c6
    obtain ⟨g0, g1, g2⟩ := hD.cells
    go_wp2_with fail
    refine (c7 _ (hT.below hbD).ten).mono ?_
    rintro e w6 ⟨rfl, hb6⟩
    have hbw6 := hbD.trans (hb6.mono hbD.size)
    have hR6 := hRD.below hb6
    have hD6 := hD.below hb6
    clear g0 g1 g2 hb6 c7 hRD hD hbD
    obtain ⟨g0, g1, g2⟩ := hD6.cells
    rcases hcase with ⟨hp, hr⟩ | ⟨T, E, hp, hE, hr⟩
    · subst hp
      subst hr
      have hq : (S0.toList == S0.toList) = true := beq_self_eq_true _
      go_wp2_with (refine wpList_store_row rfl _ _ _ rfl w.heap.size _ rfl rfl _ _ hR6 (by exact infoD) (by rfl) (allD _ _ _) ?_)
      refine bodyPost_ret (results_ct rfl _ _ w.heap.size _ _ _ _ rfl (setRow_heap _ _ _ _ _ _ hR6) Tryd.underlying23 rfl (by exact infoD)) rfl ?_
      exact ⟨rfl, below_setRow hbw6 (by omega) _⟩
    · subst hp
      subst hr
      rcases hE with hE | ⟨hE, hq⟩
      · have hE' : (E == 0) = false := by rw [beq_eq_false_iff_ne]; exact hE
        have hE2 : (E != 0) = true := by rw [bne_iff_ne]; exact hE
        go_wp2_with (refine wpList_store_row rfl _ _ _ rfl w.heap.size _ rfl rfl _ _ hR6 (by exact infoD) (by rfl) (allD _ _ _) ?_)
        refine bodyPost_ret (results_ct rfl _ _ w.heap.size _ _ _ _ rfl (setRow_heap _ _ _ _ _ _ hR6) Tryd.underlying23 rfl (by exact infoD)) rfl ?_
        exact ⟨rfl, below_setRow hbw6 (by omega) _⟩
      · subst hE
        have hq2 : (T.toList != S0.toList) = true := by rw [bne, hq]; rfl
        go_wp2_with (refine wpList_store_row rfl _ _ _ rfl w.heap.size _ rfl rfl _ _ hR6 (by exact infoD) (by rfl) (allD _ _ _) ?_)
        refine bodyPost_ret (results_ct rfl _ _ w.heap.size _ _ _ _ rfl (setRow_heap _ _ _ _ _ _ hR6) Tryd.underlying23 rfl (by exact infoD)) rfl ?_
        exact ⟨rfl, below_setRow hbw6 (by omega) _⟩
  · rw [if_pos rfl] at hex
    subst hex
    go_wp2_with fail
    refine (c5 _ (hT.below hbn).er).mono ?_
    rintro e w5 ⟨rfl, hb5⟩
    have hD5 := hDn.below hb5
    have hRD := (hRn.below hb5).far ⟨w4.heap.size, 2, none⟩ (.int .i64 ((b3 : Int) - 1)) (by show w4.heap.size ≠ w.heap.size; omega)
    have hD : At (w5.setCell ⟨w4.heap.size, 2, none⟩ (.int .i64 ((b3 : Int) - 1))) w4.heap.size n1 n2 ((b3 : Int) - 1) := by
      unfold At
      rw [setCell_eq_setRow _ _ _ _ _ _ _ hD5]
      exact setRow_heap _ _ _ _ _ _ hD5
    have hbw5 := hbn.trans (hb5.mono hbn.size)
    have hbD : Below w.heap.size w (w5.setCell ⟨w4.heap.size, 2, none⟩ (.int .i64 ((b3 : Int) - 1))) := below_set hbw5 _ _ (by show w.heap.size ≤ w4.heap.size; omega)
    have fz := hD5.fz
    obtain ⟨f0, f1, f2⟩ := hD5.cells
    obtain ⟨g0, g1, g2⟩ := hD.cells
    clear c5 hb5 hDn hRn hbn
    go_wp2_with fail
    refine (c6 _).mono ?_
    rintro e w6 ⟨rfl, hw⟩
    obtain rfl := hw.symm
    clear c6
    go_wp2_with fail
    clear f0 f1 f2 fz
    generalize w5.setCell ⟨w4.heap.size, 2, none⟩ (.int .i64 ((b3 : Int) - 1)) = W5 at *
    refine (c7 _ (hT.below hbD).ten).mono ?_
    rintro e w6 ⟨rfl, hb6⟩
    have hbw6 := hbD.trans (hb6.mono hbD.size)
    have hR6 := hRD.below hb6
    have hD6 := hD.below hb6
    clear g0 g1 g2 hb6 c7 hRD hD hbD
    obtain ⟨g0, g1, g2⟩ := hD6.cells
    rcases hcase with ⟨hp, hr⟩ | ⟨T, E, hp, hE, hr⟩
    · subst hp
      subst hr
      have hq : (S0.toList == S0.toList) = true := beq_self_eq_true _
      go_wp2_with (refine wpList_store_row rfl _ _ _ rfl w.heap.size _ rfl rfl _ _ hR6 (by exact infoD) (by rfl) (allD _ _ _) ?_)
      refine bodyPost_ret (results_ct rfl _ _ w.heap.size _ _ _ _ rfl (setRow_heap _ _ _ _ _ _ hR6) Tryd.underlying23 rfl (by exact infoD)) rfl ?_
      exact ⟨rfl, below_setRow hbw6 (by omega) _⟩
    · subst hp
      subst hr
      rcases hE with hE | ⟨hE, hq⟩
      · have hE' : (E == 0) = false := by rw [beq_eq_false_iff_ne]; exact hE
        have hE2 : (E != 0) = true := by rw [bne_iff_ne]; exact hE
        go_wp2_with (refine wpList_store_row rfl _ _ _ rfl w.heap.size _ rfl rfl _ _ hR6 (by exact infoD) (by rfl) (allD _ _ _) ?_)
        refine bodyPost_ret (results_ct rfl _ _ w.heap.size _ _ _ _ rfl (setRow_heap _ _ _ _ _ _ hR6) Tryd.underlying23 rfl (by exact infoD)) rfl ?_
        exact ⟨rfl, below_setRow hbw6 (by omega) _⟩
      · subst hE
        have hq2 : (T.toList != S0.toList) = true := by rw [bne, hq]; rfl
        go_wp2_with (refine wpList_store_row rfl _ _ _ rfl w.heap.size _ rfl rfl _ _ hR6 (by exact infoD) (by rfl) (allD _ _ _) ?_)
        refine bodyPost_ret (results_ct rfl _ _ w.heap.size _ _ _ _ rfl (setRow_heap _ _ _ _ _ _ hR6) Tryd.underlying23 rfl (by exact infoD)) rfl ?_
        exact ⟨rfl, below_setRow hbw6 (by omega) _⟩
end Go.Proofs.YthpkmbgollollabDoor.Dy
