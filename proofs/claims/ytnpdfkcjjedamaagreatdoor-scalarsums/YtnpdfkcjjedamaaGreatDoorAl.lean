/- What alive asks, at its constants. -/
import Derived.Test.YtnpdfkcjjedamaaGreatDoorWe
import Derived.Test.YtnpdfkcjjedamaaGreatDoorRx
namespace Go.Proofs.YtnpdfkcjjedamaaGreatDoor.Sca
open Go.RowKit Go.Lib Go.Shelf

theorem k_split : slM 4622945017495814144 = 3 ∧ slE 4622945017495814144 = 2 ∧ spF 4622945017495814144 = 0 := by decide +kernel
theorem k_half : hEx 4613937818241073152 = true ∧ half 4613937818241073152 = 4609434218613702656 := by decide +kernel
theorem k_join : joinB (-3) (-2) = 13828302655841107968 := by decide +kernel
theorem k_exact : exB 4600427019358961664 3 = true ∧ exB 4600427019358961664 2 = false := by decide +kernel
theorem k_itoa1 : Lib.itoa (-1074) = [45, 49, 48, 55, 52] := by decide +kernel
theorem k_read1 : readB [45, 48, 120, 49, 46, 56, 112, 45, 49] = some 13828302655841107968 := by decide +kernel
theorem k_print1 : prB 13828302655841107968 = [45, 48, 120, 49, 46, 56, 112, 45, 49] := by decide +kernel
theorem k_print2 : prB 1 = [48, 120, 49, 112, 45, 49, 48, 55, 52] := by decide +kernel
theorem k_read2 : readB [49] = none := by decide +kernel
theorem val_inj : ∀ (a b : List Nat), a.length = b.length → (∀ (i : Nat) x, a[i]? = some x → x < 18446744073709551616) → (∀ (i : Nat) x, b[i]? = some x → x < 18446744073709551616) → val a = val b → a = b
  | [], [], _, _, _, _ => rfl
  | [], _ :: _, h, _, _, _ => by simp at h
  | _ :: _, [], h, _, _, _ => by simp at h
  | x :: a, y :: b, h, ha, hb, hv => by
    have hx := ha 0 x rfl
    have hy := hb 0 y rfl
    unfold val at hv
    have e : x = y := by omega
    subst e
    rw [val_inj a b (by simpa using h) (fun i z hz => ha (i + 1) z (by simpa using hz)) (fun i z hz => hb (i + 1) z (by simpa using hz)) (by omega)]
def three : List Nat := [4607182418800017408, 4845873199050653696, 14069245235905429504]
def words16 : List Nat := List.replicate 16 0 ++ [1125899906842624] ++ List.replicate 17 0
theorem k_sum : tsum three = 2 ^ 1074 := by decide +kernel
theorem k_words : val words16 = 2 ^ 1074 := by decide +kernel
theorem k_w16 : words16.length = 34 ∧ words16.all (fun x => x < 18446744073709551616) = true := by decide +kernel
theorem k_rnd : rndP words16 16 = 4607182418800017408 := by decide +kernel
theorem k_wd : ∀ k : Fin 34, k.val ≠ 16 → wd words16 k.val = 0 := by decide +kernel
theorem k_wd16 : wd words16 16 ≠ 0 := by decide +kernel
theorem k_fin : ∀ k : Fin 3, ∀ x, three[k.val]? = some x → x < 18446744073709551616 ∧ mg x < 9218868437227405312 := by
  intro k x h
  have : ∀ k : Fin 3, ((three[k.val]?).getD 0 < 18446744073709551616 ∧ mg ((three[k.val]?).getD 0) < 9218868437227405312) := by decide +kernel
  have := this k
  rw [h] at this
  exact this
theorem round_one (a : List Nat) (k : Nat) (hl : a.length = 34) (hlt : ∀ (i : Nat) x, a[i]? = some x → x < 18446744073709551616) (hv : val a = tsum three) (ht : Top a k) : rndP a k = 4607182418800017408 := by
  have e : a = words16 := val_inj a words16 (by rw [hl]; exact k_w16.1.symm) hlt (fun i x hx => by
    have := k_w16.2
    rw [List.all_eq_true] at this
    exact of_decide_eq_true (this x (List.mem_of_getElem? hx))) (by rw [hv, k_sum, k_words])
  subst e
  have hk : k = 16 := by
    rcases Nat.lt_trichotomy k 16 with h | h | h
    · exact absurd (ht.up 16 h (by omega)) k_wd16
    · exact h
    · rcases ht.nz with h0 | h0
      · omega
      · exact absurd (k_wd ⟨k, ht.lt⟩ (by simp; omega)) h0
  subst hk
  exact k_rnd
theorem Whole_c (w : World) (hT : Tz w) (g c : Nat) (h : w.heap[g]? = some (.cells #[.float .f64 4607182418800017408, .float .f64 4845873199050653696, .float .f64 14069245235905429504] 25 (0, 0))) :
    Calls Tryz.prog 9 #[.slice (some ⟨g, 0, none⟩) 3 c] w fun e w' => e = .returned (.float .f64 4607182418800017408) ∧ Below w.heap.size w w' := by
  refine (sWhole_pos g 0 3 c three w rfl (by omega) (fun i x hx => ?_) (fun i x hx => ?_) hT (by rw [k_sum]; exact Int.pow_pos (by decide)) (by rw [k_sum]; decide +kernel)).mono ?_
  · have hi : i < 3 := by
      have := (List.getElem?_eq_some_iff.1 hx).1
      exact this
    have : i = 0 ∨ i = 1 ∨ i = 2 := by omega
    rcases this with rfl | rfl | rfl <;> cases hx <;> simp [World.cell?, h]
  · have hi : i < 3 := (List.getElem?_eq_some_iff.1 hx).1
    exact k_fin ⟨i, hi⟩ x hx
  · rintro e w' ⟨a, k, hto, hv, htop, rfl, hb⟩
    exact ⟨by rw [round_one a k hto.len hto.lt hv htop], hb⟩
/-- All the tables that alive leans on. -/
structure Tb (w : World) : Prop where
  tz : Tz w
  tf : Tf w
  ten : T10 w
  er : Te w
theorem Tb.below {w w' : World} (h : Tb w) (hb : Below w.heap.size w w') : Tb w' := ⟨h.tz.below hb, h.tf.below hb, h.ten.below hb, h.er.below hb⟩
set_option maxRecDepth 100000 in
set_option maxHeartbeats 1000000 in
theorem alive_any (w : World) (hT : Tb w) : Calls Tryz.prog 15 #[] w fun e w' => e = .returned (.bool true) ∧ Below w.heap.size w w' := by
  have c1 : Calls Tryz.prog 23 #[.float .f64 4622945017495814144] w fun e w' => e = .returned (.tuple #[.int .i64 3, .int .i64 2, .int .i64 0]) ∧ w' = w := by
    have := sSplit 4622945017495814144 (by decide) w hT.tz
    rw [k_split.1, k_split.2.1, k_split.2.2] at this
    exact this
  have c2 : Calls Tryz.prog 20 #[.string ⟨#[45, 48, 120, 49, 46, 56, 112, 45, 49]⟩] w fun e w' => e = .returned (.tuple #[.float .f64 13828302655841107968, .int .i64 0]) ∧ Below w.heap.size w w' := by
    have := sParse [45, 48, 120, 49, 46, 56, 112, 45, 49] (by decide) w hT.er hT.tz hT.ten
    rw [show parOk [45, 48, 120, 49, 46, 56, 112, 45, 49] = true from by decide +kernel, k_read1] at this
    exact this
  have c3 := fun (w' : World) (hb : Below w.heap.size w w') => Fixed_c w' (hT.below hb).tf
  have c4 : ∀ w', Below w.heap.size w w' → Calls Tryz.prog 20 #[.string ⟨#[49]⟩] w' fun e w2 => e = .returned (.tuple #[.float .f64 0, .int .i64 20]) ∧ Below w'.heap.size w' w2 := fun w' hb => by
    have := sParse [49] (by decide) w' (hT.below hb).er (hT.below hb).tz (hT.below hb).ten
    rw [show parOk [49] = false from by decide +kernel] at this
    exact this
  have c5 : ∀ w', Calls Tryz.prog 37 #[.float .f64 4613937818241073152] w' fun e w2 => e = .returned (.tuple #[.float .f64 4609434218613702656, .bool true]) ∧ ∃ q, w2 = w'.drewN q := fun w' => by
    refine (sHalf 4613937818241073152 (by decide) w').mono ?_
    rintro e w2 ⟨⟨r, rfl, _, h1, _⟩, hq⟩
    have : r = 4609434218613702656 := by rw [h1 (by decide +kernel)]; exact k_half.2
    subst this
    rw [k_half.1]
    exact ⟨rfl, hq⟩
  have s1 : ∀ w, Calls Tryz.prog 10 #[.float .f64 13828302655841107968, .float .f64 13828302655841107968] w fun e w' => e = .returned (.bool true) ∧ w' = w := fun w => by
    have := kSame 13828302655841107968 13828302655841107968 (by decide) (by decide) w
    rw [beq_self_eq_true] at this
    exact this
  have s2 : ∀ w, Calls Tryz.prog 10 #[.float .f64 4609434218613702656, .float .f64 4609434218613702656] w fun e w' => e = .returned (.bool true) ∧ w' = w := fun w => by
    have := kSame 4609434218613702656 4609434218613702656 (by decide) (by decide) w
    rw [beq_self_eq_true] at this
    exact this
  have s3 : ∀ w, Calls Tryz.prog 10 #[.float .f64 1, .float .f64 1] w fun e w' => e = .returned (.bool true) ∧ w' = w := fun w => by
    have := kSame 1 1 (by decide) (by decide) w
    rw [beq_self_eq_true] at this
    exact this
  have s4 : ∀ w, Calls Tryz.prog 10 #[.float .f64 4607182418800017408, .float .f64 4607182418800017408] w fun e w' => e = .returned (.bool true) ∧ w' = w := fun w => by
    have := kSame 4607182418800017408 4607182418800017408 (by decide) (by decide) w
    rw [beq_self_eq_true] at this
    exact this
  have cJ : ∀ w, Calls Tryz.prog 38 #[.int .i64 (-3), .int .i64 (-2)] w fun e w' => e = .returned (.float .f64 13828302655841107968) ∧ ∃ q, w' = w.drewN q := fun w => by
    have := sJoin (-3) (-2) (by decide) (by decide) w
    rw [k_join] at this
    exact this
  have cN : ∀ w, Calls Tryz.prog 39 #[.float .f64 0, .bool true] w fun e w' => e = .returned (.float .f64 1) ∧ w' = w := fun w => by
    have := sNextU 0 (by decide) w
    rw [show nxU 0 = 1 from by decide +kernel] at this
    exact this
  have cP : ∀ w', Tb w' → Calls Tryz.prog 40 #[.float .f64 1] w' fun e w2 => e = .returned (.string ⟨#[48, 120, 49, 112, 45, 49, 48, 55, 52]⟩) ∧ Below w'.heap.size w' w2 := fun w' h => by
    have := sPrint 1 (by decide) w' h.tz h.ten
    rw [k_print2] at this
    exact this
  have cC : ∀ w, Calls Tryz.prog 41 #[.float .f64 4607182418800017408, .float .f64 4611686018427387904] w fun e w' => e = .returned (.int .i64 (-1)) ∧ w' = w := fun w => by
    have := sCompare 4607182418800017408 4611686018427387904 (by decide) (by decide) w
    rw [show cmp3 (rk (can 4607182418800017408)) (rk (can 4611686018427387904)) = -1 from by decide +kernel] at this
    exact this
  have cG : ∀ w, Calls Tryz.prog 25 #[.float .f64 13830554455654793216] w fun e w' => e = .returned (.bool true) ∧ w' = w := fun w => by
    have := sSigned 13830554455654793216 (by decide) w
    rw [show decide (sb (can 13830554455654793216) ≠ 0) = true from by decide +kernel] at this
    exact this
  have cE1 : ∀ w', Tb w' → Calls Tryz.prog 42 #[.float .f64 4600427019358961664, .int .i64 3] w' fun e w2 => e = .returned (.bool true) ∧ w2 = w' := fun w' h => by
    have := sExact 4600427019358961664 (by decide) 3 w' h.tz
    rw [k_exact.1] at this
    exact this
  have cE2 : ∀ w', Tb w' → Calls Tryz.prog 42 #[.float .f64 4600427019358961664, .int .i64 2] w' fun e w2 => e = .returned (.bool false) ∧ w2 = w' := fun w' h => by
    have := sExact 4600427019358961664 (by decide) 2 w' h.tz
    rw [k_exact.2] at this
    exact this
  have cK : ∀ w, Calls Tryz.prog 17 #[.float .f64 4607182418800017408] w fun e w' => e = .returned (.int .i64 5) ∧ w' = w := fun w => by
    have := sClass 4607182418800017408 (by decide) w
    rw [show clsOf 4607182418800017408 = 5 from by decide +kernel] at this
    exact this
  have cB : ∀ w, Calls Tryz.prog 43 #[.float .f64 4607182418800017408] w fun e w' => e = .returned (.int .u64 4607182418800017408) ∧ w' = w := fun w => by
    have := sBits 4607182418800017408 w
    rw [show can 4607182418800017408 = 4607182418800017408 from by decide +kernel] at this
    exact this
  go_enter Tryz.func15, Tryz.ntmps15
  go_wp2_with fail
  refine c1.mono ?_
  rintro e w' ⟨rfl, hw⟩
  obtain rfl := hw.symm
  go_wp2_with fail
  refine c2.mono ?_
  rintro e w2 ⟨rfl, hb2⟩
  go_wp2_with fail
  refine (c3 _ hb2).mono ?_
  rintro e w3 ⟨rfl, hb3'⟩
  have hb3 := hb2.trans (hb3'.mono hb2.size)
  clear hb3'
  go_wp2_with fail
  refine (c4 _ hb3).mono ?_
  rintro e w4 ⟨rfl, hb4'⟩
  have hb4 := hb3.trans (hb4'.mono hb3.size)
  clear hb4'
  go_wp2_with fail
  refine (c5 _).mono ?_
  rintro e w5 ⟨rfl, q5, rfl⟩
  have hb5 := below_drewN hb4 q5
  clear hb2 hb3 hb4 c1 c2 c3 c4 c5
  generalize w4.drewN q5 = w5 at *
  go_wp2_with (go_at_call 16; refine (sOf 1 _).mono ?_; rintro e w' ⟨rfl, hw⟩; obtain rfl := hw.symm)
  refine (kNum _ _).mono ?_
  rintro e w' ⟨rfl, hw⟩
  obtain rfl := hw.symm
  go_wp2_with fail
  refine (s1 _).mono ?_
  rintro e w' ⟨rfl, hw⟩
  obtain rfl := hw.symm
  go_wp2_with fail
  refine (kNum _ _).mono ?_
  rintro e w' ⟨rfl, hw⟩
  obtain rfl := hw.symm
  go_wp2_with fail
  refine (kNum _ _).mono ?_
  rintro e w' ⟨rfl, hw⟩
  obtain rfl := hw.symm
  go_wp2_with fail
  refine (kNum _ _).mono ?_
  rintro e w' ⟨rfl, hw⟩
  obtain rfl := hw.symm
  go_wp2_with fail
  refine (s2 _).mono ?_
  rintro e w' ⟨rfl, hw⟩
  obtain rfl := hw.symm
  go_wp2_with fail
  refine (cJ _).mono ?_
  rintro e w6 ⟨rfl, q6, rfl⟩
  have hb6 := below_drewN hb5 q6
  generalize w5.drewN q6 = w6 at *
  clear hb5
  go_wp2_with fail
  refine (s1 _).mono ?_
  rintro e w' ⟨rfl, hw⟩
  obtain rfl := hw.symm
  go_wp2_with fail
  refine (cN _).mono ?_
  rintro e w' ⟨rfl, hw⟩
  obtain rfl := hw.symm
  go_wp2_with fail
  refine (s3 _).mono ?_
  rintro e w' ⟨rfl, hw⟩
  obtain rfl := hw.symm
  go_wp2_with fail
  refine (cP _ (hT.below hb6)).mono ?_
  rintro e w7 ⟨rfl, hb7'⟩
  have hb7 := hb6.trans (hb7'.mono hb6.size)
  clear hb6 hb7'
  go_wp2_with fail
  obtain ⟨W, hW⟩ : ∃ W, w7.alloc (.cells #[.float .f64 4607182418800017408, .float .f64 4845873199050653696, .float .f64 14069245235905429504] 25) = W := ⟨_, rfl⟩
  have hblk : W.heap[w7.heap.size]? = some (.cells #[.float .f64 4607182418800017408, .float .f64 4845873199050653696, .float .f64 14069245235905429504] 25 (0, 0)) := by rw [← hW]; exact heap_alloc_new w7 _
  have hbW : Below w.heap.size w W := hb7.trans (hW ▸ (Below.refl _ _).alloc hb7.size _)
  rw [hW]
  clear hW hb7
  refine (Whole_c W (hT.below hbW).tz _ _ hblk).mono ?_
  rintro e w8 ⟨rfl, hb8'⟩
  have hb8 := hbW.trans (hb8'.mono hbW.size)
  clear hbW hb8' hblk
  go_wp2_with fail
  refine (s4 _).mono ?_
  rintro e w' ⟨rfl, hw⟩
  obtain rfl := hw.symm
  go_wp2_with fail
  refine (cC _).mono ?_
  rintro e w' ⟨rfl, hw⟩
  obtain rfl := hw.symm
  go_wp2_with fail
  refine (cG _).mono ?_
  rintro e w' ⟨rfl, hw⟩
  obtain rfl := hw.symm
  go_wp2_with fail
  refine (cE1 _ (hT.below hb8)).mono ?_
  rintro e w' ⟨rfl, hw⟩
  obtain rfl := hw.symm
  go_wp2_with fail
  refine (cE2 _ (hT.below hb8)).mono ?_
  rintro e w' ⟨rfl, hw⟩
  obtain rfl := hw.symm
  go_wp2_with fail
  refine (cK _).mono ?_
  rintro e w' ⟨rfl, hw⟩
  obtain rfl := hw.symm
  go_wp2_with fail
  refine (cB _).mono ?_
  rintro e w' ⟨rfl, hw⟩
  obtain rfl := hw.symm
  go_wp2
  go_ret
  exact ⟨rfl, hb8⟩
end Go.Proofs.YtnpdfkcjjedamaaGreatDoor.Sca
