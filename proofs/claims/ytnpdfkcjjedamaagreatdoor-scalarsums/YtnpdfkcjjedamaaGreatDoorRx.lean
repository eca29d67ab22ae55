/- read and Parse, as they are walked. -/
import Derived.Test.YtnpdfkcjjedamaaGreatDoorRc
namespace Go.Proofs.YtnpdfkcjjedamaaGreatDoor.Sca
open Go.RowKit Go.Lib Go.Shelf Go.Proofs.YtnpdfkcjjedamaaGreatDoor.Oct

theorem list_eq (l m : List UInt8) : ((⟨l.toArray⟩ : ByteArray).toList == m) = decide (l = m) := by
  rw [ByteArray.toList_eq]
  show (l == m) = decide (l = m)
  by_cases h : l = m
  · rw [decide_eq_true h, beq_iff_eq]; exact h
  · rw [decide_eq_false h, beq_eq_false_iff_ne]; exact h
/-- What stands behind the sign, and behind 0x1. -/
def mid (l : List UInt8) : List UInt8 := Lib.trimPrefix (Lib.trimPrefix l [45]) [48, 120, 49]
def behind (l : List UInt8) : List UInt8 := Lib.trimPrefix (cutA (mid l)) [46]
def power (l : List UInt8) : List UInt8 := cutB (mid l)
/-- What read answers of a text that is none of the five short ones. -/
def readN (l : List UInt8) : Option Nat := match pi (49 :: behind l) with
  | .ok m => match atoiOk (power l) with
    | some e => some (joinB (if Lib.hasPrefix l [45] then -(m : Int) else (m : Int)) (Go.RowKit.wrap64 (e - 4 * ((behind l).length : Int))))
    | none => none
  | _ => none
def readB (l : List UInt8) : Option Nat :=
  if l = [110, 97, 110] then some 9221120237041090561 else if l = [105, 110, 102] then some 9218868437227405312 else if l = [45, 105, 110, 102] then some 18442240474082181120 else if l = [48] then some 0 else if l = [45, 48] then some 9223372036854775808 else readN l
theorem pi_lt {l : List UInt8} {m : Nat} (h : pi l = .ok m) : m < 9223372036854775808 := by
  unfold pi at h
  cases hp : pu 0 l with
  | ok n =>
    rw [hp] at h
    have h' : (if 9223372036854775808 ≤ n then Rd.far else Rd.ok n) = .ok m := h
    split at h'
    · cases h'
    · cases h'; omega
  | bad => rw [hp] at h; cases h
  | far => rw [hp] at h; cases h
theorem trim_len (l p : List UInt8) : (Lib.trimPrefix l p).length ≤ l.length := by
  unfold Lib.trimPrefix
  split
  · rw [List.length_drop]; omega
  · exact Nat.le_refl _
theorem cutA_len (l : List UInt8) : (cutA l).length ≤ l.length := by
  unfold cutA
  split
  · exact Nat.le_refl _
  · rw [List.length_take]; omega
theorem cutB_len (l : List UInt8) : (cutB l).length ≤ l.length := by
  unfold cutB
  split
  · simp
  · rw [List.length_drop]; omega
theorem rdT_nan (w : World) : Calls Tryz.prog 44 #[.string ⟨([110, 97, 110] : List UInt8).toArray⟩] w fun e w' => e = .returned (.tuple #[.float .f64 9221120237041090561, .bool true]) ∧ Below w.heap.size w w' := by
  have h_nan : ((⟨([110, 97, 110] : List UInt8).toArray⟩ : ByteArray).toList == [110, 97, 110]) = true := by rw [list_eq]; exact decide_eq_true rfl
  generalize (⟨([110, 97, 110] : List UInt8).toArray⟩ : ByteArray) = s at *
  go_enter Tryz.func44, Tryz.ntmps44
  go_wp2_with (go_at_call 16; refine (sOf 9221120237041090561 _).mono ?_; rintro e w' ⟨rfl, rfl⟩)
  go_ret2
  exact ⟨rfl, Below.refl _ _⟩
theorem rdT_inf (w : World) : Calls Tryz.prog 44 #[.string ⟨([105, 110, 102] : List UInt8).toArray⟩] w fun e w' => e = .returned (.tuple #[.float .f64 9218868437227405312, .bool true]) ∧ Below w.heap.size w w' := by
  have h_nan : ((⟨([105, 110, 102] : List UInt8).toArray⟩ : ByteArray).toList == [110, 97, 110]) = false := by rw [list_eq]; exact decide_eq_false (by decide)
  have h_inf : ((⟨([105, 110, 102] : List UInt8).toArray⟩ : ByteArray).toList == [105, 110, 102]) = true := by rw [list_eq]; exact decide_eq_true rfl
  generalize (⟨([105, 110, 102] : List UInt8).toArray⟩ : ByteArray) = s at *
  go_enter Tryz.func44, Tryz.ntmps44
  go_wp2_with (go_at_call 16; refine (sOf 9218868437227405312 _).mono ?_; rintro e w' ⟨rfl, rfl⟩)
  go_ret2
  exact ⟨rfl, Below.refl _ _⟩
theorem rdT_ninf (w : World) : Calls Tryz.prog 44 #[.string ⟨([45, 105, 110, 102] : List UInt8).toArray⟩] w fun e w' => e = .returned (.tuple #[.float .f64 18442240474082181120, .bool true]) ∧ Below w.heap.size w w' := by
  have h_nan : ((⟨([45, 105, 110, 102] : List UInt8).toArray⟩ : ByteArray).toList == [110, 97, 110]) = false := by rw [list_eq]; exact decide_eq_false (by decide)
  have h_inf : ((⟨([45, 105, 110, 102] : List UInt8).toArray⟩ : ByteArray).toList == [105, 110, 102]) = false := by rw [list_eq]; exact decide_eq_false (by decide)
  have h_ninf : ((⟨([45, 105, 110, 102] : List UInt8).toArray⟩ : ByteArray).toList == [45, 105, 110, 102]) = true := by rw [list_eq]; exact decide_eq_true rfl
  generalize (⟨([45, 105, 110, 102] : List UInt8).toArray⟩ : ByteArray) = s at *
  go_enter Tryz.func44, Tryz.ntmps44
  go_wp2_with (go_at_call 16; refine (sOf 18442240474082181120 _).mono ?_; rintro e w' ⟨rfl, rfl⟩)
  go_ret2
  exact ⟨rfl, Below.refl _ _⟩
theorem rdT_zero (w : World) : Calls Tryz.prog 44 #[.string ⟨([48] : List UInt8).toArray⟩] w fun e w' => e = .returned (.tuple #[.float .f64 0, .bool true]) ∧ Below w.heap.size w w' := by
  have h_nan : ((⟨([48] : List UInt8).toArray⟩ : ByteArray).toList == [110, 97, 110]) = false := by rw [list_eq]; exact decide_eq_false (by decide)
  have h_inf : ((⟨([48] : List UInt8).toArray⟩ : ByteArray).toList == [105, 110, 102]) = false := by rw [list_eq]; exact decide_eq_false (by decide)
  have h_ninf : ((⟨([48] : List UInt8).toArray⟩ : ByteArray).toList == [45, 105, 110, 102]) = false := by rw [list_eq]; exact decide_eq_false (by decide)
  have h_zero : ((⟨([48] : List UInt8).toArray⟩ : ByteArray).toList == [48]) = true := by rw [list_eq]; exact decide_eq_true rfl
  generalize (⟨([48] : List UInt8).toArray⟩ : ByteArray) = s at *
  go_enter Tryz.func44, Tryz.ntmps44
  go_wp2_with (go_at_call 16; refine (sOf 0 _).mono ?_; rintro e w' ⟨rfl, rfl⟩)
  go_ret2
  exact ⟨rfl, Below.refl _ _⟩
theorem rdT_nzero (w : World) : Calls Tryz.prog 44 #[.string ⟨([45, 48] : List UInt8).toArray⟩] w fun e w' => e = .returned (.tuple #[.float .f64 9223372036854775808, .bool true]) ∧ Below w.heap.size w w' := by
  have h_nan : ((⟨([45, 48] : List UInt8).toArray⟩ : ByteArray).toList == [110, 97, 110]) = false := by rw [list_eq]; exact decide_eq_false (by decide)
  have h_inf : ((⟨([45, 48] : List UInt8).toArray⟩ : ByteArray).toList == [105, 110, 102]) = false := by rw [list_eq]; exact decide_eq_false (by decide)
  have h_ninf : ((⟨([45, 48] : List UInt8).toArray⟩ : ByteArray).toList == [45, 105, 110, 102]) = false := by rw [list_eq]; exact decide_eq_false (by decide)
  have h_zero : ((⟨([45, 48] : List UInt8).toArray⟩ : ByteArray).toList == [48]) = false := by rw [list_eq]; exact decide_eq_false (by decide)
  have h_nzero : ((⟨([45, 48] : List UInt8).toArray⟩ : ByteArray).toList == [45, 48]) = true := by rw [list_eq]; exact decide_eq_true rfl
  generalize (⟨([45, 48] : List UInt8).toArray⟩ : ByteArray) = s at *
  go_enter Tryz.func44, Tryz.ntmps44
  go_wp2_with (go_at_call 16; refine (sOf 9223372036854775808 _).mono ?_; rintro e w' ⟨rfl, rfl⟩)
  go_ret2
  exact ⟨rfl, Below.refl _ _⟩
set_option maxRecDepth 100000 in
theorem rdT_num (l : List UInt8) (hl : l.length ≤ 140737488351232) (h1 : l ≠ [110, 97, 110]) (h2 : l ≠ [105, 110, 102]) (h3 : l ≠ [45, 105, 110, 102]) (h4 : l ≠ [48]) (h5 : l ≠ [45, 48]) (w : World) (hT : Te w) :
    Calls Tryz.prog 44 #[.string ⟨l.toArray⟩] w fun e w' => e = .returned (.tuple #[.float .f64 ((readN l).getD 0), .bool (readN l).isSome]) ∧ Below w.heap.size w w' := by
  have k1 : ((⟨l.toArray⟩ : ByteArray).toList == [110, 97, 110]) = false := by rw [list_eq]; exact decide_eq_false h1
  have k2 : ((⟨l.toArray⟩ : ByteArray).toList == [105, 110, 102]) = false := by rw [list_eq]; exact decide_eq_false h2
  have k3 : ((⟨l.toArray⟩ : ByteArray).toList == [45, 105, 110, 102]) = false := by rw [list_eq]; exact decide_eq_false h3
  have k4 : ((⟨l.toArray⟩ : ByteArray).toList == [48]) = false := by rw [list_eq]; exact decide_eq_false h4
  have k5 : ((⟨l.toArray⟩ : ByteArray).toList == [45, 48]) = false := by rw [list_eq]; exact decide_eq_false h5
  have c1 : ∀ w, Calls Tryz.prog 64 #[.string ⟨l.toArray⟩, .string ⟨#[45]⟩] w fun e w' => e = .returned (.tuple #[.string ⟨(Lib.trimPrefix l [45]).toArray⟩, .bool (Lib.hasPrefix l [45])]) ∧ w' = w := fun w => sCutPrefix l [45] w
  have c2 : ∀ w, Calls Tryz.prog 66 #[.string ⟨(Lib.trimPrefix l [45]).toArray⟩, .string ⟨#[48, 120, 49]⟩] w fun e w' => e = .returned (.string ⟨(mid l).toArray⟩) ∧ w' = w := fun w => sTrimPrefix (Lib.trimPrefix l [45]) [48, 120, 49] w
  have hm : (mid l).length ≤ l.length := Nat.le_trans (trim_len _ _) (trim_len _ _)
  have c3 := fun w => sCut (mid l) (by omega) w
  have c4 : ∀ w, Calls Tryz.prog 66 #[.string ⟨(cutA (mid l)).toArray⟩, .string ⟨#[46]⟩] w fun e w' => e = .returned (.string ⟨(behind l).toArray⟩) ∧ w' = w := fun w => sTrimPrefix (cutA (mid l)) [46] w
  have hbh : (behind l).length ≤ l.length := Nat.le_trans (trim_len _ _) (Nat.le_trans (cutA_len _) hm)
  have hpw : (power l).length ≤ l.length := Nat.le_trans (cutB_len _) hm
  have hlen : (⟨(behind l).toArray⟩ : ByteArray).size = (behind l).length := by show (behind l).toArray.size = _; simp
  have ha : ∀ w, (Op.stringOp .add ⟨#[49]⟩ ⟨(behind l).toArray⟩).run Tryz.prog w = .ok (.string ⟨(49 :: behind l).toArray⟩) w := fun w => by
    refine (run_string_add_sum (P := Tryz.prog) w ⟨#[49]⟩ ⟨(behind l).toArray⟩ (by show 1 + (behind l).toArray.size ≤ _; simp; omega)).trans ?_
    rw [show (⟨#[49]⟩ ++ ⟨(behind l).toArray⟩ : ByteArray) = ⟨(49 :: behind l).toArray⟩ from by apply ByteArray.ext; simp [ByteArray.data_append]]
  have cok := fun n hn w => ParseInt_ok (behind l) (by omega) n hn w
  have cer := fun hn w => ParseInt_err (behind l) (by omega) hn w
  have aok := fun v hv w => Atoi_ok (power l) (by omega) v hv w
  have aer := fun hv w => Atoi_err (power l) (by omega) hv w
  change ∀ w, Calls Tryz.prog 65 #[.string ⟨(mid l).toArray⟩, .string ⟨#[112]⟩] w fun e w' => (∃ x, e = .returned (.tuple #[.string ⟨(cutA (mid l)).toArray⟩, .string ⟨(power l).toArray⟩, .bool x])) ∧ ∃ q, w' = w.drewN q at c3
  unfold readN
  cases hp : pi (49 :: behind l) with
  | ok m =>
    have hm63 := pi_lt hp
    have cI := cok m hp
    cases hq : atoiOk (power l) with
    | none =>
      have cA := aer hq
      show Calls _ _ _ _ fun e w' => e = .returned (.tuple #[.float .f64 0, .bool false]) ∧ _
      clear hp hq cok cer aok aer h1 h2 h3 h4 h5
      generalize Lib.hasPrefix l [45] = sgn at *
      generalize (⟨(49 :: behind l).toArray⟩ : ByteArray) = s5 at *
      generalize (⟨(behind l).toArray⟩ : ByteArray) = s4 at *
      generalize (⟨(cutA (mid l)).toArray⟩ : ByteArray) = s3 at *
      generalize (⟨(power l).toArray⟩ : ByteArray) = s3b at *
      generalize (⟨(mid l).toArray⟩ : ByteArray) = s2 at *
      generalize (⟨(Lib.trimPrefix l [45]).toArray⟩ : ByteArray) = s1 at *
      generalize (⟨l.toArray⟩ : ByteArray) = s0 at *
      go_enter Tryz.func44, Tryz.ntmps44
      go_wp2_with (go_at_call 64; refine (c1 _).mono ?_; rintro e w' ⟨rfl, hw⟩; obtain rfl := hw.symm)
      refine (c2 _).mono ?_
      rintro e w' ⟨rfl, hw⟩; obtain rfl := hw.symm
      go_wp2_with fail
      refine (c3 _).mono ?_
      rintro e w' ⟨⟨x, rfl⟩, q, rfl⟩
      go_wp2_with fail
      refine (c4 _).mono ?_
      rintro e w' ⟨rfl, hw⟩; obtain rfl := hw.symm
      go_wp2_with fail
      refine (cI _).mono ?_
      rintro e w3 ⟨rfl, hb3⟩
      have hT3 := (hT.below (below_drewN (Below.refl _ _) q)).below hb3
      have Hb3 : Hid (Below w.heap.size w w3) := (below_drewN (Below.refl w.heap.size w) q).trans hb3
      clear hb3
      go_wp2_with fail
      refine (cA _ hT3).mono ?_
      rintro e w4 ⟨⟨v, N, rfl⟩, hb4⟩
      go_wp2
      go_ret2
      exact ⟨rfl, Hb3.out.trans (hb4.mono Hb3.out.size)⟩
    | some v =>
      have cA := aok v hq
      show Calls _ _ _ _ fun e w' => e = .returned (.tuple #[.float .f64 (joinB (if Lib.hasPrefix l [45] then -(m : Int) else (m : Int)) (Go.RowKit.wrap64 (v - 4 * ((behind l).length : Int)))), .bool true]) ∧ _
      have cJ := fun w => sJoin (if Lib.hasPrefix l [45] then -(m : Int) else (m : Int)) (Go.RowKit.wrap64 (v - 4 * ((behind l).length : Int))) (by split <;> omega) (by split <;> omega) w
      clear hp hq cok cer aok aer h1 h2 h3 h4 h5
      generalize hbl : (behind l).length = n at *
      cases hsg : Lib.hasPrefix l [45]
      · rw [hsg] at c1 cJ
        rw [if_neg (by decide)] at cJ ⊢
        generalize joinB (m : Int) (Go.RowKit.wrap64 (v - 4 * (n : Int))) = jb at *
        clear hbl hsg
        generalize (⟨(49 :: behind l).toArray⟩ : ByteArray) = s5 at *
        generalize (⟨(behind l).toArray⟩ : ByteArray) = s4 at *
        generalize (⟨(cutA (mid l)).toArray⟩ : ByteArray) = s3 at *
        generalize (⟨(power l).toArray⟩ : ByteArray) = s3b at *
        generalize (⟨(mid l).toArray⟩ : ByteArray) = s2 at *
        generalize (⟨(Lib.trimPrefix l [45]).toArray⟩ : ByteArray) = s1 at *
        generalize (⟨l.toArray⟩ : ByteArray) = s0 at *
        go_enter Tryz.func44, Tryz.ntmps44
        go_wp2_with (go_at_call 64; refine (c1 _).mono ?_; rintro e w' ⟨rfl, hw⟩; obtain rfl := hw.symm)
        refine (c2 _).mono ?_
        rintro e w' ⟨rfl, hw⟩; obtain rfl := hw.symm
        go_wp2_with fail
        refine (c3 _).mono ?_
        rintro e w' ⟨⟨x, rfl⟩, q, rfl⟩
        go_wp2_with fail
        refine (c4 _).mono ?_
        rintro e w' ⟨rfl, hw⟩; obtain rfl := hw.symm
        go_wp2_with fail
        refine (cI _).mono ?_
        rintro e w3 ⟨rfl, hb3⟩
        have hT3 := (hT.below (below_drewN (Below.refl _ _) q)).below hb3
        have Hb3 : Hid (Below w.heap.size w w3) := (below_drewN (Below.refl w.heap.size w) q).trans hb3
        clear hb3
        go_wp2_with fail
        refine (cA _).mono ?_
        rintro e w4 ⟨rfl, hb4⟩
        go_wp2_with fail
        refine (cJ _).mono ?_
        rintro e w5 ⟨rfl, q5, rfl⟩
        go_wp2
        go_ret2
        exact ⟨rfl, below_drewN (Hb3.out.trans (hb4.mono Hb3.out.size)) _⟩
      · rw [hsg] at c1 cJ
        rw [if_pos rfl] at cJ ⊢
        generalize joinB (-(m : Int)) (Go.RowKit.wrap64 (v - 4 * (n : Int))) = jb at *
        clear hbl hsg
        generalize (⟨(49 :: behind l).toArray⟩ : ByteArray) = s5 at *
        generalize (⟨(behind l).toArray⟩ : ByteArray) = s4 at *
        generalize (⟨(cutA (mid l)).toArray⟩ : ByteArray) = s3 at *
        generalize (⟨(power l).toArray⟩ : ByteArray) = s3b at *
        generalize (⟨(mid l).toArray⟩ : ByteArray) = s2 at *
        generalize (⟨(Lib.trimPrefix l [45]).toArray⟩ : ByteArray) = s1 at *
        generalize (⟨l.toArray⟩ : ByteArray) = s0 at *
        go_enter Tryz.func44, Tryz.ntmps44
        go_wp2_with (go_at_call 64; refine (c1 _).mono ?_; rintro e w' ⟨rfl, hw⟩; obtain rfl := hw.symm)
        refine (c2 _).mono ?_
        rintro e w' ⟨rfl, hw⟩; obtain rfl := hw.symm
        go_wp2_with fail
        refine (c3 _).mono ?_
        rintro e w' ⟨⟨x, rfl⟩, q, rfl⟩
        go_wp2_with fail
        refine (c4 _).mono ?_
        rintro e w' ⟨rfl, hw⟩; obtain rfl := hw.symm
        go_wp2_with fail
        refine (cI _).mono ?_
        rintro e w3 ⟨rfl, hb3⟩
        have hT3 := (hT.below (below_drewN (Below.refl _ _) q)).below hb3
        have Hb3 : Hid (Below w.heap.size w w3) := (below_drewN (Below.refl w.heap.size w) q).trans hb3
        clear hb3
        go_wp2_with fail
        refine (cA _).mono ?_
        rintro e w4 ⟨rfl, hb4⟩
        go_wp2_with fail
        refine (cJ _).mono ?_
        rintro e w5 ⟨rfl, q5, rfl⟩
        go_wp2
        go_ret2
        exact ⟨rfl, below_drewN (Hb3.out.trans (hb4.mono Hb3.out.size)) _⟩
  | bad =>
    have cI := cer (.inl hp)
    show Calls _ _ _ _ fun e w' => e = .returned (.tuple #[.float .f64 0, .bool false]) ∧ _
    clear hp cok cer aok aer h1 h2 h3 h4 h5
    generalize Lib.hasPrefix l [45] = sgn at *
    generalize (⟨(49 :: behind l).toArray⟩ : ByteArray) = s5 at *
    generalize (⟨(behind l).toArray⟩ : ByteArray) = s4 at *
    generalize (⟨(cutA (mid l)).toArray⟩ : ByteArray) = s3 at *
    generalize (⟨(power l).toArray⟩ : ByteArray) = s3b at *
    generalize (⟨(mid l).toArray⟩ : ByteArray) = s2 at *
    generalize (⟨(Lib.trimPrefix l [45]).toArray⟩ : ByteArray) = s1 at *
    generalize (⟨l.toArray⟩ : ByteArray) = s0 at *
    go_enter Tryz.func44, Tryz.ntmps44
    go_wp2_with (go_at_call 64; refine (c1 _).mono ?_; rintro e w' ⟨rfl, hw⟩; obtain rfl := hw.symm)
    refine (c2 _).mono ?_
    rintro e w' ⟨rfl, hw⟩; obtain rfl := hw.symm
    go_wp2_with fail
    refine (c3 _).mono ?_
    rintro e w' ⟨⟨x, rfl⟩, q, rfl⟩
    go_wp2_with fail
    refine (c4 _).mono ?_
    rintro e w' ⟨rfl, hw⟩; obtain rfl := hw.symm
    go_wp2_with fail
    refine (cI _ (hT.below (below_drewN (Below.refl _ _) _))).mono ?_
    rintro e w3 ⟨⟨v, N, rfl⟩, hb3⟩
    go_wp2
    go_ret2
    exact ⟨rfl, (below_drewN (Below.refl _ _) _).trans hb3⟩
  | far =>
    have cI := cer (.inr hp)
    show Calls _ _ _ _ fun e w' => e = .returned (.tuple #[.float .f64 0, .bool false]) ∧ _
    clear hp cok cer aok aer h1 h2 h3 h4 h5
    generalize Lib.hasPrefix l [45] = sgn at *
    generalize (⟨(49 :: behind l).toArray⟩ : ByteArray) = s5 at *
    generalize (⟨(behind l).toArray⟩ : ByteArray) = s4 at *
    generalize (⟨(cutA (mid l)).toArray⟩ : ByteArray) = s3 at *
    generalize (⟨(power l).toArray⟩ : ByteArray) = s3b at *
    generalize (⟨(mid l).toArray⟩ : ByteArray) = s2 at *
    generalize (⟨(Lib.trimPrefix l [45]).toArray⟩ : ByteArray) = s1 at *
    generalize (⟨l.toArray⟩ : ByteArray) = s0 at *
    go_enter Tryz.func44, Tryz.ntmps44
    go_wp2_with (go_at_call 64; refine (c1 _).mono ?_; rintro e w' ⟨rfl, hw⟩; obtain rfl := hw.symm)
    refine (c2 _).mono ?_
    rintro e w' ⟨rfl, hw⟩; obtain rfl := hw.symm
    go_wp2_with fail
    refine (c3 _).mono ?_
    rintro e w' ⟨⟨x, rfl⟩, q, rfl⟩
    go_wp2_with fail
    refine (c4 _).mono ?_
    rintro e w' ⟨rfl, hw⟩; obtain rfl := hw.symm
    go_wp2_with fail
    refine (cI _ (hT.below (below_drewN (Below.refl _ _) _))).mono ?_
    rintro e w3 ⟨⟨v, N, rfl⟩, hb3⟩
    go_wp2
    go_ret2
    exact ⟨rfl, (below_drewN (Below.refl _ _) _).trans hb3⟩
/-- read, whole. -/
theorem sRead (l : List UInt8) (hl : l.length ≤ 140737488351232) (w : World) (hT : Te w) :
    Calls Tryz.prog 44 #[.string ⟨l.toArray⟩] w fun e w' => e = .returned (.tuple #[.float .f64 ((readB l).getD 0), .bool (readB l).isSome]) ∧ Below w.heap.size w w' := by
  unfold readB
  by_cases h1 : l = [110, 97, 110]
  · rw [if_pos h1, h1]; exact rdT_nan w
  rw [if_neg h1]
  by_cases h2 : l = [105, 110, 102]
  · rw [if_pos h2, h2]; exact rdT_inf w
  rw [if_neg h2]
  by_cases h3 : l = [45, 105, 110, 102]
  · rw [if_pos h3, h3]; exact rdT_ninf w
  rw [if_neg h3]
  by_cases h4 : l = [48]
  · rw [if_pos h4, h4]; exact rdT_zero w
  rw [if_neg h4]
  by_cases h5 : l = [45, 48]
  · rw [if_pos h5, h5]; exact rdT_nzero w
  rw [if_neg h5]
  exact rdT_num l hl h1 h2 h3 h4 h5 w hT
theorem join_lt (m e : Int) : joinB m e < 18446744073709551616 := by
  have := rung_le m.natAbs e
  unfold joinB
  split <;> omega
theorem readB_lt (l : List UInt8) : (readB l).getD 0 < 18446744073709551616 := by
  unfold readB
  split
  · decide
  split
  · decide
  split
  · decide
  split
  · decide
  split
  · decide
  unfold readN
  split
  · split
    · exact join_lt _ _
    · decide
  · decide
/-- What Parse answers: the bits, and whether the text is taken. -/
def parOk (l : List UInt8) : Bool := (readB l).isSome && decide (prB ((readB l).getD 0) = l)
theorem sParse (l : List UInt8) (hl : l.length ≤ 140737488351232) (w : World) (hT : Te w) (hz : Tz w) (h10 : T10 w) :
    Calls Tryz.prog 20 #[.string ⟨l.toArray⟩] w fun e w' => e = .returned (.tuple #[.float .f64 (if parOk l then (readB l).getD 0 else 0), .int .i64 (if parOk l then 0 else 20)]) ∧ Below w.heap.size w w' := by
  have cR := sRead l hl w hT
  have hlt := readB_lt l
  have cP := fun (w' : World) (hb : Below w.heap.size w w') => sPrint ((readB l).getD 0) hlt w' (hz.below hb) (h10.below hb)
  unfold parOk
  cases ho : (readB l).isSome
  · rw [ho] at cR
    rw [Bool.false_and, if_neg (by decide), if_neg (by decide)]
    generalize (readB l).getD 0 = x at *
    clear ho cP
    generalize (⟨l.toArray⟩ : ByteArray) = s at *
    go_enter Tryz.func20, Tryz.ntmps20
    go_wp2_with fail
    refine cR.mono ?_
    rintro e w1 ⟨rfl, hb⟩
    go_wp2
    go_ret2
    exact ⟨rfl, hb⟩
  · rw [ho] at cR
    rw [Bool.true_and]
    generalize (readB l).getD 0 = x at *
    clear ho
    by_cases hp : prB x = l
    · have hne : ((⟨(prB x).toArray⟩ : ByteArray).toList != (⟨l.toArray⟩ : ByteArray).toList) = false := by rw [hp]; simp
      have hne2 : ((⟨(prB x).toArray⟩ : ByteArray).toList == (⟨l.toArray⟩ : ByteArray).toList) = true := by rw [hp]; simp
      rw [decide_eq_true hp, if_pos rfl, if_pos rfl]
      generalize (⟨(prB x).toArray⟩ : ByteArray) = s2 at *
      generalize (⟨l.toArray⟩ : ByteArray) = s at *
      clear hp
      go_enter Tryz.func20, Tryz.ntmps20
      go_wp2_with fail
      refine cR.mono ?_
      rintro e w1 ⟨rfl, hb⟩
      go_wp2_with fail
      refine (cP _ hb).mono ?_
      rintro e w2 ⟨rfl, hb2⟩
      go_wp2
      go_ret2
      exact ⟨rfl, hb.trans (hb2.mono hb.size)⟩
    · have hne2 : ((⟨(prB x).toArray⟩ : ByteArray).toList == (⟨l.toArray⟩ : ByteArray).toList) = false := by
        rw [ByteArray.toList_eq, ByteArray.toList_eq]
        show (prB x == l) = false
        rw [beq_eq_false_iff_ne]
        exact hp
      have hne : ((⟨(prB x).toArray⟩ : ByteArray).toList != (⟨l.toArray⟩ : ByteArray).toList) = true := by unfold bne; rw [hne2]; rfl
      rw [decide_eq_false hp, if_neg (by decide), if_neg (by decide)]
      generalize (⟨(prB x).toArray⟩ : ByteArray) = s2 at *
      generalize (⟨l.toArray⟩ : ByteArray) = s at *
      clear hp
      go_enter Tryz.func20, Tryz.ntmps20
      go_wp2_with fail
      refine cR.mono ?_
      rintro e w1 ⟨rfl, hb⟩
      go_wp2_with fail
      refine (cP _ hb).mono ?_
      rintro e w2 ⟨rfl, hb2⟩
      go_wp2
      go_ret2
      exact ⟨rfl, hb.trans (hb2.mono hb.size)⟩
end Go.Proofs.YtnpdfkcjjedamaaGreatDoor.Sca
