/- Print, as it is walked. -/
import Derived.Test.YtnpdfkcjjedamaaGreatDoorPa
import Derived.Deep.RegionWith
import Derived.Lib.AppendIntMem
import Derived.Lib.ItoaLen
namespace Go.Proofs.YtnpdfkcjjedamaaGreatDoor.Sca
open Go.RowKit Go.Lib Go.Shelf Go.Proofs.YtnpdfkcjjedamaaGreatDoor.Oct

/-- The table that Itoa reads. -/
def T10 (w : World) : Prop := Lib.TabIs Tryz.prog w "internal/strconv.uint64pow10" .u64 Lib.pow10Tab
theorem T10.below {w w' : World} (h : T10 w) (hb : Below w.heap.size w w') : T10 w' := Lib.tabBelow_of_tabIs h w' hb
theorem below_grow (w : World) (k : Nat) (os : Array Obj) : Below w.heap.size w (Go.Sort.grow (w.drewN k) os) := by
  refine ⟨rfl, rfl, rfl, ?_, ?_⟩
  · show w.heap.size ≤ (w.heap ++ os).size
    rw [Array.size_append]
    omega
  · intro i hi
    show (w.heap ++ os)[i]? = w.heap[i]?
    rw [Array.getElem?_append_left hi]
theorem Itoa_any (n : Int) (h0 : -9223372036854775808 ≤ n) (h1 : n ≤ 9223372036854775807) (w : World) (h : T10 w) :
    Calls Tryz.prog 62 #[.int .i64 n] w fun e w' => e = .returned (.string ⟨(Lib.itoa n).toArray⟩) ∧ Below w.heap.size w w' :=
  (Any.strconv_Itoa Tryz.laysItoa n h0 h1 w h).mono fun _ _ ⟨he, k, os, hw⟩ => ⟨he, hw ▸ below_grow w k os⟩
def mnsB (b : Nat) : List UInt8 := if sb (can b) ≠ 0 then [45] else []
theorem sMinus (b : Nat) (hb : b < 18446744073709551616) (w : World) :
    Calls Tryz.prog 59 #[.float .f64 b] w fun e w' => e = .returned (.string ⟨(mnsB b).toArray⟩) ∧ w' = w := by
  have cS := fun w => sSigned b hb w
  unfold mnsB
  by_cases h : sb (can b) ≠ 0
  · rw [decide_eq_true h] at cS
    rw [if_pos h]
    clear h
    go_enter Tryz.func59, Tryz.ntmps59
    go_wp2_with (go_at_call 25; refine (cS _).mono ?_; rintro e w' ⟨rfl, rfl⟩)
    go_ret
    exact ⟨rfl, rfl⟩
  · rw [decide_eq_false h] at cS
    rw [if_neg h]
    clear h
    go_enter Tryz.func59, Tryz.ntmps59
    go_wp2_with (go_at_call 25; refine (cS _).mono ?_; rintro e w' ⟨rfl, rfl⟩)
    go_ret
    exact ⟨rfl, rfl⟩
theorem mns_len (b : Nat) : (mnsB b).length ≤ 1 := by unfold mnsB; split <;> simp
/-- Strings joined. -/
theorem add_list (a b : List UInt8) (h : a.length + b.length ≤ 1000) (w : World) : (Op.stringOp .add ⟨a.toArray⟩ ⟨b.toArray⟩).run Tryz.prog w = .ok (.string ⟨(a ++ b).toArray⟩) w := by
  refine (run_string_add_sum (P := Tryz.prog) w ⟨a.toArray⟩ ⟨b.toArray⟩ (by show a.toArray.size + b.toArray.size ≤ _; simp; omega)).trans ?_
  rw [show (⟨a.toArray⟩ ++ ⟨b.toArray⟩ : ByteArray) = ⟨(a ++ b).toArray⟩ from by apply ByteArray.ext; simp [ByteArray.data_append]]
theorem sPrint_nan (b : Nat) (hb : b < 18446744073709551616) (h : 9218868437227405312 < mg b) (w : World) :
    Calls Tryz.prog 40 #[.float .f64 b] w fun e w' => e = .returned (.string ⟨#[110, 97, 110]⟩) ∧ w' = w := by
  have cC := fun w => sClass b hb w
  rw [show clsOf b = 1 from by unfold clsOf; rw [if_pos h]] at cC
  clear h
  go_enter Tryz.func40, Tryz.ntmps40
  go_wp2_with (go_at_call 17; refine (cC _).mono ?_; rintro e w' ⟨rfl, rfl⟩)
  go_ret
  exact ⟨rfl, rfl⟩
theorem sPrint_inf (b : Nat) (hb : b < 18446744073709551616) (h : mg b = 9218868437227405312) (w : World) :
    Calls Tryz.prog 40 #[.float .f64 b] w fun e w' => e = .returned (.string ⟨(mnsB b ++ [105, 110, 102]).toArray⟩) ∧ w' = w := by
  have cC := fun w => sClass b hb w
  have cM := fun w => sMinus b hb w
  have ha := fun w => add_list (mnsB b) [105, 110, 102] (by have := mns_len b; simp; omega) w
  rw [show clsOf b = 2 from by unfold clsOf; rw [if_neg (by omega), if_pos h]] at cC
  clear h
  generalize mnsB b ++ [105, 110, 102] = r at *
  generalize mnsB b = m at *
  go_enter Tryz.func40, Tryz.ntmps40
  go_wp2_with (first | (go_at_call 17; refine (cC _).mono ?_; rintro e w' ⟨rfl, rfl⟩) | (go_at_call 59; refine (cM _).mono ?_; rintro e w' ⟨rfl, rfl⟩))
  go_ret
  exact ⟨rfl, rfl⟩
theorem sPrint_zero (b : Nat) (hb : b < 18446744073709551616) (h : mg b = 0) (w : World) :
    Calls Tryz.prog 40 #[.float .f64 b] w fun e w' => e = .returned (.string ⟨(mnsB b ++ [48]).toArray⟩) ∧ w' = w := by
  have cC := fun w => sClass b hb w
  have cM := fun w => sMinus b hb w
  have ha := fun w => add_list (mnsB b) [48] (by have := mns_len b; simp; omega) w
  rw [show clsOf b = 3 from by unfold clsOf; rw [if_neg (by omega), if_neg (by omega), if_pos h]] at cC
  clear h
  generalize mnsB b ++ [48] = r at *
  generalize mnsB b = m at *
  go_enter Tryz.func40, Tryz.ntmps40
  go_wp2_with (first | (go_at_call 17; refine (cC _).mono ?_; rintro e w' ⟨rfl, rfl⟩) | (go_at_call 59; refine (cM _).mono ?_; rintro e w' ⟨rfl, rfl⟩))
  go_ret
  exact ⟨rfl, rfl⟩
/-- The bits behind the first one, at the top of the word; the power of the first one. -/
def frB (b : Nat) : Nat := odd (mOf b) * 2 ^ (64 - bl (odd (mOf b))) * 2 % 18446744073709551616
def pwB (b : Nat) : Int := spE b + (bl (odd (mOf b)) : Int) - 1
def numB (b : Nat) : List UInt8 := mnsB b ++ [48, 120, 49] ++ fracB (frB b) ++ [112] ++ Lib.itoa (pwB b)
theorem sPrint_num (b : Nat) (hb : b < 18446744073709551616) (h : mg b < 9218868437227405312) (h0 : mg b ≠ 0) (w : World) (hT : Tz w) (h10 : T10 w) :
    Calls Tryz.prog 40 #[.float .f64 b] w fun e w' => e = .returned (.string ⟨(numB b).toArray⟩) ∧ Below w.heap.size w w' := by
  have cC := fun w => sClass b hb w
  have cM := fun w => sMinus b hb w
  have cS := sSplit_num b hb h h0 w hT
  have hcls : clsOf b = 4 ∨ clsOf b = 5 := by unfold clsOf; rw [if_neg (by omega), if_neg (by omega), if_neg h0]; split <;> simp
  have hm0 : mOf b ≠ 0 := fun e => h0 ((mOf_zero b).1 e)
  have hm53 := mOf_lt b
  have hol := odd_le (mOf b)
  have ho1 : odd (mOf b) ≠ 0 := by have := (odd_mul (mOf b) hm0 (by omega)).2; omega
  have hmax : max (spM b) (-(spM b)) = (odd (mOf b) : Int) := by
    unfold spM
    rw [if_neg h0]
    split <;> omega
  have hmb : -9007199254740992 < spM b ∧ spM b < 9007199254740992 := by omega
  have cL := fun w => len64 (odd (mOf b)) (by omega) w
  have hbl : bl (odd (mOf b)) ≤ 53 := bl_lt (by omega)
  have hbl1 : 1 ≤ bl (odd (mOf b)) := by rw [bl_pos ho1]; omega
  have hE := slE_bd b
  unfold slE at hE
  rw [if_pos h] at hE
  have hsh : IntKind.u64.wrap ((odd (mOf b) : Int) * 2 ^ (64 - bl (odd (mOf b)))) = ((odd (mOf b) * 2 ^ (64 - bl (odd (mOf b))) : Nat) : Int) := by
    have h2 : odd (mOf b) < 2 ^ bl (odd (mOf b)) := by rw [bl_pos ho1]; exact Nat.lt_log2_self
    have h3 : odd (mOf b) * 2 ^ (64 - bl (odd (mOf b))) < 2 ^ bl (odd (mOf b)) * 2 ^ (64 - bl (odd (mOf b))) := Nat.mul_lt_mul_of_pos_right h2 (Nat.two_pow_pos _)
    rw [← Nat.pow_add, show bl (odd (mOf b)) + (64 - bl (odd (mOf b))) = 64 from by omega] at h3
    rw [wrapU, show ((odd (mOf b) : Int) * 2 ^ (64 - bl (odd (mOf b)))) = ((odd (mOf b) * 2 ^ (64 - bl (odd (mOf b))) : Nat) : Int) from by rw [Int.natCast_mul, Int.natCast_pow]; rfl]
    omega
  have hfr : frB b = odd (mOf b) * 2 ^ (64 - bl (odd (mOf b))) * 2 % 18446744073709551616 := rfl
  have hpw : pwB b = spE b + (bl (odd (mOf b)) : Int) - 1 := rfl
  have hfl : frB b < 18446744073709551616 := Nat.mod_lt _ (by decide)
  generalize odd (mOf b) * 2 ^ (64 - bl (odd (mOf b))) = z at *
  have hfrz : IntKind.u64.wrap ((z : Int) * 2) = (frB b : Int) := by rw [wrapU, hfr]; omega
  have cF := fun w => sFraction (frB b) hfl w
  have cI := fun w (h : T10 w) => Itoa_any (pwB b) (by omega) (by omega) w h
  rw [hpw] at cI
  unfold numB
  rw [hpw]
  generalize odd (mOf b) = o at *
  generalize bl o = k at *
  generalize spE b = x at *
  generalize spM b = sm at *
  generalize frB b = fr at *
  have hfrl : (fracB fr).length ≤ 17 := by unfold fracB; have := hexs_len 16 fr; split <;> simp; omega
  have hml := mns_len b
  generalize mnsB b = mm at *
  generalize fracB fr = ff at *
  obtain ⟨cl, hcl⟩ : ∃ cl, clsOf b = cl := ⟨_, rfl⟩
  rw [hcl] at cC hcls
  have hk1 : ((cl : Int) == 1) = false := by rw [beq_eq_false_iff_ne]; omega
  have hk2 : ((cl : Int) == 2) = false := by rw [beq_eq_false_iff_ne]; omega
  have hk3 : ((cl : Int) == 3) = false := by rw [beq_eq_false_iff_ne]; omega
  clear hcls hcl hm0 hm53 hol ho1 hfr hpw hfl h h0 hb hT
  have hit := Lib.itoa_length_le (x + (k : Int) - 1) (by omega) (by omega)
  have a1 := fun w => add_list mm [48, 120, 49] (by simp; omega) w
  have a2 := fun w => add_list (mm ++ [48, 120, 49]) ff (by simp; omega) w
  have a3 := fun w => add_list (mm ++ [48, 120, 49] ++ ff) [112] (by simp; omega) w
  have a4 := fun w => add_list (mm ++ [48, 120, 49] ++ ff ++ [112]) (Lib.itoa (x + (k : Int) - 1)) (by simp; omega) w
  generalize mm ++ [48, 120, 49] = s1 at *
  generalize s1 ++ ff = s2 at *
  generalize s2 ++ [112] = s3 at *
  generalize hs4 : s3 ++ Lib.itoa (x + (k : Int) - 1) = s4 at *
  clear hs4 hit
  go_enter Tryz.func40, Tryz.ntmps40
  go_wp2_with (first | (go_at_call 17; refine (cC _).mono ?_; rintro e w' ⟨rfl, hw⟩; obtain rfl := hw.symm) | (go_at_call 23; refine cS.mono ?_; rintro e w' ⟨rfl, hw⟩; obtain rfl := hw.symm) | (go_at_call 60; refine (cL _).mono ?_; rintro e w' ⟨rfl, hw⟩; obtain rfl := hw.symm))
  have h10d : T10 w.drew := h10
  have wrapI : ∀ y : Int, -9223372036854775808 ≤ y → y ≤ 9223372036854775807 → IntKind.i64.wrap y = y := fun y h1 h2 => by simp [IntKind.wrap, IntKind.bits, IntKind.signed]; omega
  have hoz : o ≤ 9007199254740992 := by omega
  obtain ⟨kk, hkk⟩ : ∃ kk, 64 - k = kk := ⟨_, rfl⟩
  rw [hkk] at hsh
  have q1 : IntKind.u64.wrap (o : Int) = (o : Int) := by rw [wrapU]; omega
  have q2 : IntKind.i64.wrap (64 - (k : Int)) = (kk : Int) := by rw [wrapI _ (by omega) (by omega)]; omega
  have q3 : Op.shift .shl .u64 (o : Int) .i64 (kk : Int) = pure (.int .u64 (z : Int)) := by
    rw [shift_shl_any .u64 .i64 (o : Int) (kk : Int) (by omega), Int.toNat_natCast, show min kk IntKind.u64.bits = kk from by show min kk 64 = kk; omega, hsh]
  have q4 : Op.shift .shl .u64 (z : Int) .u64 1 = pure (.int .u64 (fr : Int)) := by
    rw [shift_shl_any .u64 .u64 (z : Int) 1 (by omega)]
    show pure (Value.int .u64 (IntKind.u64.wrap ((z : Int) * 2 ^ 1))) = _
    rw [Int.pow_one, hfrz]
  have q5 : IntKind.i64.wrap (x + (k : Int)) = x + (k : Int) := wrapI _ (by omega) (by omega)
  have q6 : IntKind.i64.wrap (x + (k : Int) - 1) = x + (k : Int) - 1 := wrapI _ (by omega) (by omega)
  clear wrapI hkk hsh hfrz hmax hmb cS cC hk1 hk2 hk3 cL
  go_region_with (first | (go_at_call 59; refine (cM _).mono ?_; rintro e w' ⟨rfl, hw⟩; obtain rfl := hw.symm) | (go_at_call 61; refine (cF _).mono ?_; rintro e w2 ⟨rfl, hbF⟩) | (go_at_call 62; refine (cI _ (h10d.below hbF)).mono ?_; rintro e w3 ⟨rfl, hbI⟩))
  have Hb : Hid (Below w.heap.size w w3) := (show Below w.heap.size w w2 from (Below.refl w.heap.size w).drew.trans hbF).trans (hbI.mono hbF.size)
  go_wp2
  go_ret
  exact ⟨rfl, Hb.out⟩
/-- The text of a float. -/
def prB (b : Nat) : List UInt8 := if 9218868437227405312 < mg b then [110, 97, 110] else if mg b = 9218868437227405312 then mnsB b ++ [105, 110, 102] else if mg b = 0 then mnsB b ++ [48] else numB b
theorem sPrint (b : Nat) (hb : b < 18446744073709551616) (w : World) (hT : Tz w) (h10 : T10 w) :
    Calls Tryz.prog 40 #[.float .f64 b] w fun e w' => e = .returned (.string ⟨(prB b).toArray⟩) ∧ Below w.heap.size w w' := by
  unfold prB
  by_cases h1 : 9218868437227405312 < mg b
  · rw [if_pos h1]
    exact (sPrint_nan b hb h1 w).mono fun _ _ ⟨he, hw⟩ => ⟨he, hw ▸ Below.refl _ _⟩
  · rw [if_neg h1]
    by_cases h2 : mg b = 9218868437227405312
    · rw [if_pos h2]
      exact (sPrint_inf b hb h2 w).mono fun _ _ ⟨he, hw⟩ => ⟨he, hw ▸ Below.refl _ _⟩
    · rw [if_neg h2]
      by_cases h3 : mg b = 0
      · rw [if_pos h3]
        exact (sPrint_zero b hb h3 w).mono fun _ _ ⟨he, hw⟩ => ⟨he, hw ▸ Below.refl _ _⟩
      · rw [if_neg h3]
        exact sPrint_num b hb (by omega) h3 w hT h10
end Go.Proofs.YtnpdfkcjjedamaaGreatDoor.Sca
