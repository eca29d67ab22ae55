/- The program's Print. -/
import Derived.Test.YthpkmbgollollabDoorHa
import Derived.Test.YthpkmbgollollabDoorDe
import Derived.Deep.RegionWith
import Derived.Deep.DeepCutAuto
import Derived.Deep.CutRange
namespace Go.Proofs.YthpkmbgollollabDoor.Dy
open Go.RowKit Go.Shelf Go.Proofs.YthpkmbgollollabDoor.Sca

def sgn (x : Int) : UInt8 := if x < 0 then 45 else 43
/-- What stands behind the i. -/
def low (ex : Int) : List UInt8 := if 0 < ex then 47 :: Lib.decDigits (2 ^ ex.toNat) else []
/-- A dyad's text. -/
def prD (d : DD) : List UInt8 := Lib.itoa d.re ++ (sgn d.im :: (Lib.decDigits d.im.natAbs ++ (105 :: low d.ex)))
def pV (d : DD) : Value := if Rt d then .tuple #[.string ⟨(prD d).toArray⟩, .int .i64 0] else .tuple #[.string ⟨#[]⟩, .int .i64 2]
theorem hidP {p : Prop} (h : p) : Hid p := h
theorem add_list (a b : List UInt8) (h : a.length + b.length ≤ 1000) (w : World) : (Op.stringOp .add ⟨a.toArray⟩ ⟨b.toArray⟩).run Tryd.prog w = .ok (.string ⟨(a ++ b).toArray⟩) w := by
  refine (run_string_add_sum (P := Tryd.prog) w ⟨a.toArray⟩ ⟨b.toArray⟩ (by show a.toArray.size + b.toArray.size ≤ _; simp; omega)).trans ?_
  rw [show (⟨a.toArray⟩ ++ ⟨b.toArray⟩ : ByteArray) = ⟨(a ++ b).toArray⟩ from by apply ByteArray.ext; simp [ByteArray.data_append]]
theorem cell_below {w w' : World} {p : Addr} {v : Value} (h : w.cell? p = some v) (hb : Below w.heap.size w w') : w'.cell? p = some v := (hb.cell (World.block_lt_of_cell? w p h)).trans h
theorem two60 {n : Nat} (h : n ≤ 60) : 0 < (2 : Int) ^ n ∧ (2 : Int) ^ n ≤ 1152921504606846976 := by
  refine ⟨pow_pos' n, ?_⟩
  have h1 : 2 ^ n ≤ 2 ^ 60 := Nat.pow_le_pow_right (by decide) h
  have e : (2 : Int) ^ n = ((2 ^ n : Nat) : Int) := by simp
  rw [e]
  omega
theorem dig_len (u : Nat) (h : u < 18446744073709551616) : (Lib.decDigits u).length ≤ 20 := by
  rw [Lib.decDigits_length]
  by_cases h1 : 1 ≤ u
  · have := Lib.numDigits_eq u h1 h; split at this <;> omega
  · rw [show u = 0 by omega]; decide +kernel
theorem itoa_len (x : Int) (h : i64 x) : (Lib.itoa x).length ≤ 21 := by
  obtain ⟨h0, h1⟩ := h
  unfold Lib.itoa
  split
  · rw [List.length_cons]; have := dig_len x.natAbs (by omega); omega
  · have := dig_len x.toNat (by omega); omega
set_option maxRecDepth 100000 in
set_option maxHeartbeats 1000000 in
theorem yPrint_no (d : DD) (hd : d64 d) (h : ¬ Rt d) (w : World) : Calls Tryd.prog 23 #[dV d] w fun e w' => e = .returned (.tuple #[.string ⟨#[]⟩, .int .i64 2]) ∧ Below w.heap.size w w' := by
  have cC := fun w => yCheck d hd w
  rw [chk_no h] at cC
  clear h hd
  obtain ⟨re, im, ex⟩ := d
  unfold dV at *
  go_enter Tryd.func23, Tryd.ntmps23
  go_wp2_with fail
  refine (cC _).mono ?_
  rintro e w2 ⟨rfl, hb2⟩
  have hbw2 : Below w.heap.size w w2 := (below_new _ _).trans (hb2.mono (by simp))
  clear hb2 cC
  go_wp2_with fail
  go_ret2
  exact ⟨rfl, hbw2⟩
set_option maxRecDepth 100000 in
set_option maxHeartbeats 1000000 in
theorem yPrint_ok (d : DD) (h : Rt d) (w : World) (hT : T10 w) : Calls Tryd.prog 23 #[dV d] w fun e w' => e = .returned (.tuple #[.string ⟨(prD d).toArray⟩, .int .i64 0]) ∧ Below w.heap.size w w' := by
  have cC := fun w => yCheck d h.d64 w
  rw [chk_ok h] at cC
  have hb := h.1
  have c1 := fun w hT => sFormatInt d.re h.d64.1 w hT
  have c2 := fun w => ySize d.im h.d64.2.1 w
  have c3 := fun w hT => sFormatUint d.im.natAbs (by omega) w hT
  have l1 := itoa_len d.re h.d64.1
  have l2 := dig_len d.im.natAbs (by omega)
  have h2 := hb.2.2
  have cF := fun w hT => sFormatInt (2 ^ d.ex.toNat) (by
    have h60 := two60 (show d.ex.toNat ≤ 60 by omega)
    constructor <;> omega) w hT
  rw [show (2 : Int) ^ d.ex.toNat = ((2 ^ d.ex.toNat : Nat) : Int) by simp, Lib.itoa_nonneg] at cF
  have l3 := dig_len (2 ^ d.ex.toNat) (Nat.lt_of_le_of_lt (Nat.pow_le_pow_right (by decide) (show d.ex.toNat ≤ 60 by omega)) (by decide))
  clear h hb
  obtain ⟨re, im, ex⟩ := d
  unfold prD low
  unfold dV at *
  dsimp only at *
  obtain ⟨n, rfl⟩ : ∃ n : Nat, ex = n := ⟨ex.toNat, by omega⟩
  rw [Int.toNat_natCast] at cF l3 ⊢
  have hw60 : IntKind.i64.wrap (2 ^ n) = ((2 ^ n : Nat) : Int) := by
    have h60 := two60 (show n ≤ 60 by omega)
    rw [wrapI]
    have e : ((2 ^ n : Nat) : Int) = 2 ^ n := by simp
    rw [e]
    omega
  obtain ⟨R, HR⟩ : ∃ R, Hid (R = Lib.itoa re ++ sgn im :: (Lib.decDigits im.natAbs ++ 105 :: (if 0 < (n : Int) then 47 :: Lib.decDigits (2 ^ n) else []))) := ⟨_, hidP rfl⟩
  rw [← HR.out]
  go_enter Tryd.func23, Tryd.ntmps23
  go_wp2_with fail
  refine (cC _).mono ?_
  rintro e w2 ⟨rfl, hb2⟩
  have hbw2 : Below w.heap.size w w2 := (below_new _ _).trans (hb2.mono (by simp))
  have hA := (At.new w re im n).below hb2
  obtain ⟨g0, g1, g2⟩ := hA.cells
  have hT2 : T10 w2 := hT.below hbw2
  have hTd : T10 w2.drew := hT2.below (below_drewN (Below.refl _ _) 1)
  clear hb2 cC
  go_upto_if 14 with fail
  go_cut [5] (fun vs wx => vs = .string ⟨[sgn im].toArray⟩ ∧ wx = w2)
  case first =>
    clear c1 c2 c3 cF
    by_cases hneg : im < 0
    · go_wp2_with fail
      go_meet
      exact ⟨by unfold sgn; rw [if_pos hneg], rfl⟩
    · go_wp2_with fail
      go_meet
      exact ⟨by unfold sgn; rw [if_neg (by omega)], rfl⟩
  case rest =>
  obtain ⟨rfl, hw⟩ := hcut
  obtain rfl := hw.symm
  go_upto_region 7 with fail
  generalize hsg : [sgn im] = sg at *
  have lsg : sg.length = 1 := by rw [← hsg]; rfl
  go_cut [6] (fun vt wx => vt = .string ⟨(Lib.itoa re ++ sg ++ Lib.decDigits im.natAbs ++ [105]).toArray⟩ ∧ Below w.heap.size w wx ∧ At wx w.heap.size re im n ∧ T10 wx)
  case first =>
    go_region_with (first
      | (go_at_call 34; refine (c1 _ (by assumption)).mono ?_; rintro e w3 ⟨rfl, hb3⟩; have d0 : w3.cell? ⟨w.heap.size, 0, none⟩ = some (.int .i64 re) := cell_below (by exact g0) hb3; have d1 : w3.cell? ⟨w.heap.size, 1, none⟩ = some (.int .i64 im) := cell_below (by exact g1) hb3; have d2 : w3.cell? ⟨w.heap.size, 2, none⟩ = some (.int .i64 n) := cell_below (by exact g2) hb3; have hT3 : T10 w3 := T10.below (by assumption) hb3)
      | (go_at_call 29; refine (c2 _).mono ?_; rintro e w4 ⟨rfl, hw4⟩; obtain rfl := hw4.symm)
      | (go_at_call 35; refine (c3 _ (by assumption)).mono ?_; rintro e w5 ⟨rfl, hb5⟩))
    all_goals
      go_wp2_with fail
      go_meet
      have hb3' : Below w2.heap.size w2 w3 := (below_drewN (Below.refl w2.heap.size w2) 1).trans hb3
      have hb5' : Below w2.heap.size w2 w5 := hb3'.trans (hb5.mono hb3'.size)
      exact ⟨by congr 1, hbw2.trans (hb5'.mono hbw2.size), hA.below hb5', hT2.below hb5'⟩
  case rest =>
  obtain ⟨rfl, hbw3, hA3, hT3⟩ := hcut
  clear hA g0 g1 g2 hbw2 hT2 hTd c1 c2 c3
  obtain ⟨g0, g1, g2⟩ := hA3.cells
  have ltot : (Lib.itoa re ++ sg ++ Lib.decDigits im.natAbs ++ [105]).length ≤ 100 := by simp only [List.length_append, List.length_singleton]; omega
  have HT : Hid (R = (Lib.itoa re ++ sg ++ Lib.decDigits im.natAbs ++ [105]) ++ (if 0 < (n : Int) then 47 :: Lib.decDigits (2 ^ n) else [])) := hidP (by
    rw [HR.out, ← hsg]; simp)
  clear HR hsg lsg
  generalize Lib.itoa re ++ sg ++ Lib.decDigits im.natAbs ++ [105] = T at *
  by_cases hn : 0 < (n : Int)
  · have HT2 : Hid (R = T ++ ([47] ++ Lib.decDigits (2 ^ n))) := hidP (by rw [HT.out, if_pos hn]; rfl)
    clear HT
    have ha1 := fun w => add_list [47] (Lib.decDigits (2 ^ n)) (by rw [List.length_singleton]; omega) w
    have ha2 := fun w => add_list T ([47] ++ Lib.decDigits (2 ^ n)) (by simp only [List.length_append, List.length_singleton]; omega) w
    generalize Lib.decDigits (2 ^ n) = D at *
    have ha1' : ∀ w, (Op.stringOp .add ⟨#[47]⟩ ⟨D.toArray⟩).run Tryd.prog w = .ok (.string ⟨([47] ++ D).toArray⟩) w := ha1
    go_wp2_with fail
    refine (cF _ hT3).mono ?_
    rintro e w4 ⟨rfl, hb4⟩
    have hbw4 := hbw3.trans (hb4.mono hbw3.size)
    go_wp2_with fail
    go_ret2
    exact ⟨by rw [HT2.out]; rfl, hbw4⟩
  · have HT2 : Hid (R = T) := hidP (by rw [HT.out, if_neg hn, List.append_nil])
    clear HT
    have hn' : decide (0 < (n : Int)) = false := decide_eq_false hn
    go_wp2_with fail
    go_ret2
    exact ⟨by rw [HT2.out]; rfl, hbw3⟩
end Go.Proofs.YthpkmbgollollabDoor.Dy
