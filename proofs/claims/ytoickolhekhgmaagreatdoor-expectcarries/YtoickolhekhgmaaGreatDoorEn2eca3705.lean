import Derived.Test.YtoickolhekhgmaaGreatDoorEnb7eff2bd
import Derived.WalkSpells
import Derived.WalkLawsBesides
import Derived.BigQuiet
set_option maxRecDepth 100000
set_option maxHeartbeats 1000000
namespace Go.Proofs.YtoickolhekhgmaaGreatDoor.Pau
open Go.RowKit
theorem wrapU (x : Int) : IntKind.u64.wrap x = x % 18446744073709551616 := by simp [IntKind.wrap, IntKind.bits, IntKind.signed]
theorem wrapI (x : Int) : IntKind.i64.wrap x = (x + 9223372036854775808) % 18446744073709551616 - 9223372036854775808 := by rw [IntKind.wrap_i64]
theorem andN (a b : Nat) (ha : a < 18446744073709551616) (hb : b < 18446744073709551616) : bits .and .u64 (a : Int) (b : Int) = ((a &&& b : Nat) : Int) := u64_and_nat a b ha hb
theorem and_lt (a m : Nat) (hm : m < 18446744073709551616) : a &&& m < 18446744073709551616 := Nat.lt_of_le_of_lt Nat.and_le_right hm
theorem step1 (x : Nat) (hx : x < 18446744073709551616) : IntKind.u64.wrap (bits .and .u64 ((x : Int) / 2) 6148914691236517205 + bits .and .u64 (x : Int) 6148914691236517205) = ((f1 8 x : Nat) : Int) := by
  have a1 := andN (x / 2) 6148914691236517205 (by omega) (by decide)
  have a2 := andN x 6148914691236517205 hx (by decide)
  rw [show ((x / 2 : Nat) : Int) = (x : Int) / 2 by omega] at a1
  rw [show ((6148914691236517205 : Nat) : Int) = 6148914691236517205 from rfl] at a1 a2
  rw [a1, a2, wrapU]
  have b1 : x / 2 &&& 6148914691236517205 <= 6148914691236517205 := Nat.and_le_right
  have b2 : x &&& 6148914691236517205 <= 6148914691236517205 := Nat.and_le_right
  unfold f1
  rw [show Mk8 85 8 = 6148914691236517205 by decide]
  omega
theorem step2 (x : Nat) (hx : x < 18446744073709551616) : IntKind.u64.wrap (bits .and .u64 ((x : Int) / 4) 3689348814741910323 + bits .and .u64 (x : Int) 3689348814741910323) = ((f2 8 x : Nat) : Int) := by
  have a1 := andN (x / 4) 3689348814741910323 (by omega) (by decide)
  have a2 := andN x 3689348814741910323 hx (by decide)
  rw [show ((x / 4 : Nat) : Int) = (x : Int) / 4 by omega] at a1
  rw [show ((3689348814741910323 : Nat) : Int) = 3689348814741910323 from rfl] at a1 a2
  rw [a1, a2, wrapU]
  have b1 : x / 4 &&& 3689348814741910323 <= 3689348814741910323 := Nat.and_le_right
  have b2 : x &&& 3689348814741910323 <= 3689348814741910323 := Nat.and_le_right
  unfold f2
  rw [show Mk8 51 8 = 3689348814741910323 by decide]
  omega
theorem step3 (x : Nat) (hx : x < 9223372036854775808) : bits .and .u64 (IntKind.u64.wrap ((x : Int) / 16 + (x : Int))) 1085102592571150095 = ((f3 8 x : Nat) : Int) := by
  have a1 := andN (x / 16 + x) 1085102592571150095 (by omega) (by decide)
  rw [show ((1085102592571150095 : Nat) : Int) = 1085102592571150095 from rfl] at a1
  rw [wrapU, show ((x : Int) / 16 + (x : Int)) % 18446744073709551616 = ((x / 16 + x : Nat) : Int) by omega, a1]
  unfold f3
  rw [show Mk8 15 8 = 1085102592571150095 by decide]
theorem step7 (v : Nat) (h : v < 9223372036854775808) : bits .and .i64 (v : Int) 127 = ((v % 128 : Nat) : Int) := by
  show IntKind.i64.wrap ((BitVec.ofInt 64 (v : Int) &&& BitVec.ofInt 64 127).toNat : Int) = _
  rw [BitVec.toNat_and, BitVec.ofInt_natCast, BitVec.toNat_ofNat, Nat.mod_eq_of_lt (by omega), show (BitVec.ofInt 64 127).toNat = 2 ^ 7 - 1 from rfl, Nat.and_two_pow_sub_one_eq_mod, wrapI]
  omega
theorem f_lt (x : Nat) : f1 8 x < 12297829382473034411 /\ f2 8 (f1 8 x) < 9223372036854775808 := by
  have b1 : x / 2 &&& 6148914691236517205 <= 6148914691236517205 := Nat.and_le_right
  have b2 : x &&& 6148914691236517205 <= 6148914691236517205 := Nat.and_le_right
  have b3 : f1 8 x / 4 &&& 3689348814741910323 <= 3689348814741910323 := Nat.and_le_right
  have b4 : f1 8 x &&& 3689348814741910323 <= 3689348814741910323 := Nat.and_le_right
  refine ⟨?_, ?_⟩
  . unfold f1
    rw [show Mk8 85 8 = 6148914691236517205 by decide]
    omega
  . unfold f2
    rw [show Mk8 51 8 = 3689348814741910323 by decide]
    omega
theorem bOnes (x : Nat) (hx : x < 18446744073709551616) (w : World) : Calls Tryz.prog 105 #[.int .u64 (x : Int)] w fun e w' => e = .returned (.int .i64 (pc x : Int)) /\ w' = w := by
  have e1 := step1 x hx
  have l := f_lt x
  have e2 := step2 (f1 8 x) (by omega)
  have e3 := step3 (f2 8 (f1 8 x)) l.2
  rw [f321] at e3
  obtain ⟨y, z, v, h4, h5, h6, h7, l1, l2, l3, l4⟩ := sum8 x
  generalize R8 8 x = r at *
  generalize f2 8 (f1 8 x) = q at *
  generalize f1 8 x = p at *
  have e4 : IntKind.u64.wrap ((r : Int) + (r : Int) / 256) = (y : Int) := by rw [wrapU]; omega
  have e5 : IntKind.u64.wrap ((y : Int) + (y : Int) / 65536) = (z : Int) := by rw [wrapU]; omega
  have e6 : IntKind.u64.wrap ((z : Int) + (z : Int) / 4294967296) = (v : Int) := by rw [wrapU]; omega
  have e7 := step7 v (by omega)
  have ew : wrap64 (v : Int) = (v : Int) := by unfold wrap64; omega
  rw [h7] at e7
  clear h4 h5 h6 h7 l l1 l2 l3 l4 hx
  generalize pc x = m at *
  go_enter Tryz.func105, Tryz.ntmps105
  go_wp2_with fail
  go_ret
  exact ⟨rfl, rfl⟩
structure P where
  n : Int
  x : Nat
  z : Nat
  ph : Int
def pV (p : P) : Value := .agg #[.int .i64 p.n, .int .u64 (p.x : Int), .int .u64 (p.z : Int), .int .i64 p.ph]
theorem hide {p : Prop} (h : p) : Hid p := h
theorem bnew (w : World) (o : Obj) : Below w.heap.size w (w.alloc o) := (Below.refl _ _).alloc (Nat.le_refl _) _
theorem bkp {w V U : World} (h1 : Below w.heap.size w V) (h2 : Below V.heap.size V U) : Below w.heap.size w U := h1.trans (h2.mono h1.size)
theorem bdrew {B : Nat} {a w : World} (h : Below B a w) (n : Nat) : Below B a (w.drewN n) := ⟨h.os, h.tape, h.output, h.size, h.block⟩
def At4 (w : World) (g : Nat) (a b c d : Value) : Prop := w.heap[g]? = some (.cells #[a, b, c, d] 27 (0, 0))
theorem At4.cells {w : World} {g : Nat} {a b c d : Value} (h : At4 w g a b c d) : w.cell? ⟨g, 0, none⟩ = some a /\ w.cell? ⟨g, 1, none⟩ = some b /\ w.cell? ⟨g, 2, none⟩ = some c /\ w.cell? ⟨g, 3, none⟩ = some d /\ g < w.heap.size :=
  ⟨cell_of_row _ _ 0 _ _ _ h, cell_of_row _ _ 1 _ _ _ h, cell_of_row _ _ 2 _ _ _ h, cell_of_row _ _ 3 _ _ _ h, (Array.getElem?_eq_some_iff.1 h).1⟩
theorem At4.lt {w : World} {g : Nat} {a b c d : Value} (h : At4 w g a b c d) : g < w.heap.size := (Array.getElem?_eq_some_iff.1 h).1
theorem At4.below {w w' : World} {g : Nat} {a b c d : Value} (h : At4 w g a b c d) (hb : Below w.heap.size w w') : At4 w' g a b c d := (hb.block g h.lt).trans h
theorem At4.new (w : World) (a b c d : Value) : At4 (w.alloc (.cells #[a, b, c, d] 27)) w.heap.size a b c d := heap_alloc_new _ _
theorem At4.two (w : World) (a b c d a' b' c' d' : Value) : At4 ((w.alloc (.cells #[a, b, c, d] 27)).alloc (.cells #[a', b', c', d'] 27)) w.heap.size a b c d /\ At4 ((w.alloc (.cells #[a, b, c, d] 27)).alloc (.cells #[a', b', c', d'] 27)) (w.heap.size + 1) a' b' c' d' :=
  ⟨(At4.new w a b c d).below (bnew _ _), by have := At4.new (w.alloc (.cells #[a, b, c, d] 27)) a' b' c' d'; simpa using this⟩
def rt (p : P) : Bool := decide (0 <= p.n /\ p.n <= 64 /\ p.x < 2 ^ p.n.toNat /\ p.z < 2 ^ p.n.toNat /\ 0 <= p.ph /\ p.ph <= 3)
def Wd (p : P) : Prop := p.x < 18446744073709551616 /\ p.z < 18446744073709551616
def ck (p : P) : Int := if rt p = true then 0 else 130
theorem or_shift (x z n : Nat) : (x ||| z) / 2 ^ n = 0 ↔ x < 2 ^ n /\ z < 2 ^ n := by
  have hp := Nat.two_pow_pos n
  rw [Nat.div_eq_zero_iff_lt hp]
  refine ⟨fun h => ⟨Nat.lt_of_le_of_lt Nat.left_le_or h, Nat.lt_of_le_of_lt Nat.right_le_or h⟩, fun h => Nat.or_lt_two_pow h.1 h.2⟩
theorem pCheck (p : P) (hp : Wd p) (w : World) : Calls Tryz.prog 33 #[pV p] w fun e w' => e = .returned (.int .i64 (ck p)) /\ Below w.heap.size w w' := by
  obtain ⟨n, x, z, ph⟩ := p
  have e1 : bits .or .u64 (x : Int) (z : Int) = ((x ||| z : Nat) : Int) := u64_or_nat x z hp.1 hp.2
  have HB := hide (bnew w (.cells #[.int .i64 n, .int .u64 (x : Int), .int .u64 (z : Int), .int .i64 ph] 27))
  unfold ck rt pV
  simp only
  by_cases h0 : n < 0
  . rw [if_neg (by simp only [decide_eq_true_eq]; omega)]
    have d0 : decide (n < 0) = true := decide_eq_true h0
    clear e1 hp
    go_enter Tryz.func33, Tryz.ntmps33
    go_wp2_with fail
    go_ret
    exact ⟨rfl, HB.out⟩
  . have d0 : decide (n < 0) = false := decide_eq_false h0
    by_cases h1 : 64 < n
    . rw [if_neg (by simp only [decide_eq_true_eq]; omega)]
      have d1 : decide (64 < n) = true := decide_eq_true h1
      have d1' : decide (n > 64) = true := decide_eq_true h1
      clear e1 hp
      go_enter Tryz.func33, Tryz.ntmps33
      go_wp2_with fail
      go_ret
      exact ⟨rfl, HB.out⟩
    . obtain ⟨k, rfl⟩ : ∃ k : Nat, n = (k : Int) := ⟨n.toNat, by omega⟩
      have d1 : decide (64 < (k : Int)) = false := decide_eq_false h1
      have h1' : (k : Int) <= 64 := by omega
      have h2 := or_shift x z k
      rw [Int.toNat_natCast]
      generalize x ||| z = y at *
      have hy : ((y : Int) / 2 ^ k = 0) ↔ y / 2 ^ k = 0 := by
        rw [show (y : Int) / 2 ^ k = ((y / 2 ^ k : Nat) : Int) by simp]
        omega
      by_cases h3 : y / 2 ^ k = 0
      . have h4 := h2.1 h3
        have h5 := hy.2 h3
        by_cases h6 : ph < 0
        . rw [if_neg (by simp only [decide_eq_true_eq]; omega)]
          have d6 : decide (ph < 0) = true := decide_eq_true h6
          clear hp h2 h3 h4 hy
          go_enter Tryz.func33, Tryz.ntmps33
          go_wp2_with fail
          go_ret
          exact ⟨rfl, HB.out⟩
        . have d6 : decide (ph < 0) = false := decide_eq_false h6
          by_cases h7 : 3 < ph
          . rw [if_neg (by simp only [decide_eq_true_eq]; omega)]
            have d7 : decide (3 < ph) = true := decide_eq_true h7
            clear hp h2 h3 h4 hy
            go_enter Tryz.func33, Tryz.ntmps33
            go_wp2_with fail
            go_ret
            exact ⟨rfl, HB.out⟩
          . have d7 : decide (3 < ph) = false := decide_eq_false h7
            rw [if_pos (by simp only [decide_eq_true_eq]; exact ⟨by omega, h1', h4.1, h4.2, by omega, by omega⟩)]
            clear hp h2 h3 h4 hy
            go_enter Tryz.func33, Tryz.ntmps33
            go_wp2_with fail
            go_ret
            exact ⟨rfl, HB.out⟩
      . rw [if_neg (by simp only [decide_eq_true_eq]; exact fun h => h3 (h2.2 ⟨h.2.2.1, h.2.2.2.1⟩))]
        have h5 : ¬ (y : Int) / 2 ^ k = 0 := fun h => h3 (hy.1 h)
        clear hp h2 hy h3
        go_enter Tryz.func33, Tryz.ntmps33
        go_wp2_with fail
        go_ret
        exact ⟨rfl, HB.out⟩
theorem and_three (k : Int) : bits .and .i64 k 3 = k % 4 := by
  show IntKind.i64.wrap ((BitVec.ofInt 64 k &&& BitVec.ofInt 64 3).toNat : Int) = _
  rw [BitVec.toNat_and, BitVec.toNat_ofInt, show (BitVec.ofInt 64 3).toNat = 2 ^ 2 - 1 from rfl, Nat.and_two_pow_sub_one_eq_mod, wrapI]
  omega
theorem pQuarters (k : Int) (w : World) : Calls Tryz.prog 71 #[.int .i64 k] w fun e w' => e = .returned (.int .i64 (k % 4)) /\ w' = w := by
  have e := and_three k
  go_enter Tryz.func71, Tryz.ntmps71
  go_wp2_with fail
  go_ret
  exact ⟨rfl, rfl⟩
theorem pCommon (a b : Nat) (ha : a < 18446744073709551616) (hb : b < 18446744073709551616) (w : World) : Calls Tryz.prog 72 #[.int .u64 (a : Int), .int .u64 (b : Int)] w fun e w' => e = .returned (.int .i64 (pc (a &&& b) : Int)) /\ w' = w := by
  have e := andN a b ha hb
  have c1 := bOnes (a &&& b) (and_lt _ _ hb) w
  generalize pc (a &&& b) = m at *
  generalize a &&& b = c at *
  go_enter Tryz.func72, Tryz.ntmps72
  go_wp2_with (go_at_call 105; refine c1.mono ?_; rintro e w1 ⟨rfl, hw⟩; obtain rfl := hw.symm)
  go_ret
  exact ⟨rfl, rfl⟩
theorem pYs (p : P) (hp : Wd p) (w : World) : Calls Tryz.prog 73 #[pV p] w fun e w' => e = .returned (.int .i64 (pc (p.x &&& p.z) : Int)) /\ Below w.heap.size w w' := by
  have c1 := fun W => pCommon p.x p.z hp.1 hp.2 W
  obtain ⟨n, x, z, ph⟩ := p
  have HB := hide (bnew w (.cells #[.int .i64 n, .int .u64 (x : Int), .int .u64 (z : Int), .int .i64 ph] 27))
  unfold pV
  simp only at *
  generalize pc (x &&& z) = m at *
  go_enter Tryz.func73, Tryz.ntmps73
  go_wp2_with (go_at_call 72; refine (c1 _).mono ?_; rintro e w1 ⟨rfl, hw⟩; obtain rfl := hw.symm)
  go_ret
  exact ⟨rfl, HB.out⟩
theorem pHerm (p : P) (hp : Wd p) (w : World) : Calls Tryz.prog 95 #[pV p] w fun e w' => e = .returned (.bool (rt p && decide (p.ph = 0 ∨ p.ph = 2))) /\ Below w.heap.size w w' := by
  have c1 := fun W => pCheck p hp W
  unfold ck at c1
  have hr : rt p = true -> decide (p.ph = 0 ∨ p.ph = 2) = decide (p.ph.tmod 2 = 0) := fun h => by
    unfold rt at h
    have := of_decide_eq_true h
    rw [Int.tmod_eq_emod_of_nonneg this.2.2.2.2.1]
    apply decide_eq_decide.2
    omega
  generalize decide (p.ph = 0 ∨ p.ph = 2) = d at *
  generalize rt p = r at *
  obtain ⟨n, x, z, ph⟩ := p
  have HB := hide (bnew w (.cells #[.int .i64 n, .int .u64 (x : Int), .int .u64 (z : Int), .int .i64 ph] 27))
  have HA := hide (At4.new w (.int .i64 n) (.int .u64 (x : Int)) (.int .u64 (z : Int)) (.int .i64 ph))
  unfold pV at *
  simp only at *
  clear hp
  cases r
  . simp only [if_false, Bool.false_eq_true, Bool.false_and] at c1 ⊢
    clear hr
    go_enter Tryz.func95, Tryz.ntmps95
    go_wp2_with (go_at_call 33; refine (c1 _).mono ?_; rintro e w1 ⟨rfl, hb1⟩; obtain ⟨x0, x1, x2, x3, x4⟩ := (HA.out.below hb1).cells; have HB1 := hide (bkp HB.out hb1))
    go_ret
    exact ⟨rfl, HB1.out⟩
  . simp only [if_true, Bool.true_and] at c1 ⊢
    rw [hr rfl]
    clear hr
    go_enter Tryz.func95, Tryz.ntmps95
    go_wp2_with (go_at_call 33; refine (c1 _).mono ?_; rintro e w1 ⟨rfl, hb1⟩; obtain ⟨x0, x1, x2, x3, x4⟩ := (HA.out.below hb1).cells; have HB1 := hide (bkp HB.out hb1))
    go_ret
    exact ⟨rfl, HB1.out⟩
end Go.Proofs.YtoickolhekhgmaaGreatDoor.Pau
