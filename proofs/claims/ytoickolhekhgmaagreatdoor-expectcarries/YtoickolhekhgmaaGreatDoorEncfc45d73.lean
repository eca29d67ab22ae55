import Derived.Test.YtoickolhekhgmaaGreatDoorEn2863af4f
import Derived.Test.YtoickolhekhgmaaGreatDoorEnefe78777
namespace Go.Proofs.YtoickolhekhgmaaGreatDoor.Gt
end Go.Proofs.YtoickolhekhgmaaGreatDoor.Gt
namespace Go.Proofs.YtoickolhekhgmaaGreatDoor.Pau
end Go.Proofs.YtoickolhekhgmaaGreatDoor.Pau
set_option maxRecDepth 100000
set_option maxHeartbeats 2000000
namespace Go.Proofs.YtoickolhekhgmaaGreatDoor.Pau
open Go.RowKit Go.Proofs.YtoickolhekhgmaaGreatDoor.Gt
def mulPh (a b : P) : Int := (a.ph + b.ph + 2 * (pc (a.z &&& b.x) : Int) + (pc (a.x &&& a.z) : Int) + (pc (b.x &&& b.z) : Int) - (pc ((a.x ^^^ b.x) &&& (a.z ^^^ b.z)) : Int)) % 4
def mulP (a b : P) : P := ⟨a.n, a.x ^^^ b.x, a.z ^^^ b.z, mulPh a b⟩
theorem At4.three (w : World) (a b c d a' b' c' d' a2 b2 c2 d2 : Value) : At4 (((w.alloc (.cells #[a, b, c, d] 27)).alloc (.cells #[a', b', c', d'] 27)).alloc (.cells #[a2, b2, c2, d2] 27)) w.heap.size a b c d /\ At4 (((w.alloc (.cells #[a, b, c, d] 27)).alloc (.cells #[a', b', c', d'] 27)).alloc (.cells #[a2, b2, c2, d2] 27)) (w.heap.size + 1) a' b' c' d' /\ At4 (((w.alloc (.cells #[a, b, c, d] 27)).alloc (.cells #[a', b', c', d'] 27)).alloc (.cells #[a2, b2, c2, d2] 27)) (w.heap.size + 1 + 1) a2 b2 c2 d2 :=
  ⟨(At4.two w a b c d a' b' c' d').1.below (bnew _ _), (At4.two w a b c d a' b' c' d').2.below (bnew _ _), by have := At4.new ((w.alloc (.cells #[a, b, c, d] 27)).alloc (.cells #[a', b', c', d'] 27)) a2 b2 c2 d2; simpa using this⟩
theorem store_i (k : IntKind) (a : Addr) (x : Int) (m : Mode) (w : World) : (store a (.int k x) m).run Tryz.prog w = stored Tryz.prog w a (.int k x) m := run_store _ _ _ _ _ rfl
theorem pMul_ok (a b : P) (ha : Wd a) (hb : Wd b) (hf : fitP a b = true) (w : World) : Calls Tryz.prog 37 #[pV a, pV b] w fun e w' => e = .returned (.tuple #[pV (mulP a b), .int .i64 0]) /\ Below w.heap.size w w' := by
  have c1 := fun W => pFit a b ha hb W
  rw [hf] at c1
  have c2 := fun W => pCommon a.z b.x ha.2 hb.1 W
  have c3 := fun W => pYs a ha W
  have c4 := fun W => pYs b hb W
  have eX : bits .xor .u64 (a.x : Int) (b.x : Int) = ((a.x ^^^ b.x : Nat) : Int) := u64_xor_nat _ _ ha.1 hb.1
  have eZ : bits .xor .u64 (a.z : Int) (b.z : Int) = ((a.z ^^^ b.z : Nat) : Int) := u64_xor_nat _ _ ha.2 hb.2
  have c5 := fun W => pYs ⟨a.n, a.x ^^^ b.x, a.z ^^^ b.z, 0⟩ ⟨Nat.xor_lt_two_pow (n := 64) ha.1 hb.1, Nat.xor_lt_two_pow (n := 64) ha.2 hb.2⟩ W
  have hrt : rt a = true /\ rt b = true := by
    unfold fitP at hf
    simp only [Bool.and_eq_true] at hf
    exact hf.1
  have hra := of_decide_eq_true hrt.1
  have hrb := of_decide_eq_true hrt.2
  have k1 := pc_le (a.z &&& b.x)
  have k2 := pc_le (a.x &&& a.z)
  have k3 := pc_le (b.x &&& b.z)
  have k4 := pc_le ((a.x ^^^ b.x) &&& (a.z ^^^ b.z))
  unfold mulP mulPh
  simp only at *
  generalize pc (a.z &&& b.x) = m1 at *
  generalize pc (a.x &&& a.z) = m2 at *
  generalize pc (b.x &&& b.z) = m3 at *
  generalize pc ((a.x ^^^ b.x) &&& (a.z ^^^ b.z)) = m4 at *
  generalize a.x ^^^ b.x = X at *
  generalize a.z ^^^ b.z = Z at *
  have w1 : IntKind.i64.wrap (a.ph + b.ph) = a.ph + b.ph := by rw [wrapI]; omega
  have w2 : IntKind.i64.wrap (2 * (m1 : Int)) = 2 * (m1 : Int) := by rw [wrapI]; omega
  have w3 : IntKind.i64.wrap (a.ph + b.ph + 2 * (m1 : Int)) = a.ph + b.ph + 2 * (m1 : Int) := by rw [wrapI]; omega
  have w4 : IntKind.i64.wrap (a.ph + b.ph + 2 * (m1 : Int) + (m2 : Int)) = a.ph + b.ph + 2 * (m1 : Int) + (m2 : Int) := by rw [wrapI]; omega
  have w5 : IntKind.i64.wrap (a.ph + b.ph + 2 * (m1 : Int) + (m2 : Int) + (m3 : Int)) = a.ph + b.ph + 2 * (m1 : Int) + (m2 : Int) + (m3 : Int) := by rw [wrapI]; omega
  have w6 : IntKind.i64.wrap (a.ph + b.ph + 2 * (m1 : Int) + (m2 : Int) + (m3 : Int) - (m4 : Int)) = a.ph + b.ph + 2 * (m1 : Int) + (m2 : Int) + (m3 : Int) - (m4 : Int) := by rw [wrapI]; omega
  have c6 := fun W => pQuarters (a.ph + b.ph + 2 * (m1 : Int) + (m2 : Int) + (m3 : Int) - (m4 : Int)) W
  generalize (a.ph + b.ph + 2 * (m1 : Int) + (m2 : Int) + (m3 : Int) - (m4 : Int)) % 4 = q at *
  clear hra hrb hrt hf k1 k2 k3 k4 ha hb
  obtain ⟨n, x, z, ph⟩ := a
  obtain ⟨n', x', z', ph'⟩ := b
  unfold pV at *
  simp only at *
  generalize hs1 : ph + ph' = s1 at *
  generalize hs2 : 2 * (m1 : Int) = s2 at *
  generalize hs3 : s1 + s2 = s3 at *
  generalize hs4 : s3 + (m2 : Int) = s4 at *
  generalize hs5 : s4 + (m3 : Int) = s5 at *
  generalize hs6 : s5 - (m4 : Int) = s6 at *
  obtain ⟨HA, HA', HA2⟩ := At4.three w (.int .i64 n) (.int .u64 (x : Int)) (.int .u64 (z : Int)) (.int .i64 ph) (.int .i64 n') (.int .u64 (x' : Int)) (.int .u64 (z' : Int)) (.int .i64 ph') (.int .i64 0) (.int .u64 0) (.int .u64 0) (.int .i64 0)
  have HAh := hide HA
  have HAh' := hide HA'
  have HAh2 := hide HA2
  have HB := hide (bkp (bkp (bnew w (.cells #[.int .i64 n, .int .u64 (x : Int), .int .u64 (z : Int), .int .i64 ph] 27)) (bnew _ (.cells #[.int .i64 n', .int .u64 (x' : Int), .int .u64 (z' : Int), .int .i64 ph'] 27))) (bnew _ (.cells #[.int .i64 0, .int .u64 0, .int .u64 0, .int .i64 0] 27)))
  clear HA HA' HA2
  go_enter Tryz.func37, Tryz.ntmps37
  go_wp2_with fail
  refine (c1 _).mono ?_
  rintro e w1 ⟨rfl, hb1⟩
  obtain ⟨x0, x1, x2, x3, x4⟩ := (HAh.out.below hb1).cells
  obtain ⟨y0, y1, y2, y3, y4⟩ := (HAh'.out.below hb1).cells
  have HB1 := hide (bkp HB.out hb1)
  have hbn := bnew w1 (.cells #[.int .i64 n, .int .u64 (X : Int), .int .u64 (Z : Int), .int .i64 0] 27)
  have G1 := hide ((HAh.out.below hb1).below hbn)
  have G2 := hide ((HAh'.out.below hb1).below hbn)
  have G3 := hide ((HAh2.out.below hb1).below hbn)
  have G4 := hide (At4.new w1 (.int .i64 n) (.int .u64 (X : Int)) (.int .u64 (Z : Int)) (.int .i64 0))
  have HB2 := hide (bkp HB1.out hbn)
  have hsz : w.heap.size + 1 + 1 < w1.heap.size := (HAh2.out.below hb1).lt
  clear hb1 HAh HAh' HAh2 hbn HB1 HB c1
  go_wp2_with fail
  generalize w1.alloc (.cells #[.int .i64 n, .int .u64 (X : Int), .int .u64 (Z : Int), .int .i64 0] 27) = wr at *
  generalize w1.heap.size = g at *
  have HC : Hid (∀ W, Below wr.heap.size wr W -> (W.cell? ⟨w.heap.size, 0, none⟩ = some (.int .i64 n) /\ W.cell? ⟨w.heap.size, 1, none⟩ = some (.int .u64 (x : Int)) /\ W.cell? ⟨w.heap.size, 2, none⟩ = some (.int .u64 (z : Int)) /\ W.cell? ⟨w.heap.size, 3, none⟩ = some (.int .i64 ph) /\ w.heap.size < W.heap.size) /\ (W.cell? ⟨w.heap.size + 1, 0, none⟩ = some (.int .i64 n') /\ W.cell? ⟨w.heap.size + 1, 1, none⟩ = some (.int .u64 (x' : Int)) /\ W.cell? ⟨w.heap.size + 1, 2, none⟩ = some (.int .u64 (z' : Int)) /\ W.cell? ⟨w.heap.size + 1, 3, none⟩ = some (.int .i64 ph') /\ w.heap.size + 1 < W.heap.size) /\ (W.cell? ⟨g, 0, none⟩ = some (.int .i64 n) /\ W.cell? ⟨g, 1, none⟩ = some (.int .u64 (X : Int)) /\ W.cell? ⟨g, 2, none⟩ = some (.int .u64 (Z : Int)) /\ W.cell? ⟨g, 3, none⟩ = some (.int .i64 0) /\ g < W.heap.size) /\ W.frozen? ⟨g, 3, none⟩ = false) := hide (fun W hW => ⟨(G1.out.below hW).cells, (G2.out.below hW).cells, (G4.out.below hW).cells, (G4.out.below hW).fz 3⟩)
  refine wp_region_quiet_last (C := fun W => Below wr.heap.size wr W) (by kernel_rfl) 23 rfl (by kernel_rfl) (by kernel_rfl) (bdrew (Below.refl _ _) 1) ?_
  simp only [List.take_succ_cons, List.take_zero]
  repeat
    refine wpQuiet_step (fun K hK => ?_)
    go_simp
    first
      | (refine hK _ ?_; clear hK K)
      | (apply Exists.intro
         refine ⟨fun W hW => ?_, hK _ ?_⟩
         first
           | ((with_reducible refine Calls.mono (c2 _) ?_); rintro e x ⟨rfl, rfl⟩; exact ⟨rfl, hW⟩)
           | ((with_reducible refine Calls.mono (c3 _) ?_); rintro e x ⟨rfl, hb⟩; exact ⟨rfl, bkp hW hb⟩)
           | ((with_reducible refine Calls.mono (c4 _) ?_); rintro e x ⟨rfl, hb⟩; exact ⟨rfl, bkp hW hb⟩)
           | ((with_reducible refine Calls.mono (c5 _) ?_); rintro e x ⟨rfl, hb⟩; exact ⟨rfl, bkp hW hb⟩)
           | ((with_reducible refine Calls.mono (c6 _) ?_); rintro e x ⟨rfl, rfl⟩; exact ⟨rfl, hW⟩)
           | (obtain ⟨⟨a0, a1, a2, a3, a4⟩, ⟨b0, b1, b2, b3, b4⟩, ⟨d0, d1, d2, d3, d4⟩, d5⟩ := HC.out W hW; go_simp; rfl)
         clear hK K)
  refine wpQuiet_nil ?_
  intro W hW
  obtain ⟨-, -, ⟨d0, d1, d2, d3, d4⟩, d5⟩ := HC.out W hW
  have HP := hide ((G4.out.below hW).set3 (.int .i64 q))
  have HR := hide ((G3.out.below hW).off (k := g) (j := 3) (v := .int .i64 q) (by omega))
  have HBs := hide ((bkp HB2.out hW).setCell (p := ⟨g, 3, none⟩) (show w.heap.size <= g by omega) (.int .i64 q))
  have hst := store_i
  have hR := HR.out
  unfold At4 at hR
  clear hW HC
  go_wp2_with (first
    | (refine wpList_store_row rfl _ _ _ rfl (w.heap.size + 1 + 1) _ rfl rfl _ _ hR (by exact infoP) (by rfl) (allP _ _ _ _) ?_))
  refine bodyPost_ret (results_ct rfl _ _ (w.heap.size + 1 + 1) _ _ _ _ rfl (setRow_heap _ _ _ _ _ _ hR) Tryz.underlying27 rfl (by exact infoP)) rfl ?_
  exact ⟨rfl, below_setRow HBs.out (by omega) _⟩
theorem pMul_no (a b : P) (ha : Wd a) (hb : Wd b) (hf : fitP a b = false) (w : World) : Calls Tryz.prog 37 #[pV a, pV b] w fun e w' => e = .returned (.tuple #[pV oP, .int .i64 130]) /\ Below w.heap.size w w' := by
  have c1 := fun W => pFit a b ha hb W
  rw [hf] at c1
  clear ha hb hf
  obtain ⟨n, x, z, ph⟩ := a
  obtain ⟨n', x', z', ph'⟩ := b
  unfold oP pV at *
  simp only at *
  obtain ⟨-, -, HA2⟩ := At4.three w (.int .i64 n) (.int .u64 (x : Int)) (.int .u64 (z : Int)) (.int .i64 ph) (.int .i64 n') (.int .u64 (x' : Int)) (.int .u64 (z' : Int)) (.int .i64 ph') (.int .i64 0) (.int .u64 0) (.int .u64 0) (.int .i64 0)
  have HAh2 := hide HA2
  have HB := hide (bkp (bkp (bnew w (.cells #[.int .i64 n, .int .u64 (x : Int), .int .u64 (z : Int), .int .i64 ph] 27)) (bnew _ (.cells #[.int .i64 n', .int .u64 (x' : Int), .int .u64 (z' : Int), .int .i64 ph'] 27))) (bnew _ (.cells #[.int .i64 0, .int .u64 0, .int .u64 0, .int .i64 0] 27)))
  clear HA2
  go_enter Tryz.func37, Tryz.ntmps37
  go_wp2_with fail
  refine (c1 _).mono ?_
  rintro e w1 ⟨rfl, hb1⟩
  have HB1 := hide (bkp HB.out hb1)
  have hR := HAh2.out.below hb1
  unfold At4 at hR
  clear hb1 HAh2
  go_wp2_with (first
    | (refine wpList_store_row rfl _ _ _ rfl (w.heap.size + 1 + 1) _ rfl rfl _ _ hR (by exact infoP) (by rfl) (allP _ _ _ _) ?_))
  refine bodyPost_ret (results_ct rfl _ _ (w.heap.size + 1 + 1) _ _ _ _ rfl (setRow_heap _ _ _ _ _ _ hR) Tryz.underlying27 rfl (by exact infoP)) rfl ?_
  exact ⟨rfl, below_setRow HB1.out (by omega) _⟩
def mulR (a b : P) : P × Int := if fitP a b = true then (mulP a b, 0) else (oP, 130)
theorem pMul (a b : P) (ha : Wd a) (hb : Wd b) (w : World) : Calls Tryz.prog 37 #[pV a, pV b] w fun e w' => e = .returned (.tuple #[pV (mulR a b).1, .int .i64 (mulR a b).2]) /\ Below w.heap.size w w' := by
  unfold mulR
  cases hf : fitP a b with
  | true => rw [if_pos rfl]; exact pMul_ok a b ha hb hf w
  | false => rw [if_neg (by decide)]; exact pMul_no a b ha hb hf w
def lt (x z : Nat) : Nat := if x = 0 then (if z = 0 then 73 else 90) else (if z = 0 then 88 else 89)
def letP (p : P) (q : Int) : Nat := if rt p = true /\ 0 <= q /\ q < p.n then lt (bt p.x q.toNat) (bt p.z q.toNat) else 0
theorem bit_run (x k : Nat) (hx : x < 18446744073709551616) : bits .and .u64 ((x : Int) / 2 ^ k) 1 = ((bt x k : Nat) : Int) := by
  rw [show (x : Int) / 2 ^ k = ((x / 2 ^ k : Nat) : Int) by simp, show (1 : Int) = ((1 : Nat) : Int) from rfl, andN _ _ (Nat.lt_of_le_of_lt (Nat.div_le_self _ _) hx) (by decide), Nat.and_one_is_mod]
  rfl
theorem pLetter (p : P) (hp : Wd p) (q : Int) (w : World) : Calls Tryz.prog 36 #[pV p, .int .i64 q] w fun e w' => e = .returned (.int .u8 (letP p q : Int)) /\ Below w.heap.size w w' := by
  have c1 := fun W => pCheck p hp W
  have hn : rt p = true -> 0 <= p.n /\ p.n <= 64 := fun h => by
    have := of_decide_eq_true h
    exact ⟨this.1, this.2.1⟩
  have b1 := fun k => bit_run p.x k hp.1
  have b2 := fun k => bit_run p.z k hp.2
  unfold letP
  unfold ck at c1
  generalize rt p = r at *
  obtain ⟨n, x, z, ph⟩ := p
  have HB := hide (bnew w (.cells #[.int .i64 n, .int .u64 (x : Int), .int .u64 (z : Int), .int .i64 ph] 27))
  have HA := hide (At4.new w (.int .i64 n) (.int .u64 (x : Int)) (.int .u64 (z : Int)) (.int .i64 ph))
  unfold pV at *
  simp only at *
  clear hp
  cases r
  . rw [if_neg (by simp)]
    simp only [if_false, Bool.false_eq_true] at c1
    clear b1 b2 hn
    go_enter Tryz.func36, Tryz.ntmps36
    go_wp2_with (first
      | (go_at_call 33; refine (c1 _).mono ?_; rintro e w1 ⟨rfl, hb1⟩; obtain ⟨x0, x1, x2, x3, x4⟩ := (HA.out.below hb1).cells; have HB1 := hide (bkp HB.out hb1)))
    go_ret
    exact ⟨rfl, HB1.out⟩
  . simp only [if_true] at c1
    have hn' := hn rfl
    clear hn
    by_cases h0 : q < 0
    . rw [if_neg (by omega)]
      have d0 : decide (q < 0) = true := decide_eq_true h0
      clear b1 b2
      go_enter Tryz.func36, Tryz.ntmps36
      go_wp2_with (first
        | (go_at_call 33; refine (c1 _).mono ?_; rintro e w1 ⟨rfl, hb1⟩; obtain ⟨x0, x1, x2, x3, x4⟩ := (HA.out.below hb1).cells; have HB1 := hide (bkp HB.out hb1)))
      go_ret
      exact ⟨rfl, HB1.out⟩
    . have d0 : decide (q < 0) = false := decide_eq_false h0
      by_cases h1 : q < n
      . rw [if_pos ⟨rfl, by omega, h1⟩]
        have d1 : decide (q ≥ n) = false := decide_eq_false (by omega)
        have d2 : decide (n <= q) = false := decide_eq_false (by omega)
        obtain ⟨k, rfl⟩ : ∃ k : Nat, q = (k : Int) := ⟨q.toNat, by omega⟩
        rw [Int.toNat_natCast]
        have b1' := b1 k
        have b2' := b2 k
        have l1 := bt_lt x k
        have l2 := bt_lt z k
        have hk : (k : Int) <= 64 := by omega
        clear b1 b2
        generalize bt x k = u at *
        generalize bt z k = v at *
        have o0 : bits .or .u64 0 0 = 0 := by decide +kernel
        have o1 : bits .or .u64 0 2 = 2 := by decide +kernel
        have o2 : bits .or .u64 1 0 = 1 := by decide +kernel
        have o3 : bits .or .u64 1 2 = 3 := by decide +kernel
        have hu : u = 0 ∨ u = 1 := by omega
        have hv : v = 0 ∨ v = 1 := by omega
        rcases hu with rfl | rfl <;> rcases hv with rfl | rfl
        all_goals simp only [Int.natCast_zero, Int.natCast_one] at b1' b2'
        all_goals go_enter Tryz.func36, Tryz.ntmps36
        all_goals go_wp2_with (first
          | (go_at_call 33; refine (c1 _).mono ?_; rintro e w1 ⟨rfl, hb1⟩; obtain ⟨x0, x1, x2, x3, x4⟩ := (HA.out.below hb1).cells; have HB1 := hide (bkp HB.out hb1)))
        all_goals go_quiet (fail)
        all_goals go_wp2_with fail
        all_goals go_ret
        all_goals exact ⟨rfl, bdrew HB1.out _⟩
      . rw [if_neg (by omega)]
        have d1 : decide (q ≥ n) = true := decide_eq_true (by omega)
        have d2 : decide (n <= q) = true := decide_eq_true (by omega)
        clear b1 b2
        go_enter Tryz.func36, Tryz.ntmps36
        go_wp2_with (first
          | (go_at_call 33; refine (c1 _).mono ?_; rintro e w1 ⟨rfl, hb1⟩; obtain ⟨x0, x1, x2, x3, x4⟩ := (HA.out.below hb1).cells; have HB1 := hide (bkp HB.out hb1)))
        go_ret
        exact ⟨rfl, HB1.out⟩
end Go.Proofs.YtoickolhekhgmaaGreatDoor.Pau
namespace Go.Proofs.YtoickolhekhgmaaGreatDoor.Tbl
open Go.RowKit Go.Proofs.YtoickolhekhgmaaGreatDoor.Pau Go.Proofs.YtoickolhekhgmaaGreatDoor.Gt
deriving instance DecidableEq for P
structure TT where
  n : Int
  s : List P
  d : List P
deriving DecidableEq
def sgB (p : P) (n : Int) : Bool := decide (p.n = n) && (rt p && decide (p.ph = 0 ∨ p.ph = 2))
def cmB (a b : P) : Bool := fitP a b && comB a b
def pdP (a b : P) : P := (mulR a b).1
def prB (t : TT) (i j : Nat) : Bool := cmB (t.s.getD i oP) (t.s.getD j oP) && cmB (t.d.getD i oP) (t.d.getD j oP) && (cmB (t.d.getD i oP) (t.s.getD j oP) == decide (i ≠ j))
def szB (t : TT) : Bool := decide (0 <= t.n /\ t.n <= 64 /\ (t.s.length : Int) = t.n /\ (t.d.length : Int) = t.n)
def sg2 (t : TT) (i : Nat) : Bool := sgB (t.s.getD i oP) t.n && sgB (t.d.getD i oP) t.n
def chB (t : TT) : Bool := szB t && (List.range t.n.toNat).all (sg2 t) && (List.range t.n.toNat).all (fun i => (List.range t.n.toNat).all (prB t i))
structure Pc (w : World) (g o : Nat) (p : P) : Prop where
  n : w.cell? ⟨g, o, none⟩ = some (.int .i64 p.n)
  x : w.cell? ⟨g, o + 1, none⟩ = some (.int .u64 (p.x : Int))
  z : w.cell? ⟨g, o + 2, none⟩ = some (.int .u64 (p.z : Int))
  ph : w.cell? ⟨g, o + 3, none⟩ = some (.int .i64 p.ph)
theorem Pc.lt {w : World} {g o : Nat} {p : P} (h : Pc w g o p) : g < w.heap.size := World.block_lt_of_cell? _ _ h.n
theorem Pc.below {w w' : World} {g o : Nat} {p : P} (h : Pc w g o p) (hb : Below w.heap.size w w') : Pc w' g o p := by
  have key : ∀ j, w'.cell? ⟨g, j, none⟩ = w.cell? ⟨g, j, none⟩ := fun j => hb.cell (p := ⟨g, j, none⟩) h.lt
  exact ⟨(key _).trans h.n, (key _).trans h.x, (key _).trans h.z, (key _).trans h.ph⟩
def PIn (w : World) (ao : Option Addr) (l : List P) : Prop := l = [] ∨ ∃ g off, ao = some ⟨g, off, none⟩ /\ ∀ (i : Nat) p, l[i]? = some p -> Pc w g (off + i * 4) p
theorem PIn.below {w w' : World} {ao : Option Addr} {l : List P} (h : PIn w ao l) (hb : Below w.heap.size w w') : PIn w' ao l := by
  rcases h with h | ⟨g, off, e, h⟩
  . exact .inl h
  . exact .inr ⟨g, off, e, fun i p hp => (h i p hp).below hb⟩
theorem PIn.at {w : World} {ao : Option Addr} {l : List P} (h : PIn w ao l) {i : Nat} {p : P} (hi : l[i]? = some p) : ∃ g off, ao = some ⟨g, off, none⟩ /\ g < w.heap.size /\ Pc w g (off + i * 4) p := by
  rcases h with h | ⟨g, off, e, h⟩
  . rw [h] at hi; simp at hi
  . exact ⟨g, off, e, (h i p hi).lt, h i p hi⟩
theorem PIn.get {w : World} {ao : Option Addr} {l : List P} (h : PIn w ao l) (h0 : 0 < l.length) : ∃ g off, ao = some ⟨g, off, none⟩ /\ ∀ (i : Nat) p, l[i]? = some p -> Pc w g (off + i * 4) p := by
  rcases h with h | h
  . rw [h] at h0; simp at h0
  . exact h
def Wl (l : List P) : Prop := ∀ p ∈ l, Wd p
theorem Wl.at {l : List P} (h : Wl l) {i : Nat} {p : P} (hi : l[i]? = some p) : Wd p := h p (List.mem_of_getElem? hi)
def tV (t : TT) (a b : Option Addr) (ca cb : Nat) : Value := .agg #[.int .i64 t.n, .slice a t.s.length ca, .slice b t.d.length cb]
structure Th (w : World) (t : TT) (a b : Option Addr) (ca cb : Nat) : Prop where
  s : PIn w a t.s
  d : PIn w b t.d
  ws : Wl t.s
  wd : Wl t.d
  la : t.s.length <= ca
  lb : t.d.length <= cb
  na : t.s.length <= 1000000000000000
  nb : t.d.length <= 1000000000000000
theorem Th.below {w w' : World} {t : TT} {a b : Option Addr} {ca cb : Nat} (h : Th w t a b ca cb) (hb : Below w.heap.size w w') : Th w' t a b ca cb := ⟨h.s.below hb, h.d.below hb, h.ws, h.wd, h.la, h.lb, h.na, h.nb⟩
theorem get_of {l : List P} {i : Nat} (h : i < l.length) : l[i]? = some (l.getD i oP) := by
  rw [List.getD_eq_getElem?_getD, List.getElem?_eq_getElem h]; rfl
theorem Wl.getD {l : List P} (h : Wl l) {i : Nat} (hi : i < l.length) : Wd (l.getD i oP) := h.at (get_of hi)
theorem wd_o : Wd oP := ⟨by decide, by decide⟩
def At3 (w : World) (g : Nat) (a b c : Value) : Prop := w.heap[g]? = some (.cells #[a, b, c] 30 (0, 0))
theorem At3.cells {w : World} {g : Nat} {a b c : Value} (h : At3 w g a b c) : w.cell? ⟨g, 0, none⟩ = some a /\ w.cell? ⟨g, 1, none⟩ = some b /\ w.cell? ⟨g, 2, none⟩ = some c /\ g < w.heap.size :=
  ⟨cell_of_row _ _ 0 _ _ _ h, cell_of_row _ _ 1 _ _ _ h, cell_of_row _ _ 2 _ _ _ h, (Array.getElem?_eq_some_iff.1 h).1⟩
theorem At3.lt {w : World} {g : Nat} {a b c : Value} (h : At3 w g a b c) : g < w.heap.size := (Array.getElem?_eq_some_iff.1 h).1
theorem At3.below {w w' : World} {g : Nat} {a b c : Value} (h : At3 w g a b c) (hb : Below w.heap.size w w') : At3 w' g a b c := (hb.block g h.lt).trans h
theorem At3.new (w : World) (a b c : Value) : At3 (w.alloc (.cells #[a, b, c] 30)) w.heap.size a b c := heap_alloc_new _ _
theorem wp_region_quiet_C {P : Program} {C : World -> Prop} {id : Nat} {Q : Exit -> Act -> World -> Prop} {a : Act} {w : World} {l : List Oper} (hm : P.follows .mixedOrders = true) (hB : Region.lexB .any l.toArray = true) (hC : C { w with drawn := w.drawn + 1 })
    (h : wpQuiet P l.toArray C (fun a' => ∀ w', C w' -> Q .normal a' w') l a) : (Code.region id l.toArray true).wp P Q a w :=
  wp_region_quiet hm hB hC (by simpa using h)
theorem tSigned (p : P) (hp : Wd p) (n : Int) (w : World) : Calls Tryz.prog 81 #[pV p, .int .i64 n] w fun e w' => e = .returned (.bool (sgB p n)) /\ Below w.heap.size w w' := by
  have c1 := fun W => pHerm p hp W
  unfold sgB
  generalize (rt p && decide (p.ph = 0 ∨ p.ph = 2)) = r at *
  obtain ⟨m, x, z, ph⟩ := p
  have HB := hide (bnew w (.cells #[.int .i64 m, .int .u64 (x : Int), .int .u64 (z : Int), .int .i64 ph] 27))
  unfold pV at *
  simp only at *
  clear hp
  by_cases h : m = n
  . subst h
    go_enter Tryz.func81, Tryz.ntmps81
    go_wp2_with (go_at_call 95; refine (c1 _).mono ?_; rintro e w1 ⟨rfl, hb1⟩; have HB1 := hide (bkp HB.out hb1))
    go_ret
    exact ⟨by simp, HB1.out⟩
  . have e1 : (m == n) = false := by simpa using h
    go_enter Tryz.func81, Tryz.ntmps81
    go_wp2_with fail
    go_ret
    exact ⟨by simp [h], HB.out⟩
theorem tCommute (a b : P) (ha : Wd a) (hb : Wd b) (w : World) : Calls Tryz.prog 111 #[pV a, pV b] w fun e w' => e = .returned (.bool (cmB a b)) /\ Below w.heap.size w w' := by
  have c1 := fun W => pCommute a b ha hb W
  unfold cmB
  generalize (fitP a b && comB a b) = r at *
  generalize (if fitP a b = true then (0 : Int) else 130) = q at *
  obtain ⟨n, x, z, ph⟩ := a
  obtain ⟨n', x', z', ph'⟩ := b
  unfold pV at *
  simp only at *
  have HB := hide (bkp (bnew w (.cells #[.int .i64 n, .int .u64 (x : Int), .int .u64 (z : Int), .int .i64 ph] 27)) (bnew _ (.cells #[.int .i64 n', .int .u64 (x' : Int), .int .u64 (z' : Int), .int .i64 ph'] 27)))
  clear ha hb
  go_enter Tryz.func111, Tryz.ntmps111
  go_wp2_with (go_at_call 128; refine (c1 _).mono ?_; rintro e w1 ⟨rfl, hb1⟩; have HB1 := hide (bkp HB.out hb1))
  go_ret
  exact ⟨rfl, HB1.out⟩
theorem results_c {P : Program} {fn : Func} {p : Tmp} {ty : TypeId} (h : fn.results = #[.cell p ty]) (tmps : Array Value) (w : World) (g : Nat) (t : TypeId) (cs : Array Value) (fr : Nat × Nat) (d : TypeDesc)
    (hp : tmps.getD p undef = .pointer (some ⟨g, 0, none⟩)) (hg : w.heap[g]? = some (.cells cs t fr))
    (hu : P.underlying ty = some d) (hd : (match d with | .struct _ | .array _ _ => true | _ => false) = true) (hi : (P.info? ty).map (·.size) = some cs.size) :
    (results fn tmps).run P w = .ok (.agg cs) w := by
  have hp' : tmps[p]?.getD undef = .pointer (some ⟨g, 0, none⟩) := by simpa using hp
  simp [results, h, hp', asAddr, run_loadVar_row w g t ty cs fr d hg hu hd hi]
theorem tProduct (a b : P) (ha : Wd a) (hb : Wd b) (w : World) : Calls Tryz.prog 84 #[pV a, pV b] w fun e w' => e = .returned (pV (pdP a b)) /\ Below w.heap.size w w' := by
  have c1 := fun W => pMul a b ha hb W
  unfold pdP
  generalize mulR a b = r at *
  obtain ⟨⟨rn, rx, rz, rp⟩, re⟩ := r
  obtain ⟨n, x, z, ph⟩ := a
  obtain ⟨n', x', z', ph'⟩ := b
  unfold pV at *
  simp only at *
  obtain ⟨-, -, HA2⟩ := At4.three w (.int .i64 n) (.int .u64 (x : Int)) (.int .u64 (z : Int)) (.int .i64 ph) (.int .i64 n') (.int .u64 (x' : Int)) (.int .u64 (z' : Int)) (.int .i64 ph') (.int .i64 0) (.int .u64 0) (.int .u64 0) (.int .i64 0)
  have HAh2 := hide HA2
  have HB := hide (bkp (bkp (bnew w (.cells #[.int .i64 n, .int .u64 (x : Int), .int .u64 (z : Int), .int .i64 ph] 27)) (bnew _ (.cells #[.int .i64 n', .int .u64 (x' : Int), .int .u64 (z' : Int), .int .i64 ph'] 27))) (bnew _ (.cells #[.int .i64 0, .int .u64 0, .int .u64 0, .int .i64 0] 27)))
  clear HA2 ha hb
  go_enter Tryz.func84, Tryz.ntmps84
  go_wp2_with fail
  refine (c1 _).mono ?_
  rintro e w1 ⟨rfl, hb1⟩
  have hbn := bnew w1 (.cells #[.int .i64 rn, .int .u64 (rx : Int), .int .u64 (rz : Int), .int .i64 rp] 27)
  have HB1 := hide (bkp (bkp HB.out hb1) hbn)
  have hR := (HAh2.out.below hb1).below hbn
  clear hb1 HAh2 hbn
  unfold At4 at hR
  go_wp2_with (first
    | (refine wpList_store_row rfl _ _ _ rfl (w.heap.size + 1 + 1) _ rfl rfl _ _ hR (by exact infoP) (by rfl) (allP _ _ _ _) ?_))
  refine bodyPost_ret (results_c rfl _ _ (w.heap.size + 1 + 1) _ _ _ _ rfl (setRow_heap _ _ _ _ _ _ hR) Tryz.underlying27 rfl (by exact infoP)) rfl ?_
  exact ⟨rfl, below_setRow HB1.out (by omega) _⟩
end Go.Proofs.YtoickolhekhgmaaGreatDoor.Tbl
