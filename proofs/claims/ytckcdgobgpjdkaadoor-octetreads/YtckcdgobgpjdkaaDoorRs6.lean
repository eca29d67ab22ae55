/- read: one call on both Readers. -/
import Derived.Test.YtckcdgobgpjdkaaDoorRs5
namespace Go.Proofs.YtckcdgobgpjdkaaDoor.Oct
open Go.RowKit
open Go.Lib (validD)

/-- Both Readers at the same place. -/
structure St (w0 w : World) (pb qb : Nat) (bo : Option Addr) (bc : Nat) (l : List UInt8) (a : Nat) : Prop where
  rd : RdX w pb qb (l.drop a)
  rr : RR w qb a bo bc l
  ne : pb ≠ qb
  nbo : ob bo ≠ some pb
  bel : Below w0.heap.size w0 w
  np : w0.heap.size ≤ pb
  nq : w0.heap.size ≤ qb
theorem St.after {w0 w w1 w2 : World} {pb qb : Nat} {bo : Option Addr} {bc : Nat} {l : List UInt8} {a k : Nat} (h : St w0 w pb qb bo bc l a) (h1 : RdX w1 pb qb ((l.drop a).drop k)) (g1 : w.grownBy w1 (some pb)) (h2 : RR w2 qb (a + k) bo bc l) (g2 : w1.grownBy w2 (some qb)) : St w0 w2 pb qb bo bc l (a + k) := by
  have b1 := h.bel.grown g1 h.bel.size (fun k hk => by cases hk; exact h.np)
  exact ⟨by rw [← List.drop_drop]; exact h1.grown g2 h.ne, h2, h.ne, h.nbo, b1.grown g2 b1.size (fun k hk => by cases hk; exact h.nq), h.np, h.nq⟩
theorem St.below {w0 w w' : World} {pb qb : Nat} {bo : Option Addr} {bc : Nat} {l : List UInt8} {a : Nat} (h : St w0 w pb qb bo bc l a) (hb : Below w.heap.size w w') : St w0 w' pb qb bo bc l a :=
  ⟨h.rd.below hb, h.rr.below hb, h.ne, h.nbo, h.bel.trans (hb.mono h.bel.size), h.np, h.nq⟩
set_option maxHeartbeats 1000000 in
set_option maxRecDepth 100000 in
theorem read_1 (pb qb : Nat) (bo : Option Addr) (bc : Nat) (l : List UInt8) (a : Nat) (w0 w : World) (h : St w0 w pb qb bo bc l a) :
    Calls Tryd.prog 24 #[.pointer (some ⟨pb, 0, none⟩), .pointer (some ⟨qb, 0, none⟩), .int .i64 1] w fun e w' => e = .returned (.bool true) ∧ ∃ a', St w0 w' pb qb bo bc l a' := by
  have cU := U8_of (.pointer (some ⟨pb, 0, none⟩)) w (rnumV 1 (l.drop a)) (rnumE 1 (l.drop a)) (rnumV_lt 1 _) _ (numX pb qb 1 _ w h.rd (by decide) (by decide))
  have cN := fun w1 (g1 : w.grownBy w1 (some pb)) => refNumX qb a 1 bo bc l w1 (h.rr.grown g1 h.ne h.nbo) (by decide)
  have hvl := rnumV_lt 1 (l.drop a)
  have Hst : Hid (∀ w1 w2, RdX w1 pb qb ((l.drop a).drop (rnumK 1 (l.drop a))) → w.grownBy w1 (some pb) → RR w2 qb (a + rnumK 1 (l.drop a)) bo bc l → w1.grownBy w2 (some qb) → St w0 w2 pb qb bo bc l (a + rnumK 1 (l.drop a))) := hide (fun w1 w2 h1 g1 h2 g2 => h.after h1 g1 h2 g2)
  clear h
  generalize rnumV 1 (l.drop a) = v at *
  generalize rnumE 1 (l.drop a) = er at *
  go_enter Tryd.func24, Tryd.ntmps24
  go_wp2_with fail
  refine cU.mono ?_
  rintro e w1 ⟨rfl, h1, g1⟩
  go_wp2_with fail
  refine (cN w1 g1).mono ?_
  rintro e w2 ⟨rfl, h2, g2⟩
  go_wp2_with fail
  go_ret
  exact ⟨rfl, _, Hst.out w1 w2 h1 g1 h2 g2⟩
set_option maxHeartbeats 1000000 in
set_option maxRecDepth 100000 in
theorem read_2 (pb qb : Nat) (bo : Option Addr) (bc : Nat) (l : List UInt8) (a : Nat) (w0 w : World) (h : St w0 w pb qb bo bc l a) :
    Calls Tryd.prog 24 #[.pointer (some ⟨pb, 0, none⟩), .pointer (some ⟨qb, 0, none⟩), .int .i64 2] w fun e w' => e = .returned (.bool true) ∧ ∃ a', St w0 w' pb qb bo bc l a' := by
  have cU := U16_of (.pointer (some ⟨pb, 0, none⟩)) w (rnumV 2 (l.drop a)) (rnumE 2 (l.drop a)) (rnumV_lt 2 _) _ (numX pb qb 2 _ w h.rd (by decide) (by decide))
  have cN := fun w1 (g1 : w.grownBy w1 (some pb)) => refNumX qb a 2 bo bc l w1 (h.rr.grown g1 h.ne h.nbo) (by decide)
  have hvl := rnumV_lt 2 (l.drop a)
  have Hst : Hid (∀ w1 w2, RdX w1 pb qb ((l.drop a).drop (rnumK 2 (l.drop a))) → w.grownBy w1 (some pb) → RR w2 qb (a + rnumK 2 (l.drop a)) bo bc l → w1.grownBy w2 (some qb) → St w0 w2 pb qb bo bc l (a + rnumK 2 (l.drop a))) := hide (fun w1 w2 h1 g1 h2 g2 => h.after h1 g1 h2 g2)
  clear h
  generalize rnumV 2 (l.drop a) = v at *
  generalize rnumE 2 (l.drop a) = er at *
  go_enter Tryd.func24, Tryd.ntmps24
  go_wp2_with fail
  refine cU.mono ?_
  rintro e w1 ⟨rfl, h1, g1⟩
  go_wp2_with fail
  refine (cN w1 g1).mono ?_
  rintro e w2 ⟨rfl, h2, g2⟩
  go_wp2_with fail
  go_ret
  exact ⟨rfl, _, Hst.out w1 w2 h1 g1 h2 g2⟩
set_option maxHeartbeats 1000000 in
set_option maxRecDepth 100000 in
theorem read_3 (pb qb : Nat) (bo : Option Addr) (bc : Nat) (l : List UInt8) (a : Nat) (w0 w : World) (h : St w0 w pb qb bo bc l a) :
    Calls Tryd.prog 24 #[.pointer (some ⟨pb, 0, none⟩), .pointer (some ⟨qb, 0, none⟩), .int .i64 3] w fun e w' => e = .returned (.bool true) ∧ ∃ a', St w0 w' pb qb bo bc l a' := by
  have cU := U32_of (.pointer (some ⟨pb, 0, none⟩)) w (rnumV 4 (l.drop a)) (rnumE 4 (l.drop a)) (rnumV_lt 4 _) _ (numX pb qb 4 _ w h.rd (by decide) (by decide))
  have cN := fun w1 (g1 : w.grownBy w1 (some pb)) => refNumX qb a 4 bo bc l w1 (h.rr.grown g1 h.ne h.nbo) (by decide)
  have hvl := rnumV_lt 4 (l.drop a)
  have Hst : Hid (∀ w1 w2, RdX w1 pb qb ((l.drop a).drop (rnumK 4 (l.drop a))) → w.grownBy w1 (some pb) → RR w2 qb (a + rnumK 4 (l.drop a)) bo bc l → w1.grownBy w2 (some qb) → St w0 w2 pb qb bo bc l (a + rnumK 4 (l.drop a))) := hide (fun w1 w2 h1 g1 h2 g2 => h.after h1 g1 h2 g2)
  clear h
  generalize rnumV 4 (l.drop a) = v at *
  generalize rnumE 4 (l.drop a) = er at *
  go_enter Tryd.func24, Tryd.ntmps24
  go_wp2_with fail
  refine cU.mono ?_
  rintro e w1 ⟨rfl, h1, g1⟩
  go_wp2_with fail
  refine (cN w1 g1).mono ?_
  rintro e w2 ⟨rfl, h2, g2⟩
  go_wp2_with fail
  go_ret
  exact ⟨rfl, _, Hst.out w1 w2 h1 g1 h2 g2⟩
set_option maxHeartbeats 1000000 in
set_option maxRecDepth 100000 in
theorem read_4 (pb qb : Nat) (bo : Option Addr) (bc : Nat) (l : List UInt8) (a : Nat) (w0 w : World) (h : St w0 w pb qb bo bc l a) :
    Calls Tryd.prog 24 #[.pointer (some ⟨pb, 0, none⟩), .pointer (some ⟨qb, 0, none⟩), .int .i64 4] w fun e w' => e = .returned (.bool true) ∧ ∃ a', St w0 w' pb qb bo bc l a' := by
  have cU := U64_of (.pointer (some ⟨pb, 0, none⟩)) w (rnumV 8 (l.drop a)) (rnumE 8 (l.drop a)) _ (numX pb qb 8 _ w h.rd (by decide) (by decide))
  have cN := fun w1 (g1 : w.grownBy w1 (some pb)) => refNumX qb a 8 bo bc l w1 (h.rr.grown g1 h.ne h.nbo) (by decide)
  have hvl := rnumV_lt 8 (l.drop a)
  have Hst : Hid (∀ w1 w2, RdX w1 pb qb ((l.drop a).drop (rnumK 8 (l.drop a))) → w.grownBy w1 (some pb) → RR w2 qb (a + rnumK 8 (l.drop a)) bo bc l → w1.grownBy w2 (some qb) → St w0 w2 pb qb bo bc l (a + rnumK 8 (l.drop a))) := hide (fun w1 w2 h1 g1 h2 g2 => h.after h1 g1 h2 g2)
  clear h
  generalize rnumV 8 (l.drop a) = v at *
  generalize rnumE 8 (l.drop a) = er at *
  go_enter Tryd.func24, Tryd.ntmps24
  go_wp2_with fail
  refine cU.mono ?_
  rintro e w1 ⟨rfl, h1, g1⟩
  go_wp2_with fail
  refine (cN w1 g1).mono ?_
  rintro e w2 ⟨rfl, h2, g2⟩
  go_wp2_with fail
  go_ret
  exact ⟨rfl, _, Hst.out w1 w2 h1 g1 h2 g2⟩
set_option maxHeartbeats 1000000 in
set_option maxRecDepth 100000 in
theorem read_5 (pb qb : Nat) (bo : Option Addr) (bc : Nat) (l : List UInt8) (a : Nat) (w0 w : World) (h : St w0 w pb qb bo bc l a) :
    Calls Tryd.prog 24 #[.pointer (some ⟨pb, 0, none⟩), .pointer (some ⟨qb, 0, none⟩), .int .i64 5] w fun e w' => e = .returned (.bool true) ∧ ∃ a', St w0 w' pb qb bo bc l a' := by
  have hfrm := from64_run
  have cU := F64_of (.pointer (some ⟨pb, 0, none⟩)) w (rnumV 8 (l.drop a)) (rnumE 8 (l.drop a)) _ (numX pb qb 8 _ w h.rd (by decide) (by decide))
  have cN := fun w1 (g1 : w.grownBy w1 (some pb)) => refNumX qb a 8 bo bc l w1 (h.rr.grown g1 h.ne h.nbo) (by decide)
  have hvl : rnumV 8 (l.drop a) < 18446744073709551616 := rnumV_lt 8 (l.drop a)
  have Hst : Hid (∀ w1 w2, RdX w1 pb qb ((l.drop a).drop (rnumK 8 (l.drop a))) → w.grownBy w1 (some pb) → RR w2 qb (a + rnumK 8 (l.drop a)) bo bc l → w1.grownBy w2 (some qb) → St w0 w2 pb qb bo bc l (a + rnumK 8 (l.drop a))) := hide (fun w1 w2 h1 g1 h2 g2 => h.after h1 g1 h2 g2)
  clear h
  generalize rnumV 8 (l.drop a) = v at *
  generalize rnumE 8 (l.drop a) = er at *
  go_enter Tryd.func24, Tryd.ntmps24
  go_wp2_with fail
  refine cU.mono ?_
  rintro e w1 ⟨rfl, h1, g1⟩
  go_wp2_with fail
  refine (cN w1 g1).mono ?_
  rintro e w2 ⟨rfl, h2, g2⟩
  go_wp2_with fail
  refine (Same_any v v _).mono ?_
  rw [beq_self_eq_true]
  rintro e w3 ⟨rfl, rfl⟩
  go_wp2_with fail
  go_ret
  exact ⟨rfl, _, Hst.out w1 _ h1 g1 h2 g2⟩
set_option maxHeartbeats 1000000 in
set_option maxRecDepth 100000 in
theorem read_6 (pb qb : Nat) (bo : Option Addr) (bc : Nat) (l : List UInt8) (a : Nat) (w0 w : World) (h : St w0 w pb qb bo bc l a) :
    Calls Tryd.prog 24 #[.pointer (some ⟨pb, 0, none⟩), .pointer (some ⟨qb, 0, none⟩), .int .i64 6] w fun e w' => e = .returned (.bool true) ∧ ∃ a', St w0 w' pb qb bo bc l a' := by
  have hfrm := from32_run
  have cU := F32_of (.pointer (some ⟨pb, 0, none⟩)) w (rnumV 4 (l.drop a)) (rnumE 4 (l.drop a)) (rnumV_lt 4 _) _ (numX pb qb 4 _ w h.rd (by decide) (by decide))
  have cN := fun w1 (g1 : w.grownBy w1 (some pb)) => refNumX qb a 4 bo bc l w1 (h.rr.grown g1 h.ne h.nbo) (by decide)
  have hvl : rnumV 4 (l.drop a) < 4294967296 := rnumV_lt 4 (l.drop a)
  have Hst : Hid (∀ w1 w2, RdX w1 pb qb ((l.drop a).drop (rnumK 4 (l.drop a))) → w.grownBy w1 (some pb) → RR w2 qb (a + rnumK 4 (l.drop a)) bo bc l → w1.grownBy w2 (some qb) → St w0 w2 pb qb bo bc l (a + rnumK 4 (l.drop a))) := hide (fun w1 w2 h1 g1 h2 g2 => h.after h1 g1 h2 g2)
  clear h
  generalize rnumV 4 (l.drop a) = v at *
  generalize rnumE 4 (l.drop a) = er at *
  go_enter Tryd.func24, Tryd.ntmps24
  go_wp2_with fail
  refine cU.mono ?_
  rintro e w1 ⟨rfl, h1, g1⟩
  go_wp2_with fail
  refine (cN w1 g1).mono ?_
  rintro e w2 ⟨rfl, h2, g2⟩
  go_wp2_with fail
  refine (Same32_any v v _ hvl hvl).mono ?_
  rw [beq_self_eq_true]
  rintro e w3 ⟨rfl, rfl⟩
  go_wp2_with fail
  go_ret
  exact ⟨rfl, _, Hst.out w1 _ h1 g1 h2 g2⟩
set_option maxHeartbeats 1000000 in
set_option maxRecDepth 100000 in
theorem read_7 (pb qb : Nat) (bo : Option Addr) (bc : Nat) (l : List UInt8) (a : Nat) (w0 w : World) (h : St w0 w pb qb bo bc l a) (hT : Tabs w) (hV : VAll) :
    Calls Tryd.prog 24 #[.pointer (some ⟨pb, 0, none⟩), .pointer (some ⟨qb, 0, none⟩), .int .i64 7] w fun e w' => e = .returned (.bool true) ∧ ∃ a', St w0 w' pb qb bo bc l a' := by
  have cU := textX pb qb _ w h.rd hT hV
  have cN := fun w1 (g1 : w.grownBy w1 (some pb)) => refTextX qb a bo bc l w1 (h.rr.grown g1 h.ne h.nbo)
  have Hst : Hid (∀ w1 w2, RdX w1 pb qb ((l.drop a).drop (rtxK (l.drop a))) → w.grownBy w1 (some pb) → RR w2 qb (a + rtxK (l.drop a)) bo bc l → w1.grownBy w2 (some qb) → St w0 w2 pb qb bo bc l (a + rtxK (l.drop a))) := hide (fun w1 w2 h1 g1 h2 g2 => h.after h1 g1 h2 g2)
  clear h hV
  generalize rtxS (l.drop a) = v at *
  generalize rtxE (l.drop a) = er at *
  go_enter Tryd.func24, Tryd.ntmps24
  go_wp2_with fail
  refine cU.mono ?_
  rintro e w1 ⟨rfl, h1, g1⟩
  go_wp2_with fail
  refine (cN w1 g1).mono ?_
  rintro e w2 ⟨rfl, h2, g2⟩
  go_wp2_with fail
  go_ret
  exact ⟨rfl, _, Hst.out w1 w2 h1 g1 h2 g2⟩
set_option maxHeartbeats 1000000 in
set_option maxRecDepth 100000 in
theorem read_0 (pb qb : Nat) (bo : Option Addr) (bc : Nat) (l : List UInt8) (a : Nat) (k : Int) (w0 w : World) (h : St w0 w pb qb bo bc l a) (e1 : k ≠ 1) (e2 : k ≠ 2) (e3 : k ≠ 3) (e4 : k ≠ 4) (e5 : k ≠ 5) (e6 : k ≠ 6) (e7 : k ≠ 7) :
    Calls Tryd.prog 24 #[.pointer (some ⟨pb, 0, none⟩), .pointer (some ⟨qb, 0, none⟩), .int .i64 k] w fun e w' => e = .returned (.bool true) ∧ ∃ a', St w0 w' pb qb bo bc l a' := by
  have z1 : (k == 1) = false := by rw [beq_eq_false_iff_ne]; exact e1
  have z2 : (k == 2) = false := by rw [beq_eq_false_iff_ne]; exact e2
  have z3 : (k == 3) = false := by rw [beq_eq_false_iff_ne]; exact e3
  have z4 : (k == 4) = false := by rw [beq_eq_false_iff_ne]; exact e4
  have z5 : (k == 5) = false := by rw [beq_eq_false_iff_ne]; exact e5
  have z6 : (k == 6) = false := by rw [beq_eq_false_iff_ne]; exact e6
  have z7 : (k == 7) = false := by rw [beq_eq_false_iff_ne]; exact e7
  have hdr : ∀ q, St w0 (w.drewN q) pb qb bo bc l a := fun q => h.below (below_drewN (Below.refl _ _) _)
  have cE : ∀ W, (∃ q, W = w.drewN q) → Calls Tryd.prog 30 #[.pointer (some ⟨pb, 0, none⟩)] W fun e w' => e = .returned (.int .i64 (if (l.drop a).length = 0 then 0 else 11)) ∧ w' = W := by
    rintro W ⟨q, rfl⟩; exact EndX pb qb _ (w.drewN q) (hdr q).rd
  have cL : ∀ W, (∃ q, W = w.drewN q) → Calls Tryd.prog 26 #[.pointer (some ⟨qb, 0, none⟩)] W fun e w' => e = .returned (.int .i64 ((l.drop a).length : Int)) ∧ ∃ q, w' = W.drewN q := by
    rintro W ⟨q, rfl⟩; exact refLeft_any qb a bo bc l (w.drewN q) (hdr q).rr
  have Hst := hide hdr
  clear e1 e2 e3 e4 e5 e6 e7 h hdr
  generalize (l.drop a).length = m at *
  go_enter Tryd.func24, Tryd.ntmps24
  by_cases hm : m = 0
  · subst hm
    rw [if_pos rfl] at cE
    go_wp2_with fail
    refine (cE _ ⟨0, rfl⟩).mono ?_
    rintro e w1 ⟨rfl, rfl⟩
    go_wp2_with fail
    refine (cL _ ⟨0, rfl⟩).mono ?_
    rintro e w2 ⟨rfl, q2, rfl⟩
    go_wp2_with fail
    refine (cE _ ⟨q2, rfl⟩).mono ?_
    rintro e w3 ⟨rfl, rfl⟩
    go_wp2_with fail
    refine (cL _ ⟨q2, rfl⟩).mono ?_
    rintro e w4 ⟨rfl, q4, rfl⟩
    go_wp2_with fail
    go_ret
    exact ⟨rfl, a, by first | exact Hst.out _ | (rw [World.drewN_drewN]; exact Hst.out _)⟩
  · rw [if_neg hm] at cE
    have hmz : ((m : Int) == 0) = false := by rw [beq_eq_false_iff_ne]; omega
    have hmn : ((m : Int) != 0) = true := by rw [bne, hmz]; rfl
    go_wp2_with fail
    refine (cE _ ⟨0, rfl⟩).mono ?_
    rintro e w1 ⟨rfl, rfl⟩
    go_wp2_with fail
    refine (cL _ ⟨0, rfl⟩).mono ?_
    rintro e w2 ⟨rfl, q2, rfl⟩
    go_wp2_with fail
    refine (cE _ ⟨q2, rfl⟩).mono ?_
    rintro e w3 ⟨rfl, rfl⟩
    go_wp2_with fail
    refine (cL _ ⟨q2, rfl⟩).mono ?_
    rintro e w4 ⟨rfl, q4, rfl⟩
    go_wp2_with fail
    go_ret
    exact ⟨rfl, a, by first | exact Hst.out _ | (rw [World.drewN_drewN]; exact Hst.out _)⟩
end Go.Proofs.YtckcdgobgpjdkaaDoor.Oct
