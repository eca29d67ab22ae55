/- Fixed(0.125, 2). -/
import Derived.Test.YtnpdfkcjjedamaaGreatDoorSy
import Derived.Deep.RegionWith
namespace Go.Proofs.YtnpdfkcjjedamaaGreatDoor.Sca
open Go.RowKit Go.Lib Go.Shelf Go.Proofs.YtnpdfkcjjedamaaGreatDoor.Oct

theorem fbits_run (b : Nat) (w : World) : (callFunc 96 #[.float .f64 b]).run Tryz.prog w = .ok (.value (.int .u64 (b : Int))) w := by kernel_rfl
theorem own_drewN {w : World} {B : Nat} {t : TypeId} {v : Value} {n : Nat} {xs : List Value} (h : w.ownsRow B t 1 v n xs) (q : Nat) : (w.drewN q).ownsRow B t 1 v n xs := h
theorem Tf.drewN {w : World} (h : Tf w) (q : Nat) : Tf (w.drewN q) := ⟨h.p1, h.p2, h.op, h.t1, h.t3⟩
theorem Tf.drew {w : World} (h : Tf w) : Tf w.drew := ⟨h.p1, h.p2, h.op, h.t1, h.t3⟩
theorem grown_below {w w' : World} (h : Below w.heap.size w w') : w.grownBy w' none := ⟨h.os, h.tape, h.output, h.size, fun i hi _ => h.block i hi⟩
theorem own_below {w w' : World} {B : Nat} {t : TypeId} {v : Value} {n : Nat} {xs : List Value} (h : w.ownsRow B t 1 v n xs) (hb : Below w.heap.size w w') : w'.ownsRow B t 1 v n xs :=
  h.kept (grown_below hb) (by cases hv : v.ownBlock <;> simp)
theorem ora : bits .or .u64 0 4503599627370496 = 4503599627370496 := by decide +kernel
theorem anda : bits .and .i64 1020 2047 = 1020 := by decide +kernel
theorem andb : bits .and .u64 4593671619917905920 4503599627370495 = 0 := by decide +kernel
set_option maxRecDepth 100000 in
set_option maxHeartbeats 400000 in
theorem ftoa64_c (w : World) (ao : Option Addr) (c : Nat) (h : Tf w) (B : Nat) (hB : B ≤ w.heap.size) (hown : w.ownsRow B 5 1 (.slice ao 0 c) 0 (bv [])) :
    Calls Tryz.prog 86 #[.slice ao 0 c, .float .f64 4593671619917905920, .int .u8 102, .int .i64 2] w fun e w' => ∃ g c', e = .returned (.slice (some ⟨g, 0, none⟩) 4 c') ∧ w'.ownsRow B 5 1 (.slice (some ⟨g, 0, none⟩) 4 c') 4 (bv [48, 46, 49, 50]) ∧ Below B w w' := by
  have mixed := mixed_ok
  have hb := fbits_run
  have o1 := ora
  have o2 := anda
  have o3 := andb
  have h0 := h
  have hown0 := hown
  have hB0 := hB
  have hop0 := h.op
  have hb0 : Below B w w := Below.refl _ _
  clear h hown hB
  obtain ⟨w0, hw0⟩ : ∃ w0, w = w0 := ⟨_, rfl⟩
  have hb0 : Below B w w0 := hw0 ▸ hb0
  rw [hw0] at h0 hown0 hB0 hop0
  rw [show Calls Tryz.prog 86 #[.slice ao 0 c, .float .f64 4593671619917905920, .int .u8 102, .int .i64 2] w = Calls Tryz.prog 86 #[.slice ao 0 c, .float .f64 4593671619917905920, .int .u8 102, .int .i64 2] w0 from by rw [hw0]]
  clear hw0
  have cL : ∀ w, Calls Tryz.prog 60 #[.int .u64 4503599627370496] w fun e w' => e = .returned (.int .i64 53) ∧ w' = w := fun w => by
    have := len64 4503599627370496 (by decide) w
    rw [show bl 4503599627370496 = 53 from by decide +kernel] at this
    exact this
  go_enter Tryz.func86, Tryz.ntmps86
  go_wp2_with fail
  go_big_quiet_o (fail)
  have h1 := h0.drewN nq
  have hop1 := h1.op
  have hown1 := own_drewN hown0 nq
  have hB1 : B ≤ (w0.drewN nq).heap.size := hB0
  have hb1 := below_drewN hb0 nq
  clear h0 hop0 hown0 hB0 hb0
  generalize w0.drewN nq = w1 at *
  go_wp2_with (first | (go_at_call 60; refine (cL _).mono ?_; rintro e w' ⟨rfl, hw⟩; obtain rfl := hw.symm) | (go_at_call 103; refine (log10_3 _).mono ?_; rintro e w' ⟨rfl, hw⟩; obtain rfl := hw.symm))
  obtain ⟨W, hW⟩ : ∃ W, W = w1.alloc (.cells (buf24 0 0) 120) := ⟨_, rfl⟩
  have hbW : Below w1.heap.size w1 W := hW ▸ (Below.refl _ _).alloc (Nat.le_refl _) _
  have hWs : W.heap.size = w1.heap.size + 1 := by rw [hW]; simp
  have hc0 : W.cell? ⟨w1.heap.size, 0, none⟩ = some (.int .u8 0) := by rw [hW]; simp
  have hc1 : W.cell? ⟨w1.heap.size, 1, none⟩ = some (.int .u8 0) := by rw [hW]; simp
  have hf0 : W.frozen? ⟨w1.heap.size, 0, none⟩ = false := by rw [hW]; simp
  have hf1 : W.frozen? ⟨w1.heap.size, 1, none⟩ = false := by rw [hW]; simp
  rw [← hW]
  have hTW := h1.below hbW
  have hownW := own_below hown1 hbW
  have hbB : Below B w W := hb1.trans (hbW.mono hB1)
  have hneb : some w1.heap.size ≠ ob ao := fun e => by
    have := (hown1.lt w1.heap.size (by rw [ob_eq]; exact e.symm)).2
    omega
  generalize w1.heap.size = b at *
  clear hW hown1 hb1 hop1 h1 hb0 hbW
  refine (fixedWidth_c W hTW).mono ?_
  rintro e w2 ⟨rfl, hb2⟩
  have hT2 := hTW.below hb2
  have hown2 := own_below hownW hb2
  have hbB2 : Below B w w2 := hbB.trans (hb2.mono (by omega))
  have hd0 := cell_below hc0 hb2
  have hd1 := cell_below hc1 hb2
  have hg0 : w2.frozen? ⟨b, 0, none⟩ = false := (hb2.frozen (by simp; omega)).trans hf0
  have hg1 : w2.frozen? ⟨b, 1, none⟩ = false := (hb2.frozen (by simp; omega)).trans hf1
  have hs2 : b < w2.heap.size := World.block_lt_of_cell? w2 _ hd0
  clear hb2 hTW hownW hbB hc0 hc1 hf0 hf1 hWs W
  go_wp2_with fail
  go_region_with (first | (go_at_call 102; refine (numDigits_c _ hT2.drew).mono ?_; rintro e w' ⟨rfl, hw⟩; obtain rfl := hw.symm) | (go_at_call 101; refine (setDigits_c _ b (by exact hd0) (by exact hd1) (by exact hg0) (by exact hg1)).mono ?_; rintro e w3 ⟨rfl, hgr3, he0, he1⟩))
  have hown3 : w3.ownsRow B 5 1 (.slice ao 0 c) 0 (bv []) := (World.ownsRow.drew hown2).kept hgr3 (.inr (by rw [ob_eq]; exact fun e => hneb e.symm))
  have hbB3 : Below B w w3 := hbB2.drew.grown hgr3 (by show B ≤ w2.heap.size; omega) (fun k hk => by cases hk; exact hB1)
  have hs3 : b < w3.heap.size := World.block_lt_of_cell? w3 _ he0
  clear hgr3 hown2 hbB2 hd0 hd1 hg0 hg1 hs2 hT2
  go_wp2_with fail
  refine (fmtEFG_c w3 B b ao c (by omega) hown3 hneb he0 he1).mono ?_
  rintro e w4 ⟨g, c', rfl, hown4, hb4⟩
  go_wp2
  go_ret
  exact ⟨g, c', rfl, hown4, hbB3.trans hb4⟩
end Go.Proofs.YtnpdfkcjjedamaaGreatDoor.Sca
