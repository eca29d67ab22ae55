/- strconv.FormatFloat(0.125, 'f', 2, 64), to its end. -/
import Derived.Test.YtnpdfkcjjedamaaGreatDoorSx
import Derived.Test.YtnpdfkcjjedamaaGreatDoorLib
namespace Go.Proofs.YtnpdfkcjjedamaaGreatDoor.Sca
open Go.RowKit Go.Lib Go.Shelf Go.Proofs.YtnpdfkcjjedamaaGreatDoor.Oct

theorem grown_set (w : World) (b o : Nat) (v : Value) : w.grownBy (w.setCell ⟨b, o, none⟩ v) (some b) :=
  ⟨rfl, rfl, rfl, by simp, fun k _ hk => Below.heap_setCell _ _ _ k (fun e => hk (by rw [e]))⟩
theorem grown_drewN {w w' : World} {r : Option Nat} (h : w.grownBy w' r) (q : Nat) : w.grownBy (w'.drewN q) r := by
  induction q with
  | zero => exact h
  | succ n ih => exact ⟨ih.os, ih.tape, ih.output, ih.size, ih.block⟩
theorem two12_facts (w : World) (b : Nat) (h0 : w.cell? ⟨b, 0, none⟩ = some (.int .u8 0)) (h1 : w.cell? ⟨b, 1, none⟩ = some (.int .u8 0)) :
    w.grownBy (two12 w b) (some b) ∧ (two12 w b).cell? ⟨b, 0, none⟩ = some (.int .u8 49) ∧ (two12 w b).cell? ⟨b, 1, none⟩ = some (.int .u8 50) := by
  unfold two12
  refine ⟨(grown_set w b 1 _).trans (grown_set _ b 0 _), ?_, ?_⟩
  · go_simp
  · go_simp
set_option maxRecDepth 100000 in
theorem setDigits_c (w : World) (b : Nat) (h0 : w.cell? ⟨b, 0, none⟩ = some (.int .u8 0)) (h1 : w.cell? ⟨b, 1, none⟩ = some (.int .u8 0)) (f0 : w.frozen? ⟨b, 0, none⟩ = false) (f1 : w.frozen? ⟨b, 1, none⟩ = false) :
    Calls Tryz.prog 101 #[.slice (some ⟨b, 0, none⟩) 24 24, .int .u64 12, .int .i64 (-2), .int .i64 2] w fun e w' => e = .returned (.tuple #[.int .i64 0, .int .i64 2]) ∧ w.grownBy w' (some b) ∧ w'.cell? ⟨b, 0, none⟩ = some (.int .u8 49) ∧ w'.cell? ⟨b, 1, none⟩ = some (.int .u8 50) := by
  have mixed := mixed_ok
  have cF := base10_c w b h0 h1 f0 f1
  obtain ⟨g1, g2, g3⟩ := two12_facts w b h0 h1
  go_enter Tryz.func101, Tryz.ntmps101
  go_wp2_with fail
  refine cF.mono ?_
  rintro e w1 ⟨rfl, q, rfl⟩
  go_wp2_with fail
  refine wp_loop_rounds 1 ?_
  rw [rounds_succ]
  go_wp2
  go_ret2
  exact ⟨rfl, grown_drewN g1 _, by simp [g2], by simp [g3]⟩
theorem info5 : (Tryz.prog.info? 5).map (fun i => (i.zero, i.size, i.bytes)) = some (some (.int .u8 0), 1, 1) := by kernel_rfl
set_option maxRecDepth 100000 in
theorem fmtEFG_c (w : World) (B b : Nat) (ao : Option Addr) (c : Nat) (hB : B ≤ w.heap.size) (hown : w.ownsRow B 5 1 (.slice ao 0 c) 0 (bv [])) (hne : some b ≠ ob ao) (h0 : w.cell? ⟨b, 0, none⟩ = some (.int .u8 49)) (h1 : w.cell? ⟨b, 1, none⟩ = some (.int .u8 50)) :
    Calls Tryz.prog 99 #[.slice ao 0 c, .bool false, .slice (some ⟨b, 0, none⟩) 24 24, .int .i64 0, .int .i64 2, .int .i64 2, .int .u8 102, .bool false] w fun e w' => ∃ g c', e = .returned (.slice (some ⟨g, 0, none⟩) 4 c') ∧ w'.ownsRow B 5 1 (.slice (some ⟨g, 0, none⟩) 4 c') 4 (bv [48, 46, 49, 50]) ∧ Below B w w' := by
  have mixed := mixed_ok
  have e1 : min (2 : Int) 0 = 0 := rfl
  have e2 : max (0 : Int) 0 = 0 := rfl
  have e3 : min (2 : Int) 2 = 2 := rfl
  have e4 : max (0 : Int) 2 = 2 := rfl
  go_enter Tryz.func99, Tryz.ntmps99
  go_wp2_with (at_builtin; refine wpList_push rfl _ _ 95 rfl 5 Tryz.underlying95 info5 B ao 0 c [] rfl hown 48 48 rfl rfl (by omega) hB ?_)
  intro g1 c1 w1 hown1 hgrow1 hat1
  have hB1 : B ≤ w1.heap.size := Nat.le_trans hB hgrow1.size
  have hb1 : Below B w w1 := (Below.refl _ _).grown hgrow1 hB (fun q hq => (hown.lt q (by rw [ob_eq]; exact hq)).1)
  have h01 := hgrow1.cell h0 hne
  have h11 := hgrow1.cell h1 hne
  have hne1 : b ≠ g1 := by
    rintro rfl
    rcases hat1 with h | h
    · exact hne h.symm
    · have := World.block_lt_of_cell? w _ h0
      simp at this
      omega
  clear hgrow1 hat1 hown
  go_wp2_with (at_builtin; refine wpList_push rfl _ _ 95 rfl 5 Tryz.underlying95 info5 B (some ⟨g1, 0, none⟩) 1 c1 [48] rfl hown1 46 46 rfl rfl (by omega) hB1 ?_)
  intro g2 c2 w2 hown2 hgrow2 hat2
  have hB2 : B ≤ w2.heap.size := Nat.le_trans hB1 hgrow2.size
  have hb2 : Below B w w2 := hb1.grown hgrow2 hB1 (fun q hq => (hown1.lt q (by rw [ob_eq]; exact hq)).1)
  have h02 := hgrow2.cell h01 (by simpa [ob] using hne1)
  have h12 := hgrow2.cell h11 (by simpa [ob] using hne1)
  have hne2 : b ≠ g2 := by
    rintro rfl
    rcases hat2 with h | h
    · exact hne1 (by simpa [ob] using h.symm)
    · have := World.block_lt_of_cell? w1 _ h01
      simp at this
      omega
  clear hgrow2 hat2 hown1
  go_wp2
  refine wp_loop_rounds 1 ?_
  rw [rounds_succ]
  go_wp2
  refine wp_loop_rounds 3 ?_
  rw [rounds_succ]
  go_wp2_with (at_builtin; refine wpList_push rfl _ _ 95 rfl 5 Tryz.underlying95 info5 B (some ⟨g2, 0, none⟩) 2 c2 [48, 46] rfl hown2 49 49 rfl rfl (by omega) hB2 ?_)
  intro g3 c3 w3 hown3 hgrow3 hat3
  have hB3 : B ≤ w3.heap.size := Nat.le_trans hB2 hgrow3.size
  have hb3 : Below B w w3 := hb2.grown hgrow3 hB2 (fun q hq => (hown2.lt q (by rw [ob_eq]; exact hq)).1)
  have h03 := hgrow3.cell h02 (by simpa [ob] using hne2)
  have h13 := hgrow3.cell h12 (by simpa [ob] using hne2)
  have hne3 : b ≠ g3 := by
    rintro rfl
    rcases hat3 with h | h
    · exact hne2 (by simpa [ob] using h.symm)
    · have := World.block_lt_of_cell? w2 _ h02
      simp at this
      omega
  clear hgrow3 hat3 hown2
  go_wp2
  rw [rounds_succ]
  go_wp2_with (at_builtin; refine wpList_push rfl _ _ 95 rfl 5 Tryz.underlying95 info5 B (some ⟨g3, 0, none⟩) 3 c3 [48, 46, 49] rfl hown3 50 50 rfl rfl (by omega) hB3 ?_)
  intro g4 c4 w4 hown4 hgrow4 hat4
  have hB4 : B ≤ w4.heap.size := Nat.le_trans hB3 hgrow4.size
  have hb4 : Below B w w4 := hb3.grown hgrow4 hB3 (fun q hq => (hown3.lt q (by rw [ob_eq]; exact hq)).1)
  have h04 := hgrow4.cell h03 (by simpa [ob] using hne3)
  have h14 := hgrow4.cell h13 (by simpa [ob] using hne3)
  have hne4 : b ≠ g4 := by
    rintro rfl
    rcases hat4 with h | h
    · exact hne3 (by simpa [ob] using h.symm)
    · have := World.block_lt_of_cell? w3 _ h03
      simp at this
      omega
  clear hgrow4 hat4 hown3
  go_wp2
  rw [rounds_succ]
  go_wp2
  refine wp_loop_rounds 1 ?_
  rw [rounds_succ]
  go_wp2
  go_ret
  exact ⟨_, _, rfl, hown4, hb4⟩
end Go.Proofs.YtnpdfkcjjedamaaGreatDoor.Sca
