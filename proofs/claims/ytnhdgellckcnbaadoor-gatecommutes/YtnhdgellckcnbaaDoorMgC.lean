/- The document's Matrix of the monomial kinds with 2 rows. -/
import Derived.Test.YtnhdgellckcnbaaDoorMgB
import Derived.Test.YtnhdgellckcnbaaDoorXq
/- The document's Matrix of the monomial kinds with 2 rows. -/
namespace Go.Proofs.YtnhdgellckcnbaaDoor.Gt
open Go.RowKit Go.Proofs.YtnhdgellckcnbaaDoor.Oct Go.Proofs.YtnhdgellckcnbaaDoor.Dy

theorem rw_row_2 : ∀ x ∈ mvCases, (rw' (x.1 : Int)).q = 1 → rowsN x.1 = 2 := by decide +kernel
set_option maxRecDepth 100000 in
set_option maxHeartbeats 4000000 in
theorem hMat_m2 (k : Nat) (hq : (rw' (k : Int)).q = 1) (hh : hvB (rw' (k : Int)) = false) (hin : ∀ x, x < 2 → (k, x) ∈ mvCases) (w : World) : Calls Tryd.prog 9 #[.int .i64 (k : Int)] w fun e w' => ∃ g rb, e = .returned (.tuple #[.slice (some ⟨g, 0, none⟩) 2 2, .int .i64 0]) ∧ Dm w' g 2 rb (fun r c => if (mvT k c).1 = r then uz (mvT k c).2 else (0, 0)) ∧ w.heap.size ≤ g ∧ (∀ i, i < 2 → w.heap.size ≤ rb i) ∧ Below w.heap.size w w' := by
  have cI := fun w => hIs (k : Int) w
  have cA := fun w => hArity (k : Int) w
  have cH := fun w => hHalving (k : Int) w
  have cV := fun x (hx : x < 2) w => hMoves_in k x (hin x hx) w
  have cU := hUnit
  have hlt : ∀ x, x < 2 → (mvT k x).1 < 2 ∧ (mvT k x).2 < 4 := fun x hx => by
    have h1 := mv_in_lt (k, x) (hin x hx)
    have h2 := rw_row_2 (k, x) (hin x hx) hq
    dsimp only at h1 h2
    omega
  have hmk := make_z2
  have hmz := make_zz2
  have kn : knB (rw' (k : Int)) = true := by simp [knB, hq]
  rw [kn] at cI
  rw [hq] at cA
  rw [hh] at cH
  clear kn hq hh hin
  go_enter Tryd.func9, Tryd.ntmps9
  go_wp2_with (first
    | (go_at_call 31; refine (cI _).mono ?_; rintro e' w' ⟨rfl, hw⟩; obtain rfl := hw.symm)
    | (go_at_call 32; refine (cA _).mono ?_; rintro e' w' ⟨rfl, hw⟩; obtain rfl := hw.symm))
  have hq0 : Dq (w.alloc (.cells #[.slice none 0 0, .slice none 0 0] 62)) w.heap.size 2 0 (fun _ => 0) := ⟨⟨_, heap_alloc_new _ _, by simp, fun i hi => by
    rcases (by omega : i = 0 ∨ i = 1) with rfl | rfl <;> rfl⟩, fun r hr => by omega, fun r s hr => by omega, fun r hr => by omega⟩
  have b0 := below_new w (.cells #[.slice none 0 0, .slice none 0 0] 62)
  generalize w.alloc (.cells #[.slice none 0 0, .slice none 0 0] 62) = W0 at *
  have Q0 := hide hq0
  clear hq0
  go_loopw [6] (fun vr wr => ∃ (r : Nat) (rb : Nat → Nat), vr = .int .i64 (r : Int) ∧ r ≤ 2 ∧ Hid (Dq wr w.heap.size 2 r rb) ∧ Hid (∀ i, i < r → w.heap.size ≤ rb i) ∧ Below w.heap.size w wr) (fun vr _ => 2 - (Go.RowKit.intOf vr).toNat)
  case atStart => exact ⟨0, _, rfl, by omega, Q0, hide (fun i hi => by omega), b0⟩
  case round =>
    clear Q0 b0
    obtain ⟨r, rb, rfl, hrn, HD, HL, hb⟩ := hrel
    by_cases h : r < 2
    · have hd : decide ((r : Int) < 2) = true := decide_eq_true (by omega)
      have bz := below_new wr (.cells #[.float .f64 0, .float .f64 0, .float .f64 0, .float .f64 0] 66)
      have zf := (HD.out.top.below bz).frozen r
      have hc0 := (HD.out.top.below bz).cell r h
      have HS := hide (HD.out.step #[.float .f64 0, .float .f64 0, .float .f64 0, .float .f64 0] (by simp) (fun i hi => by
        rcases (by omega : i = 0 ∨ i = 1 ∨ i = 2 ∨ i = 3) with rfl | rfl | rfl | rfl <;> rfl))
      have hbS := (hb.trans (bz.mono hb.size)).setCell (p := ⟨w.heap.size, r, none⟩) (Nat.le_refl _) (.slice (some ⟨wr.heap.size, 0, none⟩) 2 2)
      have HL2 : Hid (∀ i, i < r + 1 → w.heap.size ≤ (if i = r then wr.heap.size else rb i)) := hide (fun i hi => by
        by_cases e : i = r
        · rw [if_pos e]; exact hb.size
        · rw [if_neg e]; exact HL.out i (by omega))
      clear HD bz hb HL
      go_wp2_with fail
      exact ⟨⟨r + 1, _, by go_num, by omega, HS, HL2, hbS⟩, by simp [Go.RowKit.intOf]; omega⟩
    · have hd : decide ((r : Int) < 2) = false := decide_eq_false (by omega)
      have er : r = 2 := by omega
      rw [er] at HD HL
      have H0 := hide HD.out.whole
      clear HD er
      go_wp2_with (go_at_call 33; refine (cH _).mono ?_; rintro e' w' ⟨rfl, hw⟩; obtain rfl := hw.symm)
      clear hd h hrn
      go_loopw [10] (fun vc wc => ∃ c : Nat, vc = .int .i64 (c : Int) ∧ c ≤ 2 ∧ Hid (Dm wc w.heap.size 2 rb (fun i j => if j < c ∧ (mvT k j).1 = i then uz (mvT k j).2 else (0, 0))) ∧ Below w.heap.size w wc) (fun vc _ => 2 - (Go.RowKit.intOf vc).toNat)
      case atStart => exact ⟨0, rfl, by omega, hide (H0.out.congr (fun r c _ _ => by simp)), hb⟩
      case round =>
        clear H0 hb
        obtain ⟨c, rfl, hcn, HD, hb⟩ := hrel
        by_cases hc : c < 2
        · have hdc : decide ((c : Int) < 2) = true := decide_eq_true (by omega)
          have hx := hlt c hc
          have cV := cV c hc
          have cU := cU _ hx.2
          have hxZ : ((mvT k c).1 : Int) < 2 := by omega
          have hcZ : (c : Int) < 2 := by omega
          have HS : ∀ W, Below wr.heap.size wr W → Dm _ w.heap.size 2 rb (fun i j => if j < c + 1 ∧ (mvT k j).1 = i then uz (mvT k j).2 else (0, 0)) := fun W hW => ((HD.out.below hW).set (r := (mvT k c).1) (c := c) hx.1 (uz (mvT k c).2)).congr (fun i j _ _ => by
            by_cases e : j = c
            · subst e
              by_cases e' : i = (mvT k j).1
              · rw [if_pos ⟨e', rfl⟩, if_pos ⟨by omega, e'.symm⟩]
              · rw [if_neg (fun h => e' h.1), if_neg (fun h => absurd h.1 (by omega)), if_neg (fun h => e' h.2.symm)]
            · rw [if_neg (fun h => e h.2)]
              have h1 : j < c + 1 ↔ j < c := by omega
              simp only [h1])
          have hD : Dm wr w.heap.size 2 rb _ := HD.out
          have s0 := hD.row hx.1
          have HB : ∀ W, Below wr.heap.size wr W → W.cell? ⟨w.heap.size, (mvT k c).1, none⟩ = some (.slice (some ⟨rb (mvT k c).1, 0, none⟩) 2 2) := fun W hW => (hD.below hW).row hx.1
          have HF : ∀ W, Below wr.heap.size wr W → ∀ i, W.frozen? ⟨rb (mvT k c).1, i, none⟩ = false := fun W hW i => ((hD.below hW).rows _ hx.1).frozen i
          have HF2 : ∀ W, Below wr.heap.size wr W → (W.setCell ⟨rb (mvT k c).1, c * 2, none⟩ (.float .f64 (uz (mvT k c).2).1)).frozen? ⟨rb (mvT k c).1, c * 2 + 1, none⟩ = false := fun W hW => (((hD.below hW).rows _ hx.1).set (c * 2) _).frozen _
          have HR : ∀ W, Below wr.heap.size wr W → W.cell? ⟨rb (mvT k c).1, c * 2, none⟩ = some (.float .f64 _) := fun W hW => (hD.below hW).re hx.1 hc
          have HI : ∀ W, Below wr.heap.size wr W → W.cell? ⟨rb (mvT k c).1, c * 2 + 1, none⟩ = some (.float .f64 _) := fun W hW => (hD.below hW).im hx.1 hc
          have hrbl : w.heap.size ≤ rb (mvT k c).1 := HL.out _ hx.1
          clear HD hD
          generalize mvT k c = mt at *
          go_wp2_with (go_at_call 13; refine (cV _).mono ?_; rintro e' w' ⟨rfl, hw⟩; obtain rfl := hw.symm)
          have b1 : Below wr.heap.size wr wr := Below.refl _ _
          refine wp_region_quiet_last (C := fun W => Below wr.heap.size wr W) (by kernel_rfl) 8 rfl (by kernel_rfl) (by kernel_rfl) (below_drewN (Below.refl _ _) 1) ?_
          simp only [List.take_succ_cons, List.take_zero]
          repeat
            refine wpQuiet_step (fun K hK => ?_)
            go_simp
            first
              | (refine hK _ ?_; clear hK K)
              | (apply Exists.intro
                 refine ⟨fun W hW => ?_, hK _ ?_⟩
                 first
                   | with_reducible rfl
                   | (refine (cU _).mono ?_; rintro e x ⟨rfl, q⟩; exact ⟨rfl, hW.trans (q.mono hW.size)⟩)
                   | (have a0 := HB W hW; go_simp; rfl)
                 clear hK K)
          refine wpQuiet_nil ?_
          intro W hW
          have f1 := HF W hW (c * 2)
          have f2 : (W.setCell ⟨rb mt.1, c * 2, none⟩ (.float .f64 (uz mt.2).1)).frozen? ⟨rb mt.1, c * 2 + 1, none⟩ = false := HF2 W hW
          have hstf := store_f
          have r1 := HR W hW
          have r2 := HI W hW
          have HW := hide (HS W hW)
          have hbS := ((hb.trans (hW.mono hb.size)).setCell (p := ⟨rb mt.1, c * 2, none⟩) hrbl (.float .f64 (uz mt.2).1)).setCell (p := ⟨rb mt.1, c * 2 + 1, none⟩) hrbl (.float .f64 (uz mt.2).2)
          clear HS HB HF HF2 HR HI hW hb
          go_wp2_with fail
          exact ⟨⟨c + 1, by go_num, by omega, HW, hbS⟩, by simp [Go.RowKit.intOf]; omega⟩
        · have hdc : decide ((c : Int) < 2) = false := decide_eq_false (by omega)
          have ec : c = 2 := by omega
          have HE := hide (HD.out.congr (f' := fun r c => if (mvT k c).1 = r then uz (mvT k c).2 else (0, 0)) (fun i j hi hj => by
            have h1 : j < c := by omega
            simp only [h1, true_and]))
          clear HD ec
          go_wp2_with fail
          go_ret2
          exact ⟨w.heap.size, rb, rfl, HE.out, Nat.le_refl _, HL.out, hb⟩
end Go.Proofs.YtnhdgellckcnbaaDoor.Gt
/- The document's Matrix of the monomial kinds with 4 rows. -/
namespace Go.Proofs.YtnhdgellckcnbaaDoor.Gt
open Go.RowKit Go.Proofs.YtnhdgellckcnbaaDoor.Oct Go.Proofs.YtnhdgellckcnbaaDoor.Dy

theorem rw_row_4 : ∀ x ∈ mvCases, (rw' (x.1 : Int)).q = 2 → rowsN x.1 = 4 := by decide +kernel
set_option maxRecDepth 100000 in
set_option maxHeartbeats 4000000 in
theorem hMat_m4 (k : Nat) (hq : (rw' (k : Int)).q = 2) (hh : hvB (rw' (k : Int)) = false) (hin : ∀ x, x < 4 → (k, x) ∈ mvCases) (w : World) : Calls Tryd.prog 9 #[.int .i64 (k : Int)] w fun e w' => ∃ g rb, e = .returned (.tuple #[.slice (some ⟨g, 0, none⟩) 4 4, .int .i64 0]) ∧ Dm w' g 4 rb (fun r c => if (mvT k c).1 = r then uz (mvT k c).2 else (0, 0)) ∧ w.heap.size ≤ g ∧ (∀ i, i < 4 → w.heap.size ≤ rb i) ∧ Below w.heap.size w w' := by
  have cI := fun w => hIs (k : Int) w
  have cA := fun w => hArity (k : Int) w
  have cH := fun w => hHalving (k : Int) w
  have cV := fun x (hx : x < 4) w => hMoves_in k x (hin x hx) w
  have cU := hUnit
  have hlt : ∀ x, x < 4 → (mvT k x).1 < 4 ∧ (mvT k x).2 < 4 := fun x hx => by
    have h1 := mv_in_lt (k, x) (hin x hx)
    have h2 := rw_row_4 (k, x) (hin x hx) hq
    dsimp only at h1 h2
    omega
  have hmk := make_z4
  have hmz := make_zz4
  have kn : knB (rw' (k : Int)) = true := by simp [knB, hq]
  rw [kn] at cI
  rw [hq] at cA
  rw [hh] at cH
  clear kn hq hh hin
  go_enter Tryd.func9, Tryd.ntmps9
  go_wp2_with (first
    | (go_at_call 31; refine (cI _).mono ?_; rintro e' w' ⟨rfl, hw⟩; obtain rfl := hw.symm)
    | (go_at_call 32; refine (cA _).mono ?_; rintro e' w' ⟨rfl, hw⟩; obtain rfl := hw.symm))
  have hq0 : Dq (w.alloc (.cells #[.slice none 0 0, .slice none 0 0, .slice none 0 0, .slice none 0 0] 62)) w.heap.size 4 0 (fun _ => 0) := ⟨⟨_, heap_alloc_new _ _, by simp, fun i hi => by
    rcases (by omega : i = 0 ∨ i = 1 ∨ i = 2 ∨ i = 3) with rfl | rfl | rfl | rfl <;> rfl⟩, fun r hr => by omega, fun r s hr => by omega, fun r hr => by omega⟩
  have b0 := below_new w (.cells #[.slice none 0 0, .slice none 0 0, .slice none 0 0, .slice none 0 0] 62)
  generalize w.alloc (.cells #[.slice none 0 0, .slice none 0 0, .slice none 0 0, .slice none 0 0] 62) = W0 at *
  have Q0 := hide hq0
  clear hq0
  go_loopw [6] (fun vr wr => ∃ (r : Nat) (rb : Nat → Nat), vr = .int .i64 (r : Int) ∧ r ≤ 4 ∧ Hid (Dq wr w.heap.size 4 r rb) ∧ Hid (∀ i, i < r → w.heap.size ≤ rb i) ∧ Below w.heap.size w wr) (fun vr _ => 4 - (Go.RowKit.intOf vr).toNat)
  case atStart => exact ⟨0, _, rfl, by omega, Q0, hide (fun i hi => by omega), b0⟩
  case round =>
    clear Q0 b0
    obtain ⟨r, rb, rfl, hrn, HD, HL, hb⟩ := hrel
    by_cases h : r < 4
    · have hd : decide ((r : Int) < 4) = true := decide_eq_true (by omega)
      have bz := below_new wr (.cells #[.float .f64 0, .float .f64 0, .float .f64 0, .float .f64 0, .float .f64 0, .float .f64 0, .float .f64 0, .float .f64 0] 66)
      have zf := (HD.out.top.below bz).frozen r
      have hc0 := (HD.out.top.below bz).cell r h
      have HS := hide (HD.out.step #[.float .f64 0, .float .f64 0, .float .f64 0, .float .f64 0, .float .f64 0, .float .f64 0, .float .f64 0, .float .f64 0] (by simp) (fun i hi => by
        rcases (by omega : i = 0 ∨ i = 1 ∨ i = 2 ∨ i = 3 ∨ i = 4 ∨ i = 5 ∨ i = 6 ∨ i = 7) with rfl | rfl | rfl | rfl | rfl | rfl | rfl | rfl <;> rfl))
      have hbS := (hb.trans (bz.mono hb.size)).setCell (p := ⟨w.heap.size, r, none⟩) (Nat.le_refl _) (.slice (some ⟨wr.heap.size, 0, none⟩) 4 4)
      have HL2 : Hid (∀ i, i < r + 1 → w.heap.size ≤ (if i = r then wr.heap.size else rb i)) := hide (fun i hi => by
        by_cases e : i = r
        · rw [if_pos e]; exact hb.size
        · rw [if_neg e]; exact HL.out i (by omega))
      clear HD bz hb HL
      go_wp2_with fail
      exact ⟨⟨r + 1, _, by go_num, by omega, HS, HL2, hbS⟩, by simp [Go.RowKit.intOf]; omega⟩
    · have hd : decide ((r : Int) < 4) = false := decide_eq_false (by omega)
      have er : r = 4 := by omega
      rw [er] at HD HL
      have H0 := hide HD.out.whole
      clear HD er
      go_wp2_with (go_at_call 33; refine (cH _).mono ?_; rintro e' w' ⟨rfl, hw⟩; obtain rfl := hw.symm)
      clear hd h hrn
      go_loopw [10] (fun vc wc => ∃ c : Nat, vc = .int .i64 (c : Int) ∧ c ≤ 4 ∧ Hid (Dm wc w.heap.size 4 rb (fun i j => if j < c ∧ (mvT k j).1 = i then uz (mvT k j).2 else (0, 0))) ∧ Below w.heap.size w wc) (fun vc _ => 4 - (Go.RowKit.intOf vc).toNat)
      case atStart => exact ⟨0, rfl, by omega, hide (H0.out.congr (fun r c _ _ => by simp)), hb⟩
      case round =>
        clear H0 hb
        obtain ⟨c, rfl, hcn, HD, hb⟩ := hrel
        by_cases hc : c < 4
        · have hdc : decide ((c : Int) < 4) = true := decide_eq_true (by omega)
          have hx := hlt c hc
          have cV := cV c hc
          have cU := cU _ hx.2
          have hxZ : ((mvT k c).1 : Int) < 4 := by omega
          have hcZ : (c : Int) < 4 := by omega
          have HS : ∀ W, Below wr.heap.size wr W → Dm _ w.heap.size 4 rb (fun i j => if j < c + 1 ∧ (mvT k j).1 = i then uz (mvT k j).2 else (0, 0)) := fun W hW => ((HD.out.below hW).set (r := (mvT k c).1) (c := c) hx.1 (uz (mvT k c).2)).congr (fun i j _ _ => by
            by_cases e : j = c
            · subst e
              by_cases e' : i = (mvT k j).1
              · rw [if_pos ⟨e', rfl⟩, if_pos ⟨by omega, e'.symm⟩]
              · rw [if_neg (fun h => e' h.1), if_neg (fun h => absurd h.1 (by omega)), if_neg (fun h => e' h.2.symm)]
            · rw [if_neg (fun h => e h.2)]
              have h1 : j < c + 1 ↔ j < c := by omega
              simp only [h1])
          have hD : Dm wr w.heap.size 4 rb _ := HD.out
          have s0 := hD.row hx.1
          have HB : ∀ W, Below wr.heap.size wr W → W.cell? ⟨w.heap.size, (mvT k c).1, none⟩ = some (.slice (some ⟨rb (mvT k c).1, 0, none⟩) 4 4) := fun W hW => (hD.below hW).row hx.1
          have HF : ∀ W, Below wr.heap.size wr W → ∀ i, W.frozen? ⟨rb (mvT k c).1, i, none⟩ = false := fun W hW i => ((hD.below hW).rows _ hx.1).frozen i
          have HF2 : ∀ W, Below wr.heap.size wr W → (W.setCell ⟨rb (mvT k c).1, c * 2, none⟩ (.float .f64 (uz (mvT k c).2).1)).frozen? ⟨rb (mvT k c).1, c * 2 + 1, none⟩ = false := fun W hW => (((hD.below hW).rows _ hx.1).set (c * 2) _).frozen _
          have HR : ∀ W, Below wr.heap.size wr W → W.cell? ⟨rb (mvT k c).1, c * 2, none⟩ = some (.float .f64 _) := fun W hW => (hD.below hW).re hx.1 hc
          have HI : ∀ W, Below wr.heap.size wr W → W.cell? ⟨rb (mvT k c).1, c * 2 + 1, none⟩ = some (.float .f64 _) := fun W hW => (hD.below hW).im hx.1 hc
          have hrbl : w.heap.size ≤ rb (mvT k c).1 := HL.out _ hx.1
          clear HD hD
          generalize mvT k c = mt at *
          go_wp2_with (go_at_call 13; refine (cV _).mono ?_; rintro e' w' ⟨rfl, hw⟩; obtain rfl := hw.symm)
          have b1 : Below wr.heap.size wr wr := Below.refl _ _
          refine wp_region_quiet_last (C := fun W => Below wr.heap.size wr W) (by kernel_rfl) 8 rfl (by kernel_rfl) (by kernel_rfl) (below_drewN (Below.refl _ _) 1) ?_
          simp only [List.take_succ_cons, List.take_zero]
          repeat
            refine wpQuiet_step (fun K hK => ?_)
            go_simp
            first
              | (refine hK _ ?_; clear hK K)
              | (apply Exists.intro
                 refine ⟨fun W hW => ?_, hK _ ?_⟩
                 first
                   | with_reducible rfl
                   | (refine (cU _).mono ?_; rintro e x ⟨rfl, q⟩; exact ⟨rfl, hW.trans (q.mono hW.size)⟩)
                   | (have a0 := HB W hW; go_simp; rfl)
                 clear hK K)
          refine wpQuiet_nil ?_
          intro W hW
          have f1 := HF W hW (c * 2)
          have f2 : (W.setCell ⟨rb mt.1, c * 2, none⟩ (.float .f64 (uz mt.2).1)).frozen? ⟨rb mt.1, c * 2 + 1, none⟩ = false := HF2 W hW
          have hstf := store_f
          have r1 := HR W hW
          have r2 := HI W hW
          have HW := hide (HS W hW)
          have hbS := ((hb.trans (hW.mono hb.size)).setCell (p := ⟨rb mt.1, c * 2, none⟩) hrbl (.float .f64 (uz mt.2).1)).setCell (p := ⟨rb mt.1, c * 2 + 1, none⟩) hrbl (.float .f64 (uz mt.2).2)
          clear HS HB HF HF2 HR HI hW hb
          go_wp2_with fail
          exact ⟨⟨c + 1, by go_num, by omega, HW, hbS⟩, by simp [Go.RowKit.intOf]; omega⟩
        · have hdc : decide ((c : Int) < 4) = false := decide_eq_false (by omega)
          have ec : c = 4 := by omega
          have HE := hide (HD.out.congr (f' := fun r c => if (mvT k c).1 = r then uz (mvT k c).2 else (0, 0)) (fun i j hi hj => by
            have h1 : j < c := by omega
            simp only [h1, true_and]))
          clear HD ec
          go_wp2_with fail
          go_ret2
          exact ⟨w.heap.size, rb, rfl, HE.out, Nat.le_refl _, HL.out, hb⟩
end Go.Proofs.YtnhdgellckcnbaaDoor.Gt
/- The document's Matrix of the monomial kinds with 8 rows. -/
namespace Go.Proofs.YtnhdgellckcnbaaDoor.Gt
open Go.RowKit Go.Proofs.YtnhdgellckcnbaaDoor.Oct Go.Proofs.YtnhdgellckcnbaaDoor.Dy

theorem rw_row_8 : ∀ x ∈ mvCases, (rw' (x.1 : Int)).q = 3 → rowsN x.1 = 8 := by decide +kernel
set_option maxRecDepth 100000 in
set_option maxHeartbeats 4000000 in
theorem hMat_m8 (k : Nat) (hq : (rw' (k : Int)).q = 3) (hh : hvB (rw' (k : Int)) = false) (hin : ∀ x, x < 8 → (k, x) ∈ mvCases) (w : World) : Calls Tryd.prog 9 #[.int .i64 (k : Int)] w fun e w' => ∃ g rb, e = .returned (.tuple #[.slice (some ⟨g, 0, none⟩) 8 8, .int .i64 0]) ∧ Dm w' g 8 rb (fun r c => if (mvT k c).1 = r then uz (mvT k c).2 else (0, 0)) ∧ w.heap.size ≤ g ∧ (∀ i, i < 8 → w.heap.size ≤ rb i) ∧ Below w.heap.size w w' := by
  have cI := fun w => hIs (k : Int) w
  have cA := fun w => hArity (k : Int) w
  have cH := fun w => hHalving (k : Int) w
  have cV := fun x (hx : x < 8) w => hMoves_in k x (hin x hx) w
  have cU := hUnit
  have hlt : ∀ x, x < 8 → (mvT k x).1 < 8 ∧ (mvT k x).2 < 4 := fun x hx => by
    have h1 := mv_in_lt (k, x) (hin x hx)
    have h2 := rw_row_8 (k, x) (hin x hx) hq
    dsimp only at h1 h2
    omega
  have hmk := make_z8
  have hmz := make_zz8
  have kn : knB (rw' (k : Int)) = true := by simp [knB, hq]
  rw [kn] at cI
  rw [hq] at cA
  rw [hh] at cH
  clear kn hq hh hin
  go_enter Tryd.func9, Tryd.ntmps9
  go_wp2_with (first
    | (go_at_call 31; refine (cI _).mono ?_; rintro e' w' ⟨rfl, hw⟩; obtain rfl := hw.symm)
    | (go_at_call 32; refine (cA _).mono ?_; rintro e' w' ⟨rfl, hw⟩; obtain rfl := hw.symm))
  have hq0 : Dq (w.alloc (.cells #[.slice none 0 0, .slice none 0 0, .slice none 0 0, .slice none 0 0, .slice none 0 0, .slice none 0 0, .slice none 0 0, .slice none 0 0] 62)) w.heap.size 8 0 (fun _ => 0) := ⟨⟨_, heap_alloc_new _ _, by simp, fun i hi => by
    rcases (by omega : i = 0 ∨ i = 1 ∨ i = 2 ∨ i = 3 ∨ i = 4 ∨ i = 5 ∨ i = 6 ∨ i = 7) with rfl | rfl | rfl | rfl | rfl | rfl | rfl | rfl <;> rfl⟩, fun r hr => by omega, fun r s hr => by omega, fun r hr => by omega⟩
  have b0 := below_new w (.cells #[.slice none 0 0, .slice none 0 0, .slice none 0 0, .slice none 0 0, .slice none 0 0, .slice none 0 0, .slice none 0 0, .slice none 0 0] 62)
  generalize w.alloc (.cells #[.slice none 0 0, .slice none 0 0, .slice none 0 0, .slice none 0 0, .slice none 0 0, .slice none 0 0, .slice none 0 0, .slice none 0 0] 62) = W0 at *
  have Q0 := hide hq0
  clear hq0
  go_loopw [6] (fun vr wr => ∃ (r : Nat) (rb : Nat → Nat), vr = .int .i64 (r : Int) ∧ r ≤ 8 ∧ Hid (Dq wr w.heap.size 8 r rb) ∧ Hid (∀ i, i < r → w.heap.size ≤ rb i) ∧ Below w.heap.size w wr) (fun vr _ => 8 - (Go.RowKit.intOf vr).toNat)
  case atStart => exact ⟨0, _, rfl, by omega, Q0, hide (fun i hi => by omega), b0⟩
  case round =>
    clear Q0 b0
    obtain ⟨r, rb, rfl, hrn, HD, HL, hb⟩ := hrel
    by_cases h : r < 8
    · have hd : decide ((r : Int) < 8) = true := decide_eq_true (by omega)
      have bz := below_new wr (.cells #[.float .f64 0, .float .f64 0, .float .f64 0, .float .f64 0, .float .f64 0, .float .f64 0, .float .f64 0, .float .f64 0, .float .f64 0, .float .f64 0, .float .f64 0, .float .f64 0, .float .f64 0, .float .f64 0, .float .f64 0, .float .f64 0] 66)
      have zf := (HD.out.top.below bz).frozen r
      have hc0 := (HD.out.top.below bz).cell r h
      have HS := hide (HD.out.step #[.float .f64 0, .float .f64 0, .float .f64 0, .float .f64 0, .float .f64 0, .float .f64 0, .float .f64 0, .float .f64 0, .float .f64 0, .float .f64 0, .float .f64 0, .float .f64 0, .float .f64 0, .float .f64 0, .float .f64 0, .float .f64 0] (by simp) (fun i hi => by
        rcases (by omega : i = 0 ∨ i = 1 ∨ i = 2 ∨ i = 3 ∨ i = 4 ∨ i = 5 ∨ i = 6 ∨ i = 7 ∨ i = 8 ∨ i = 9 ∨ i = 10 ∨ i = 11 ∨ i = 12 ∨ i = 13 ∨ i = 14 ∨ i = 15) with rfl | rfl | rfl | rfl | rfl | rfl | rfl | rfl | rfl | rfl | rfl | rfl | rfl | rfl | rfl | rfl <;> rfl))
      have hbS := (hb.trans (bz.mono hb.size)).setCell (p := ⟨w.heap.size, r, none⟩) (Nat.le_refl _) (.slice (some ⟨wr.heap.size, 0, none⟩) 8 8)
      have HL2 : Hid (∀ i, i < r + 1 → w.heap.size ≤ (if i = r then wr.heap.size else rb i)) := hide (fun i hi => by
        by_cases e : i = r
        · rw [if_pos e]; exact hb.size
        · rw [if_neg e]; exact HL.out i (by omega))
      clear HD bz hb HL
      go_wp2_with fail
      exact ⟨⟨r + 1, _, by go_num, by omega, HS, HL2, hbS⟩, by simp [Go.RowKit.intOf]; omega⟩
    · have hd : decide ((r : Int) < 8) = false := decide_eq_false (by omega)
      have er : r = 8 := by omega
      rw [er] at HD HL
      have H0 := hide HD.out.whole
      clear HD er
      go_wp2_with (go_at_call 33; refine (cH _).mono ?_; rintro e' w' ⟨rfl, hw⟩; obtain rfl := hw.symm)
      clear hd h hrn
      go_loopw [10] (fun vc wc => ∃ c : Nat, vc = .int .i64 (c : Int) ∧ c ≤ 8 ∧ Hid (Dm wc w.heap.size 8 rb (fun i j => if j < c ∧ (mvT k j).1 = i then uz (mvT k j).2 else (0, 0))) ∧ Below w.heap.size w wc) (fun vc _ => 8 - (Go.RowKit.intOf vc).toNat)
      case atStart => exact ⟨0, rfl, by omega, hide (H0.out.congr (fun r c _ _ => by simp)), hb⟩
      case round =>
        clear H0 hb
        obtain ⟨c, rfl, hcn, HD, hb⟩ := hrel
        by_cases hc : c < 8
        · have hdc : decide ((c : Int) < 8) = true := decide_eq_true (by omega)
          have hx := hlt c hc
          have cV := cV c hc
          have cU := cU _ hx.2
          have hxZ : ((mvT k c).1 : Int) < 8 := by omega
          have hcZ : (c : Int) < 8 := by omega
          have HS : ∀ W, Below wr.heap.size wr W → Dm _ w.heap.size 8 rb (fun i j => if j < c + 1 ∧ (mvT k j).1 = i then uz (mvT k j).2 else (0, 0)) := fun W hW => ((HD.out.below hW).set (r := (mvT k c).1) (c := c) hx.1 (uz (mvT k c).2)).congr (fun i j _ _ => by
            by_cases e : j = c
            · subst e
              by_cases e' : i = (mvT k j).1
              · rw [if_pos ⟨e', rfl⟩, if_pos ⟨by omega, e'.symm⟩]
              · rw [if_neg (fun h => e' h.1), if_neg (fun h => absurd h.1 (by omega)), if_neg (fun h => e' h.2.symm)]
            · rw [if_neg (fun h => e h.2)]
              have h1 : j < c + 1 ↔ j < c := by omega
              simp only [h1])
          have hD : Dm wr w.heap.size 8 rb _ := HD.out
          have s0 := hD.row hx.1
          have HB : ∀ W, Below wr.heap.size wr W → W.cell? ⟨w.heap.size, (mvT k c).1, none⟩ = some (.slice (some ⟨rb (mvT k c).1, 0, none⟩) 8 8) := fun W hW => (hD.below hW).row hx.1
          have HF : ∀ W, Below wr.heap.size wr W → ∀ i, W.frozen? ⟨rb (mvT k c).1, i, none⟩ = false := fun W hW i => ((hD.below hW).rows _ hx.1).frozen i
          have HF2 : ∀ W, Below wr.heap.size wr W → (W.setCell ⟨rb (mvT k c).1, c * 2, none⟩ (.float .f64 (uz (mvT k c).2).1)).frozen? ⟨rb (mvT k c).1, c * 2 + 1, none⟩ = false := fun W hW => (((hD.below hW).rows _ hx.1).set (c * 2) _).frozen _
          have HR : ∀ W, Below wr.heap.size wr W → W.cell? ⟨rb (mvT k c).1, c * 2, none⟩ = some (.float .f64 _) := fun W hW => (hD.below hW).re hx.1 hc
          have HI : ∀ W, Below wr.heap.size wr W → W.cell? ⟨rb (mvT k c).1, c * 2 + 1, none⟩ = some (.float .f64 _) := fun W hW => (hD.below hW).im hx.1 hc
          have hrbl : w.heap.size ≤ rb (mvT k c).1 := HL.out _ hx.1
          clear HD hD
          generalize mvT k c = mt at *
          go_wp2_with (go_at_call 13; refine (cV _).mono ?_; rintro e' w' ⟨rfl, hw⟩; obtain rfl := hw.symm)
          have b1 : Below wr.heap.size wr wr := Below.refl _ _
          refine wp_region_quiet_last (C := fun W => Below wr.heap.size wr W) (by kernel_rfl) 8 rfl (by kernel_rfl) (by kernel_rfl) (below_drewN (Below.refl _ _) 1) ?_
          simp only [List.take_succ_cons, List.take_zero]
          repeat
            refine wpQuiet_step (fun K hK => ?_)
            go_simp
            first
              | (refine hK _ ?_; clear hK K)
              | (apply Exists.intro
                 refine ⟨fun W hW => ?_, hK _ ?_⟩
                 first
                   | with_reducible rfl
                   | (refine (cU _).mono ?_; rintro e x ⟨rfl, q⟩; exact ⟨rfl, hW.trans (q.mono hW.size)⟩)
                   | (have a0 := HB W hW; go_simp; rfl)
                 clear hK K)
          refine wpQuiet_nil ?_
          intro W hW
          have f1 := HF W hW (c * 2)
          have f2 : (W.setCell ⟨rb mt.1, c * 2, none⟩ (.float .f64 (uz mt.2).1)).frozen? ⟨rb mt.1, c * 2 + 1, none⟩ = false := HF2 W hW
          have hstf := store_f
          have r1 := HR W hW
          have r2 := HI W hW
          have HW := hide (HS W hW)
          have hbS := ((hb.trans (hW.mono hb.size)).setCell (p := ⟨rb mt.1, c * 2, none⟩) hrbl (.float .f64 (uz mt.2).1)).setCell (p := ⟨rb mt.1, c * 2 + 1, none⟩) hrbl (.float .f64 (uz mt.2).2)
          clear HS HB HF HF2 HR HI hW hb
          go_wp2_with fail
          exact ⟨⟨c + 1, by go_num, by omega, HW, hbS⟩, by simp [Go.RowKit.intOf]; omega⟩
        · have hdc : decide ((c : Int) < 8) = false := decide_eq_false (by omega)
          have ec : c = 8 := by omega
          have HE := hide (HD.out.congr (f' := fun r c => if (mvT k c).1 = r then uz (mvT k c).2 else (0, 0)) (fun i j hi hj => by
            have h1 : j < c := by omega
            simp only [h1, true_and]))
          clear HD ec
          go_wp2_with fail
          go_ret2
          exact ⟨w.heap.size, rb, rfl, HE.out, Nat.le_refl _, HL.out, hb⟩
end Go.Proofs.YtnhdgellckcnbaaDoor.Gt
/- The document's Matrix of the halving kinds with 2 rows. -/
namespace Go.Proofs.YtnhdgellckcnbaaDoor.Gt
open Go.RowKit Go.Proofs.YtnhdgellckcnbaaDoor.Oct Go.Proofs.YtnhdgellckcnbaaDoor.Dy

set_option maxRecDepth 100000 in
set_option maxHeartbeats 4000000 in
theorem hMat_h2 (k : Nat) (hq : (rw' (k : Int)).q = 1) (hh : hvB (rw' (k : Int)) = true) (cF : ∀ w, Calls Tryd.prog 34 #[.int .i64 (k : Int)] w fun e w' => ∃ g rb, e = .returned (.slice (some ⟨g, 0, none⟩) 2 2) ∧ Dm w' g 2 rb (fun r c => (hvD k).getD (2 * r + c) (0, 0)) ∧ w.heap.size ≤ g ∧ (∀ i, w.heap.size ≤ rb i) ∧ Below w.heap.size w w') (hok : ∀ j, j < 4 → okh ((hvD k).getD j (0, 0)).1 = true ∧ okh ((hvD k).getD j (0, 0)).2 = true) (w : World) : Calls Tryd.prog 9 #[.int .i64 (k : Int)] w fun e w' => ∃ g rb, e = .returned (.tuple #[.slice (some ⟨g, 0, none⟩) 2 2, .int .i64 0]) ∧ Dm w' g 2 rb (fun r c => hfE k (2 * r + c)) ∧ w.heap.size ≤ g ∧ (∀ i, i < 2 → w.heap.size ≤ rb i) ∧ Below w.heap.size w w' := by
  have cI := fun w => hIs (k : Int) w
  have cA := fun w => hArity (k : Int) w
  have cH := fun w => hHalving (k : Int) w
  have hstf := store_f
  have hmk := make_z2
  have hmz := make_zz2
  have kn : knB (rw' (k : Int)) = true := by simp [knB, hq]
  rw [kn] at cI
  rw [hq] at cA
  rw [hh] at cH
  have HOK := hide hok
  clear kn hq hh hok
  go_enter Tryd.func9, Tryd.ntmps9
  go_wp2_with (first
    | (go_at_call 31; refine (cI _).mono ?_; rintro e' w' ⟨rfl, hw⟩; obtain rfl := hw.symm)
    | (go_at_call 32; refine (cA _).mono ?_; rintro e' w' ⟨rfl, hw⟩; obtain rfl := hw.symm))
  have hq0 : Dq (w.alloc (.cells #[.slice none 0 0, .slice none 0 0] 62)) w.heap.size 2 0 (fun _ => 0) := ⟨⟨_, heap_alloc_new _ _, by simp, fun i hi => by
    rcases (by omega : i = 0 ∨ i = 1) with rfl | rfl <;> rfl⟩, fun r hr => by omega, fun r s hr => by omega, fun r hr => by omega⟩
  have b0 := below_new w (.cells #[.slice none 0 0, .slice none 0 0] 62)
  generalize w.alloc (.cells #[.slice none 0 0, .slice none 0 0] 62) = W0 at *
  have Q0 := hide hq0
  clear hq0
  go_loopw [6] (fun vr wr => ∃ (r : Nat) (rb : Nat → Nat), vr = .int .i64 (r : Int) ∧ r ≤ 2 ∧ Hid (Dq wr w.heap.size 2 r rb) ∧ Hid (∀ i, i < r → w.heap.size ≤ rb i) ∧ Below w.heap.size w wr) (fun vr _ => 2 - (Go.RowKit.intOf vr).toNat)
  case atStart => exact ⟨0, _, rfl, by omega, Q0, hide (fun i hi => by omega), b0⟩
  case round =>
    clear Q0 b0
    obtain ⟨r, rb, rfl, hrn, HD, HL, hb⟩ := hrel
    by_cases h : r < 2
    · have hd : decide ((r : Int) < 2) = true := decide_eq_true (by omega)
      have bz := below_new wr (.cells #[.float .f64 0, .float .f64 0, .float .f64 0, .float .f64 0] 66)
      have zf := (HD.out.top.below bz).frozen r
      have hc0 := (HD.out.top.below bz).cell r h
      have HS := hide (HD.out.step #[.float .f64 0, .float .f64 0, .float .f64 0, .float .f64 0] (by simp) (fun i hi => by
        rcases (by omega : i = 0 ∨ i = 1 ∨ i = 2 ∨ i = 3) with rfl | rfl | rfl | rfl <;> rfl))
      have hbS := (hb.trans (bz.mono hb.size)).setCell (p := ⟨w.heap.size, r, none⟩) (Nat.le_refl _) (.slice (some ⟨wr.heap.size, 0, none⟩) 2 2)
      have HL2 : Hid (∀ i, i < r + 1 → w.heap.size ≤ (if i = r then wr.heap.size else rb i)) := hide (fun i hi => by
        by_cases e : i = r
        · rw [if_pos e]; exact hb.size
        · rw [if_neg e]; exact HL.out i (by omega))
      clear HD bz hb HL
      go_wp2_with fail
      exact ⟨⟨r + 1, _, by go_num, by omega, HS, HL2, hbS⟩, by simp [Go.RowKit.intOf]; omega⟩
    · have hd : decide ((r : Int) < 2) = false := decide_eq_false (by omega)
      have er : r = 2 := by omega
      rw [er] at HD HL
      have H0 := hide HD.out.whole
      clear HD er
      go_wp2_with (go_at_call 33; refine (cH _).mono ?_; rintro e' w' ⟨rfl, hw⟩; obtain rfl := hw.symm)
      refine (cF _).mono ?_
      rintro e wh ⟨gh, rh, rfl, hDh, hgh, hrh, qh⟩
      have H1 := hide (H0.out.below qh)
      have hgw : w.heap.size < wr.heap.size := H0.out.top.lt
      have HNG : Hid (∀ r, r < 2 → gh ≠ rb r ∧ ∀ i, rh i ≠ rb r) := hide (fun r hr => by
        have := (H0.out.rows r hr).lt
        exact ⟨by omega, fun i => by have := hrh i; omega⟩)
      clear hgh hrh
      have hbh := hb.trans (qh.mono hb.size)
      have HH := hide hDh
      clear hd h hrn H0 hb hDh
      go_wp2_with fail
      go_loopw [8, 9] (fun vr _ wc => ∃ r : Nat, vr = .int .i64 (r : Int) ∧ r ≤ 2 ∧ Hid (Dm wc w.heap.size 2 rb (fun i j => if i < r then hfE k (2 * i + j) else (0, 0))) ∧ Hid (Dm wc gh 2 rh (fun r c => (hvD k).getD (2 * r + c) (0, 0))) ∧ Below w.heap.size w wc) (fun vr _ _ => 2 - (Go.RowKit.intOf vr).toNat)
      case atStart => exact ⟨0, rfl, by omega, hide (H1.out.congr (fun r c _ _ => by simp)), HH, hbh⟩
      case round =>
        clear H1 HH hbh
        obtain ⟨r, rfl, hrn, HD, HH, hb⟩ := hrel
        by_cases h : r < 2
        · have hd : decide ((r : Int) < 2) = true := decide_eq_true (by omega)
          go_wp2_with fail
          go_loopw [9] (fun vc wc => ∃ c : Nat, vc = .int .i64 (c : Int) ∧ c ≤ 2 ∧ Hid (Dm wc w.heap.size 2 rb (fun i j => if i < r ∨ i = r ∧ j < c then hfE k (2 * i + j) else (0, 0))) ∧ Hid (Dm wc gh 2 rh (fun r c => (hvD k).getD (2 * r + c) (0, 0))) ∧ Below w.heap.size w wc) (fun vc _ => 2 - (Go.RowKit.intOf vc).toNat)
          case atStart => exact ⟨0, rfl, by omega, hide (HD.out.congr (fun i j _ _ => by simp)), HH, hb⟩
          case round =>
            clear HD HH hb
            obtain ⟨c, rfl, hcn, HD, HH, hb⟩ := hrel
            by_cases hc : c < 2
            · have hdc : decide ((c : Int) < 2) = true := decide_eq_true (by omega)
              have hrZ : (r : Int) < 2 := by omega
              have hcZ : (c : Int) < 2 := by omega
              obtain ⟨hv, hvE⟩ : ∃ hv, (hvD k).getD (2 * r + c) (0, 0) = hv := ⟨_, rfl⟩
              have hq := HOK.out (2 * r + c) (by omega)
              rw [hvE] at hq
              have q1 := fun W => run_float_arith (P := Tryd.prog) (w := W) .quo 64 .f64 _ _ _ (quo_h hq.1)
              have q2 := fun W => run_float_arith (P := Tryd.prog) (w := W) .quo 64 .f64 _ _ _ (quo_h hq.2)
              have hD : Dm _ w.heap.size 2 rb _ := HD.out
              have hH : Dm _ gh 2 rh _ := HH.out
              have HB : ∀ W, Below wr.heap.size wr W → W.cell? ⟨w.heap.size, r, none⟩ = some (.slice (some ⟨rb r, 0, none⟩) 2 2) ∧ W.cell? ⟨gh, r, none⟩ = some (.slice (some ⟨rh r, 0, none⟩) 2 2) ∧ W.cell? ⟨rh r, c * 2, none⟩ = some (.float .f64 hv.1) ∧ W.cell? ⟨rh r, c * 2 + 1, none⟩ = some (.float .f64 hv.2) := fun W hW => ⟨(hD.below hW).row h, (hH.below hW).row h, by rw [← hvE]; exact (hH.below hW).re h hc, by rw [← hvE]; exact (hH.below hW).im h hc⟩
              have HS : ∀ W, Below wr.heap.size wr W → Dm ((W.setCell ⟨rb r, c * 2, none⟩ (.float .f64 (hb2 hv.1))).setCell ⟨rb r, c * 2 + 1, none⟩ (.float .f64 (hb2 hv.2))) w.heap.size 2 rb (fun i j => if i < r ∨ i = r ∧ j < c + 1 then hfE k (2 * i + j) else (0, 0)) := fun W hW => ((hD.below hW).set (r := r) (c := c) h (hb2 hv.1, hb2 hv.2)).congr (fun i j _ _ => by
                by_cases e1 : i = r
                · subst e1
                  by_cases e2 : j = c
                  · subst e2
                    rw [if_pos ⟨rfl, rfl⟩, if_pos (.inr ⟨rfl, by omega⟩), hfE, hvE]
                  · rw [if_neg (fun h => e2 h.2)]
                    by_cases h2 : j < c
                    · rw [if_pos (.inr ⟨rfl, h2⟩), if_pos (.inr ⟨rfl, by omega⟩)]
                    · rw [if_neg (by omega), if_neg (by omega)]
                · have h1 : (i < r ∨ i = r ∧ j < c + 1) ↔ (i < r ∨ i = r ∧ j < c) := by omega
                  rw [if_neg (fun h => e1 h.1)]
                  simp only [h1])
              have HS2 : ∀ W, Below wr.heap.size wr W → ∀ x y, Dm ((W.setCell ⟨rb r, c * 2, none⟩ x).setCell ⟨rb r, c * 2 + 1, none⟩ y) gh 2 rh (fun r c => (hvD k).getD (2 * r + c) (0, 0)) := fun W hW x y => ((hH.below hW).far ⟨rb r, c * 2, none⟩ (HNG.out r h).1 (fun i _ => (HNG.out r h).2 i) x).far ⟨rb r, c * 2 + 1, none⟩ (HNG.out r h).1 (fun i _ => (HNG.out r h).2 i) y
              have HF : ∀ W, Below wr.heap.size wr W → W.frozen? ⟨rb r, c * 2, none⟩ = false ∧ (W.setCell ⟨rb r, c * 2, none⟩ (.float .f64 (hb2 hv.1))).frozen? ⟨rb r, c * 2 + 1, none⟩ = false := fun W hW => ⟨((hD.below hW).rows _ h).frozen _, (((hD.below hW).rows _ h).set (c * 2) _).frozen _⟩
              have HR : ∀ W, Below wr.heap.size wr W → W.cell? ⟨rb r, c * 2, none⟩ = some (.float .f64 _) := fun W hW => (hD.below hW).re h hc
              have HI : ∀ W, Below wr.heap.size wr W → W.cell? ⟨rb r, c * 2 + 1, none⟩ = some (.float .f64 _) := fun W hW => (hD.below hW).im h hc
              have hrbl : w.heap.size ≤ rb r := HL.out _ h
              clear HD HH hD hH hvE hq
              go_wp2_with fail
              refine wp_region_quiet_last (C := fun W => Below wr.heap.size wr W) (by kernel_rfl) 25 rfl (by kernel_rfl) (by kernel_rfl) (below_drewN (Below.refl _ _) 1) ?_
              simp only [List.take_succ_cons, List.take_zero]
              repeat
                refine wpQuiet_step (fun K hK => ?_)
                go_simp
                first
                  | (refine hK _ ?_; clear hK K)
                  | (apply Exists.intro
                     refine ⟨fun W hW => ?_, hK _ ?_⟩
                     first
                       | with_reducible rfl
                       | (have x1 := q1 W; have x2 := q2 W; obtain ⟨a0, a1, a2, a3⟩ := HB W hW; go_simp; rfl)
                     clear hK K)
              refine wpQuiet_nil ?_
              intro W hW
              obtain ⟨f1, f2⟩ := HF W hW
              have r1 := HR W hW
              have r2 := HI W hW
              have HW := hide (HS W hW)
              have HW2 := hide (HS2 W hW (.float .f64 (hb2 hv.1)) (.float .f64 (hb2 hv.2)))
              have hbS := ((hb.trans (hW.mono hb.size)).setCell (p := ⟨rb r, c * 2, none⟩) hrbl (.float .f64 (hb2 hv.1))).setCell (p := ⟨rb r, c * 2 + 1, none⟩) hrbl (.float .f64 (hb2 hv.2))
              clear HS HS2 HB HF HR HI hW hb
              go_wp2_with fail
              exact ⟨⟨c + 1, by go_num, by omega, HW, HW2, hbS⟩, by simp [Go.RowKit.intOf]; omega⟩
            · have hdc : decide ((c : Int) < 2) = false := decide_eq_false (by omega)
              have ec : c = 2 := by omega
              have HE := hide (HD.out.congr (f' := fun i j => if i < r + 1 then hfE k (2 * i + j) else (0, 0)) (fun i j hi hj => by
                have h1 : (i < r ∨ i = r ∧ j < c) ↔ i < r + 1 := by omega
                simp only [h1]))
              clear HD ec
              go_wp2_with fail
              exact ⟨⟨r + 1, by go_num, by omega, HE, HH, hb⟩, by simp [Go.RowKit.intOf]; omega⟩
        · have hd : decide ((r : Int) < 2) = false := decide_eq_false (by omega)
          have er : r = 2 := by omega
          have HE := hide (HD.out.congr (f' := fun i j => hfE k (2 * i + j)) (fun i j hi hj => by
            have h1 : i < r := by omega
            simp only [h1, if_true]))
          clear HD er
          go_wp2_with fail
          go_ret2
          exact ⟨w.heap.size, rb, rfl, HE.out, Nat.le_refl _, HL.out, hb⟩
end Go.Proofs.YtnhdgellckcnbaaDoor.Gt
/- The document's Matrix of the halving kinds with 4 rows. -/
namespace Go.Proofs.YtnhdgellckcnbaaDoor.Gt
open Go.RowKit Go.Proofs.YtnhdgellckcnbaaDoor.Oct Go.Proofs.YtnhdgellckcnbaaDoor.Dy

set_option maxRecDepth 100000 in
set_option maxHeartbeats 4000000 in
theorem hMat_h4 (k : Nat) (hq : (rw' (k : Int)).q = 2) (hh : hvB (rw' (k : Int)) = true) (cF : ∀ w, Calls Tryd.prog 34 #[.int .i64 (k : Int)] w fun e w' => ∃ g rb, e = .returned (.slice (some ⟨g, 0, none⟩) 4 4) ∧ Dm w' g 4 rb (fun r c => (hvD k).getD (4 * r + c) (0, 0)) ∧ w.heap.size ≤ g ∧ (∀ i, w.heap.size ≤ rb i) ∧ Below w.heap.size w w') (hok : ∀ j, j < 16 → okh ((hvD k).getD j (0, 0)).1 = true ∧ okh ((hvD k).getD j (0, 0)).2 = true) (w : World) : Calls Tryd.prog 9 #[.int .i64 (k : Int)] w fun e w' => ∃ g rb, e = .returned (.tuple #[.slice (some ⟨g, 0, none⟩) 4 4, .int .i64 0]) ∧ Dm w' g 4 rb (fun r c => hfE k (4 * r + c)) ∧ w.heap.size ≤ g ∧ (∀ i, i < 4 → w.heap.size ≤ rb i) ∧ Below w.heap.size w w' := by
  have cI := fun w => hIs (k : Int) w
  have cA := fun w => hArity (k : Int) w
  have cH := fun w => hHalving (k : Int) w
  have hstf := store_f
  have hmk := make_z4
  have hmz := make_zz4
  have kn : knB (rw' (k : Int)) = true := by simp [knB, hq]
  rw [kn] at cI
  rw [hq] at cA
  rw [hh] at cH
  have HOK := hide hok
  clear kn hq hh hok
  go_enter Tryd.func9, Tryd.ntmps9
  go_wp2_with (first
    | (go_at_call 31; refine (cI _).mono ?_; rintro e' w' ⟨rfl, hw⟩; obtain rfl := hw.symm)
    | (go_at_call 32; refine (cA _).mono ?_; rintro e' w' ⟨rfl, hw⟩; obtain rfl := hw.symm))
  have hq0 : Dq (w.alloc (.cells #[.slice none 0 0, .slice none 0 0, .slice none 0 0, .slice none 0 0] 62)) w.heap.size 4 0 (fun _ => 0) := ⟨⟨_, heap_alloc_new _ _, by simp, fun i hi => by
    rcases (by omega : i = 0 ∨ i = 1 ∨ i = 2 ∨ i = 3) with rfl | rfl | rfl | rfl <;> rfl⟩, fun r hr => by omega, fun r s hr => by omega, fun r hr => by omega⟩
  have b0 := below_new w (.cells #[.slice none 0 0, .slice none 0 0, .slice none 0 0, .slice none 0 0] 62)
  generalize w.alloc (.cells #[.slice none 0 0, .slice none 0 0, .slice none 0 0, .slice none 0 0] 62) = W0 at *
  have Q0 := hide hq0
  clear hq0
  go_loopw [6] (fun vr wr => ∃ (r : Nat) (rb : Nat → Nat), vr = .int .i64 (r : Int) ∧ r ≤ 4 ∧ Hid (Dq wr w.heap.size 4 r rb) ∧ Hid (∀ i, i < r → w.heap.size ≤ rb i) ∧ Below w.heap.size w wr) (fun vr _ => 4 - (Go.RowKit.intOf vr).toNat)
  case atStart => exact ⟨0, _, rfl, by omega, Q0, hide (fun i hi => by omega), b0⟩
  case round =>
    clear Q0 b0
    obtain ⟨r, rb, rfl, hrn, HD, HL, hb⟩ := hrel
    by_cases h : r < 4
    · have hd : decide ((r : Int) < 4) = true := decide_eq_true (by omega)
      have bz := below_new wr (.cells #[.float .f64 0, .float .f64 0, .float .f64 0, .float .f64 0, .float .f64 0, .float .f64 0, .float .f64 0, .float .f64 0] 66)
      have zf := (HD.out.top.below bz).frozen r
      have hc0 := (HD.out.top.below bz).cell r h
      have HS := hide (HD.out.step #[.float .f64 0, .float .f64 0, .float .f64 0, .float .f64 0, .float .f64 0, .float .f64 0, .float .f64 0, .float .f64 0] (by simp) (fun i hi => by
        rcases (by omega : i = 0 ∨ i = 1 ∨ i = 2 ∨ i = 3 ∨ i = 4 ∨ i = 5 ∨ i = 6 ∨ i = 7) with rfl | rfl | rfl | rfl | rfl | rfl | rfl | rfl <;> rfl))
      have hbS := (hb.trans (bz.mono hb.size)).setCell (p := ⟨w.heap.size, r, none⟩) (Nat.le_refl _) (.slice (some ⟨wr.heap.size, 0, none⟩) 4 4)
      have HL2 : Hid (∀ i, i < r + 1 → w.heap.size ≤ (if i = r then wr.heap.size else rb i)) := hide (fun i hi => by
        by_cases e : i = r
        · rw [if_pos e]; exact hb.size
        · rw [if_neg e]; exact HL.out i (by omega))
      clear HD bz hb HL
      go_wp2_with fail
      exact ⟨⟨r + 1, _, by go_num, by omega, HS, HL2, hbS⟩, by simp [Go.RowKit.intOf]; omega⟩
    · have hd : decide ((r : Int) < 4) = false := decide_eq_false (by omega)
      have er : r = 4 := by omega
      rw [er] at HD HL
      have H0 := hide HD.out.whole
      clear HD er
      go_wp2_with (go_at_call 33; refine (cH _).mono ?_; rintro e' w' ⟨rfl, hw⟩; obtain rfl := hw.symm)
      refine (cF _).mono ?_
      rintro e wh ⟨gh, rh, rfl, hDh, hgh, hrh, qh⟩
      have H1 := hide (H0.out.below qh)
      have hgw : w.heap.size < wr.heap.size := H0.out.top.lt
      have HNG : Hid (∀ r, r < 4 → gh ≠ rb r ∧ ∀ i, rh i ≠ rb r) := hide (fun r hr => by
        have := (H0.out.rows r hr).lt
        exact ⟨by omega, fun i => by have := hrh i; omega⟩)
      clear hgh hrh
      have hbh := hb.trans (qh.mono hb.size)
      have HH := hide hDh
      clear hd h hrn H0 hb hDh
      go_wp2_with fail
      go_loopw [8, 9] (fun vr _ wc => ∃ r : Nat, vr = .int .i64 (r : Int) ∧ r ≤ 4 ∧ Hid (Dm wc w.heap.size 4 rb (fun i j => if i < r then hfE k (4 * i + j) else (0, 0))) ∧ Hid (Dm wc gh 4 rh (fun r c => (hvD k).getD (4 * r + c) (0, 0))) ∧ Below w.heap.size w wc) (fun vr _ _ => 4 - (Go.RowKit.intOf vr).toNat)
      case atStart => exact ⟨0, rfl, by omega, hide (H1.out.congr (fun r c _ _ => by simp)), HH, hbh⟩
      case round =>
        clear H1 HH hbh
        obtain ⟨r, rfl, hrn, HD, HH, hb⟩ := hrel
        by_cases h : r < 4
        · have hd : decide ((r : Int) < 4) = true := decide_eq_true (by omega)
          go_wp2_with fail
          go_loopw [9] (fun vc wc => ∃ c : Nat, vc = .int .i64 (c : Int) ∧ c ≤ 4 ∧ Hid (Dm wc w.heap.size 4 rb (fun i j => if i < r ∨ i = r ∧ j < c then hfE k (4 * i + j) else (0, 0))) ∧ Hid (Dm wc gh 4 rh (fun r c => (hvD k).getD (4 * r + c) (0, 0))) ∧ Below w.heap.size w wc) (fun vc _ => 4 - (Go.RowKit.intOf vc).toNat)
          case atStart => exact ⟨0, rfl, by omega, hide (HD.out.congr (fun i j _ _ => by simp)), HH, hb⟩
          case round =>
            clear HD HH hb
            obtain ⟨c, rfl, hcn, HD, HH, hb⟩ := hrel
            by_cases hc : c < 4
            · have hdc : decide ((c : Int) < 4) = true := decide_eq_true (by omega)
              have hrZ : (r : Int) < 4 := by omega
              have hcZ : (c : Int) < 4 := by omega
              obtain ⟨hv, hvE⟩ : ∃ hv, (hvD k).getD (4 * r + c) (0, 0) = hv := ⟨_, rfl⟩
              have hq := HOK.out (4 * r + c) (by omega)
              rw [hvE] at hq
              have q1 := fun W => run_float_arith (P := Tryd.prog) (w := W) .quo 64 .f64 _ _ _ (quo_h hq.1)
              have q2 := fun W => run_float_arith (P := Tryd.prog) (w := W) .quo 64 .f64 _ _ _ (quo_h hq.2)
              have hD : Dm _ w.heap.size 4 rb _ := HD.out
              have hH : Dm _ gh 4 rh _ := HH.out
              have HB : ∀ W, Below wr.heap.size wr W → W.cell? ⟨w.heap.size, r, none⟩ = some (.slice (some ⟨rb r, 0, none⟩) 4 4) ∧ W.cell? ⟨gh, r, none⟩ = some (.slice (some ⟨rh r, 0, none⟩) 4 4) ∧ W.cell? ⟨rh r, c * 2, none⟩ = some (.float .f64 hv.1) ∧ W.cell? ⟨rh r, c * 2 + 1, none⟩ = some (.float .f64 hv.2) := fun W hW => ⟨(hD.below hW).row h, (hH.below hW).row h, by rw [← hvE]; exact (hH.below hW).re h hc, by rw [← hvE]; exact (hH.below hW).im h hc⟩
              have HS : ∀ W, Below wr.heap.size wr W → Dm ((W.setCell ⟨rb r, c * 2, none⟩ (.float .f64 (hb2 hv.1))).setCell ⟨rb r, c * 2 + 1, none⟩ (.float .f64 (hb2 hv.2))) w.heap.size 4 rb (fun i j => if i < r ∨ i = r ∧ j < c + 1 then hfE k (4 * i + j) else (0, 0)) := fun W hW => ((hD.below hW).set (r := r) (c := c) h (hb2 hv.1, hb2 hv.2)).congr (fun i j _ _ => by
                by_cases e1 : i = r
                · subst e1
                  by_cases e2 : j = c
                  · subst e2
                    rw [if_pos ⟨rfl, rfl⟩, if_pos (.inr ⟨rfl, by omega⟩), hfE, hvE]
                  · rw [if_neg (fun h => e2 h.2)]
                    by_cases h2 : j < c
                    · rw [if_pos (.inr ⟨rfl, h2⟩), if_pos (.inr ⟨rfl, by omega⟩)]
                    · rw [if_neg (by omega), if_neg (by omega)]
                · have h1 : (i < r ∨ i = r ∧ j < c + 1) ↔ (i < r ∨ i = r ∧ j < c) := by omega
                  rw [if_neg (fun h => e1 h.1)]
                  simp only [h1])
              have HS2 : ∀ W, Below wr.heap.size wr W → ∀ x y, Dm ((W.setCell ⟨rb r, c * 2, none⟩ x).setCell ⟨rb r, c * 2 + 1, none⟩ y) gh 4 rh (fun r c => (hvD k).getD (4 * r + c) (0, 0)) := fun W hW x y => ((hH.below hW).far ⟨rb r, c * 2, none⟩ (HNG.out r h).1 (fun i _ => (HNG.out r h).2 i) x).far ⟨rb r, c * 2 + 1, none⟩ (HNG.out r h).1 (fun i _ => (HNG.out r h).2 i) y
              have HF : ∀ W, Below wr.heap.size wr W → W.frozen? ⟨rb r, c * 2, none⟩ = false ∧ (W.setCell ⟨rb r, c * 2, none⟩ (.float .f64 (hb2 hv.1))).frozen? ⟨rb r, c * 2 + 1, none⟩ = false := fun W hW => ⟨((hD.below hW).rows _ h).frozen _, (((hD.below hW).rows _ h).set (c * 2) _).frozen _⟩
              have HR : ∀ W, Below wr.heap.size wr W → W.cell? ⟨rb r, c * 2, none⟩ = some (.float .f64 _) := fun W hW => (hD.below hW).re h hc
              have HI : ∀ W, Below wr.heap.size wr W → W.cell? ⟨rb r, c * 2 + 1, none⟩ = some (.float .f64 _) := fun W hW => (hD.below hW).im h hc
              have hrbl : w.heap.size ≤ rb r := HL.out _ h
              clear HD HH hD hH hvE hq
              go_wp2_with fail
              refine wp_region_quiet_last (C := fun W => Below wr.heap.size wr W) (by kernel_rfl) 25 rfl (by kernel_rfl) (by kernel_rfl) (below_drewN (Below.refl _ _) 1) ?_
              simp only [List.take_succ_cons, List.take_zero]
              repeat
                refine wpQuiet_step (fun K hK => ?_)
                go_simp
                first
                  | (refine hK _ ?_; clear hK K)
                  | (apply Exists.intro
                     refine ⟨fun W hW => ?_, hK _ ?_⟩
                     first
                       | with_reducible rfl
                       | (have x1 := q1 W; have x2 := q2 W; obtain ⟨a0, a1, a2, a3⟩ := HB W hW; go_simp; rfl)
                     clear hK K)
              refine wpQuiet_nil ?_
              intro W hW
              obtain ⟨f1, f2⟩ := HF W hW
              have r1 := HR W hW
              have r2 := HI W hW
              have HW := hide (HS W hW)
              have HW2 := hide (HS2 W hW (.float .f64 (hb2 hv.1)) (.float .f64 (hb2 hv.2)))
              have hbS := ((hb.trans (hW.mono hb.size)).setCell (p := ⟨rb r, c * 2, none⟩) hrbl (.float .f64 (hb2 hv.1))).setCell (p := ⟨rb r, c * 2 + 1, none⟩) hrbl (.float .f64 (hb2 hv.2))
              clear HS HS2 HB HF HR HI hW hb
              go_wp2_with fail
              exact ⟨⟨c + 1, by go_num, by omega, HW, HW2, hbS⟩, by simp [Go.RowKit.intOf]; omega⟩
            · have hdc : decide ((c : Int) < 4) = false := decide_eq_false (by omega)
              have ec : c = 4 := by omega
              have HE := hide (HD.out.congr (f' := fun i j => if i < r + 1 then hfE k (4 * i + j) else (0, 0)) (fun i j hi hj => by
                have h1 : (i < r ∨ i = r ∧ j < c) ↔ i < r + 1 := by omega
                simp only [h1]))
              clear HD ec
              go_wp2_with fail
              exact ⟨⟨r + 1, by go_num, by omega, HE, HH, hb⟩, by simp [Go.RowKit.intOf]; omega⟩
        · have hd : decide ((r : Int) < 4) = false := decide_eq_false (by omega)
          have er : r = 4 := by omega
          have HE := hide (HD.out.congr (f' := fun i j => hfE k (4 * i + j)) (fun i j hi hj => by
            have h1 : i < r := by omega
            simp only [h1, if_true]))
          clear HD er
          go_wp2_with fail
          go_ret2
          exact ⟨w.heap.size, rb, rfl, HE.out, Nat.le_refl _, HL.out, hb⟩
end Go.Proofs.YtnhdgellckcnbaaDoor.Gt
/- The document's Matrix of every kind. -/
namespace Go.Proofs.YtnhdgellckcnbaaDoor.Gt
open Go.RowKit Go.Proofs.YtnhdgellckcnbaaDoor.Oct Go.Proofs.YtnhdgellckcnbaaDoor.Dy

/-- What the document's Matrix answers. -/
def DPost (w : World) (k n : Nat) (e : Ending) (w' : World) : Prop := ∃ g rb, e = .returned (.tuple #[.slice (some ⟨g, 0, none⟩) n n, .int .i64 0]) ∧ Dm w' g n rb (fun r c => mbs k (n * r + c)) ∧ w.heap.size ≤ g ∧ (∀ i, i < n → w.heap.size ≤ rb i) ∧ Below w.heap.size w w'
theorem mono_same : ∀ (k : Fin 21) (r c : Fin 8), 1 ≤ k.1 → r.1 < rowsN k.1 → c.1 < rowsN k.1 → hvB (rw' (k.1 : Int)) = false → (if (mvT k.1 c.1).1 = r.1 then uz (mvT k.1 c.1).2 else (0, 0)) = mbs k.1 (rowsN k.1 * r.1 + c.1) := by decide +kernel
theorem half_same : ∀ (k : Fin 21) (j : Fin 16), 1 ≤ k.1 → j.1 < rowsN k.1 * rowsN k.1 → hvB (rw' (k.1 : Int)) = true → hfE k.1 j.1 = mbs k.1 j.1 := by decide +kernel
theorem half_ok : ∀ (k : Fin 21) (j : Fin 16), hvB (rw' (k.1 : Int)) = true → okh ((hvD k.1).getD j.1 (0, 0)).1 = true ∧ okh ((hvD k.1).getD j.1 (0, 0)).2 = true := by decide +kernel
theorem mono_in : ∀ (k : Fin 21) (x : Fin 8), 1 ≤ k.1 → x.1 < rowsN k.1 → hvB (rw' (k.1 : Int)) = false → (k.1, x.1) ∈ mvCases := by decide +kernel
theorem half_k : ∀ k : Fin 21, hvB (rw' (k.1 : Int)) = true → k.1 = 7 ∨ k.1 = 8 ∨ k.1 = 9 ∨ k.1 = 10 ∨ k.1 = 17 := by decide +kernel
set_option maxRecDepth 100000 in
theorem hMat (k : Nat) (h1 : 1 ≤ k) (h2 : k ≤ 20) (w : World) : Calls Tryd.prog 9 #[.int .i64 (k : Int)] w (DPost w k (rowsN k)) := by
  have hq := q_rows ⟨k, by omega⟩ h1
  dsimp only at hq
  cases hh : hvB (rw' (k : Int))
  · have hs : ∀ r c, r < rowsN k → c < rowsN k → (if (mvT k c).1 = r then uz (mvT k c).2 else (0, 0)) = mbs k (rowsN k * r + c) := fun r c hr hc => by
      have h8 : rowsN k ≤ 8 := by rcases rowsN_is k with e | e | e <;> omega
      exact mono_same ⟨k, by omega⟩ ⟨r, by omega⟩ ⟨c, by omega⟩ h1 hr hc hh
    have hi : ∀ x, x < rowsN k → (k, x) ∈ mvCases := fun x hx => by
      have h8 : rowsN k ≤ 8 := by rcases rowsN_is k with e | e | e <;> omega
      exact mono_in ⟨k, by omega⟩ ⟨x, by omega⟩ h1 hx hh
    rcases rowsN_is k with e | e | e
    · rw [e] at hs hi ⊢
      refine (hMat_m2 k (hq.1 e) hh hi w).mono ?_
      rintro e' w' ⟨g, rb, rfl, hD, hg, hr, hb⟩
      exact ⟨g, rb, rfl, hD.congr hs, hg, hr, hb⟩
    · rw [e] at hs hi ⊢
      refine (hMat_m4 k (hq.2.1 e) hh hi w).mono ?_
      rintro e' w' ⟨g, rb, rfl, hD, hg, hr, hb⟩
      exact ⟨g, rb, rfl, hD.congr hs, hg, hr, hb⟩
    · rw [e] at hs hi ⊢
      refine (hMat_m8 k (hq.2.2 e) hh hi w).mono ?_
      rintro e' w' ⟨g, rb, rfl, hD, hg, hr, hb⟩
      exact ⟨g, rb, rfl, hD.congr hs, hg, hr, hb⟩
  · rcases half_k ⟨k, by omega⟩ hh with e | e | e | e | e <;> dsimp only at e <;> subst e
    · refine (hMat_h2 7 (by decide +kernel) hh (fun w => hHv_7 w) (fun j hj => half_ok ⟨7, by omega⟩ ⟨j, by omega⟩ hh) w).mono ?_
      rintro e' w' ⟨g, rb, rfl, hD, hg, hr, hb⟩
      exact ⟨g, rb, rfl, hD.congr (fun r c hr hc => half_same ⟨7, by omega⟩ ⟨2 * r + c, by omega⟩ h1 (by show 2 * r + c < 4; omega) hh), hg, hr, hb⟩
    · refine (hMat_h2 8 (by decide +kernel) hh (fun w => hHv_8 w) (fun j hj => half_ok ⟨8, by omega⟩ ⟨j, by omega⟩ hh) w).mono ?_
      rintro e' w' ⟨g, rb, rfl, hD, hg, hr, hb⟩
      exact ⟨g, rb, rfl, hD.congr (fun r c hr hc => half_same ⟨8, by omega⟩ ⟨2 * r + c, by omega⟩ h1 (by show 2 * r + c < 4; omega) hh), hg, hr, hb⟩
    · refine (hMat_h2 9 (by decide +kernel) hh (fun w => hHv_9 w) (fun j hj => half_ok ⟨9, by omega⟩ ⟨j, by omega⟩ hh) w).mono ?_
      rintro e' w' ⟨g, rb, rfl, hD, hg, hr, hb⟩
      exact ⟨g, rb, rfl, hD.congr (fun r c hr hc => half_same ⟨9, by omega⟩ ⟨2 * r + c, by omega⟩ h1 (by show 2 * r + c < 4; omega) hh), hg, hr, hb⟩
    · refine (hMat_h2 10 (by decide +kernel) hh (fun w => hHv_10 w) (fun j hj => half_ok ⟨10, by omega⟩ ⟨j, by omega⟩ hh) w).mono ?_
      rintro e' w' ⟨g, rb, rfl, hD, hg, hr, hb⟩
      exact ⟨g, rb, rfl, hD.congr (fun r c hr hc => half_same ⟨10, by omega⟩ ⟨2 * r + c, by omega⟩ h1 (by show 2 * r + c < 4; omega) hh), hg, hr, hb⟩
    · refine (hMat_h4 17 (by decide +kernel) hh (fun w => hHv_17 w) (fun j hj => half_ok ⟨17, by omega⟩ ⟨j, by omega⟩ hh) w).mono ?_
      rintro e' w' ⟨g, rb, rfl, hD, hg, hr, hb⟩
      exact ⟨g, rb, rfl, hD.congr (fun r c hr hc => half_same ⟨17, by omega⟩ ⟨4 * r + c, by omega⟩ h1 (by show 4 * r + c < 16; omega) hh), hg, hr, hb⟩
set_option maxRecDepth 100000 in
theorem hMat_no (k : Int) (hk : ¬ (1 ≤ k ∧ k ≤ 20)) (w : World) : Calls Tryd.prog 9 #[.int .i64 k] w fun e w' => e = .returned (.tuple #[.slice none 0 0, .int .i64 60]) ∧ w' = w := by
  have cI := fun w => hIs k w
  have hr : rw' k = r0 := by
    rcases k_cases k with h | ⟨h, _⟩
    · exact absurd h hk
    · exact h
  rw [hr, show knB r0 = false from rfl] at cI
  clear hr hk
  go_enter Tryd.func9, Tryd.ntmps9
  go_wp2_with fail
  refine (cI _).mono ?_
  rintro e w1 ⟨rfl, hw⟩
  obtain rfl := hw
  go_wp2_with fail
  go_ret2
  exact ⟨rfl, rfl⟩
/-- A float's own bits are the same as its own. -/
theorem bits64_run' (b : Nat) (w : World) : (callFunc 77 #[.float .f64 b]).run Tryd.prog w = .ok (.value (.int .u64 (b : Int))) w := by kernel_rfl
def bitV (b : Nat) : Int := if (FloatKind.f64.format.order b b == some .eq) = true then (b : Int) else 9221120237041090561
set_option maxRecDepth 100000 in
theorem rBits (b : Nat) (w : World) : Calls Tryd.prog 76 #[.float .f64 b] w fun e w' => e = .returned (.int .u64 (bitV b)) ∧ w' = w := by
  have hr := bits64_run' b
  unfold bitV
  cases h : (FloatKind.f64.format.order b b == some Ordering.eq)
  · have h2 : (FloatKind.f64.format.order b b != some Ordering.eq) = true := by rw [bne, h]; rfl
    go_enter Tryd.func76, Tryd.ntmps76
    go_wp2_with fail
    go_ret
    exact ⟨rfl, rfl⟩
  · have h2 : (FloatKind.f64.format.order b b != some Ordering.eq) = false := by rw [bne, h]; rfl
    go_enter Tryd.func76, Tryd.ntmps76
    go_wp2_with fail
    go_ret
    exact ⟨rfl, rfl⟩
set_option maxRecDepth 100000 in
theorem rSame (b : Nat) (w : World) : Calls Tryd.prog 62 #[.float .f64 b, .float .f64 b] w fun e w' => e = .returned (.bool true) ∧ w' = w := by
  have cB := fun w => rBits b w
  generalize bitV b = V at *
  go_enter Tryd.func62, Tryd.ntmps62
  go_wp2_with (go_at_call 76; refine (cB _).mono ?_; rintro e' w' ⟨rfl, hw⟩; obtain rfl := hw.symm)
  go_ret
  exact ⟨by simp, rfl⟩
set_option maxRecDepth 100000 in
theorem zSame (a b : Nat) (w : World) : Calls Tryd.prog 36 #[.agg #[.float .f64 a, .float .f64 b], .agg #[.float .f64 a, .float .f64 b]] w fun e w' => e = .returned (.bool true) ∧ Below w.heap.size w w' := by
  have c1 := fun w => rSame a w
  have c2 := fun w => rSame b w
  go_enter Tryd.func36, Tryd.ntmps36
  go_wp2_with fail
  refine (c1 _).mono ?_
  rintro e w1 ⟨rfl, hw⟩
  obtain rfl := hw
  go_wp2_with fail
  refine (c2 _).mono ?_
  rintro e w2 ⟨rfl, hw⟩
  obtain rfl := hw
  go_wp2_with fail
  go_ret
  exact ⟨rfl, (below_new _ _).trans ((below_new _ _).mono (by simp))⟩
end Go.Proofs.YtnhdgellckcnbaaDoor.Gt
