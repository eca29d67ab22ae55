/- What placed hands back, at 8 rows. -/
import Derived.Test.YtnhdgellckcnbaaDoorAr
namespace Go.Proofs.YtnhdgellckcnbaaDoor.Gt
open Go.RowKit Go.Proofs.YtnhdgellckcnbaaDoor.Oct Go.Proofs.YtnhdgellckcnbaaDoor.Dy

set_option maxRecDepth 100000 in
set_option maxHeartbeats 4000000 in
theorem gStep_8 (k ba bm gat cat gm gv cv S s B : Nat) (l : List Nat) (V : Nat → Int × Int) (pv : Nat → Nat × Nat) (e : Int) (he1 : -50 ≤ e) (he2 : e ≤ 50) (hs : s ≤ 5) (hS : S = 2 ^ s) (hB : B ≤ 1024) (hl : l.length = 3) (hq : ∀ i, i < 3 → l.getD i 0 < s) (w : World)
    (hat : w.cell? ⟨ba, 0, none⟩ = some (.slice (some ⟨gat, 0, none⟩) 3 cat)) (hNr : Nr w gat l) (hM : Mt w bm 8 64 (mz k) (-1) gm (mbs k))
    (hV : Rk w gv 34 S (fun j => cx (pv j))) (vV : ∀ j, j < S → Cx (pv j) (V j) e) (lV : ∀ j, j < S → zle (V j) B) :
    Calls Tryd.prog 72 #[.slice (some ⟨gv, 0, none⟩) S cv, .pointer (some ⟨ba, 0, none⟩), .pointer (some ⟨bm, 0, none⟩)] w fun e' w' => ∃ (g : Nat) (f : Nat → Nat × Nat), e' = .returned (.slice (some ⟨g, 0, none⟩) S S) ∧ Rk w' g 34 S (fun j => cx (f j)) ∧ (∀ j, j < S → Cx (f j) (plG k 8 l V S j) (-1 + e)) ∧ w.heap.size ≤ g ∧ Below w.heap.size w w' := by
  have hS32 : S ≤ 32 := by rw [hS]; exact (Nat.pow_le_pow_right (by decide) hs : 2 ^ s ≤ 2 ^ 5)
  have hmk := make_c S (by omega)
  have hsc : ∀ p x, p < S → scG p x l l.length < S := fun p x hp => by rw [hS] at hp ⊢; exact scG_pow p x l s hp l.length (fun j hj => hq j (by omega))
  have hga : ∀ p, gaG p l l.length < 8 := fun p => by have := gaG_pow p l l.length; rw [hl] at this ⊢; exact this
  have hq6 : ∀ z ∈ l, z < 6 := by
    intro z hz
    obtain ⟨i, hi, rfl⟩ := List.getElem_of_mem hz
    have := hq i (by omega)
    rw [List.getD_eq_getElem?_getD, List.getElem?_eq_getElem hi] at this
    have : l[i] < s := this
    omega
  have cG := fun p (hp : p < 64) c w hN => gGather p hp gat c l (by omega) hq6 w hN
  have cS := fun p x (hp : p < 64) (hx : x < 64) c w hN => gScatter p x hp hx gat c l (by omega) hq6 w hN
  have HB : Hid (∀ p, p < S → ∀ r, r ≤ 8 → ∀ j, zle (rwG k 8 l (V p) p (gaG p l 3) (plG k 8 l V p) r j) 4503599627370496) := hide (fun p hp r hr j => by
    have h1 := rwG_le (k := k) (n := 8) (l := l) (p := p) (col := gaG p l 3) (lV p hp) (plG_le (k := k) (n := 8) (l := l) lV p (by omega)) r j
    refine zle_mono h1 ?_
    have h2 : p * (8 * (4 * B)) ≤ 32 * (8 * (4 * 1024)) := Nat.mul_le_mul (by omega) (by omega)
    have h3 : r * (4 * B) ≤ 8 * (4 * 1024) := Nat.mul_le_mul hr (by omega)
    omega)
  have HL := hide hl
  have HSC := hide hsc
  have HGA := hide hga
  rw [hl] at cG cS
  have hR0 := rk_made w S 34 (.complex .f64 0 0)
  have hb0 := below_new w (.cells (madeCells #[.complex .f64 0 0] S) 34)
  have HNr := hide hNr
  have HM := hide hM
  have HV := hide hV
  have HvV := hide vV
  have HlV := hide lV
  have HAT := hide hat
  have hgv := hV.lt
  clear hsc hga hq6 hq hS hs hNr hM hV vV lV hl hat
  go_enter Tryd.func72, Tryd.ntmps72
  go_wp2_with fail
  generalize hW0 : w.alloc (.cells (madeCells #[.complex .f64 0 0] S) 34) = W0 at *
  clear hW0 hmk
  go_loopw [6, 7, 8, 16] (fun _ _ _ vi wr => ∃ (p : Nat) (f : Nat → Nat × Nat), vi = .int .i64 (p : Int) ∧ p ≤ S ∧ Rk wr w.heap.size 34 S (fun j => cx (f j)) ∧ Hid (∀ j, j < S → Cx (f j) (plG k 8 l V p j) (-1 + e)) ∧ Below w.heap.size w wr) (fun _ _ _ vi _ => S - (Go.RowKit.intOf vi).toNat)
  case atStart => exact ⟨0, fun _ => (0, 0), rfl, by omega, hR0, hide (fun j _ => cx_zero _), hb0⟩
  case round =>
    clear hR0 hb0
    obtain ⟨p, f, rfl, hp, hR, HF, hb⟩ := hrel
    by_cases h : p < S
    · have hd : decide ((p : Int) < (S : Int)) = true := decide_eq_true (by omega)
      have xv : wr.cell? ⟨gv, p, none⟩ = some (.complex .f64 (pv p).1 (pv p).2) := (HV.out.below hb).cell p h
      have cE := fun w => cx_equal (HvV.out p h) (cx_zero e) (zle_mono (HlV.out p h) (by omega)) ⟨by simp, by simp⟩ (by omega) (by omega) w
      have HPL : Hid (plG k 8 l V (p + 1) = if V p = (0, 0) then plG k 8 l V p else rwG k 8 l (V p) p (gaG p l l.length) (plG k 8 l V p) 8) := hide rfl
      by_cases hz : V p = (0, 0)
      · rw [decide_eq_true hz] at cE
        have HF2 : Hid (∀ j, j < S → Cx (f j) (plG k 8 l V (p + 1) j) (-1 + e)) := hide (by rw [HPL.out, if_pos hz]; exact HF.out)
        clear HPL HF hz
        generalize pv p = X at *
        go_wp2_with fail
        refine (cE _).mono ?_
        rintro e' w1 ⟨rfl, hw⟩
        obtain rfl := hw
        go_wp2_with fail
        exact ⟨⟨p + 1, f, by go_num, by omega, hR, HF2, hb⟩, by simp [Go.RowKit.intOf]; omega⟩
      · rw [decide_eq_false hz] at cE
        have HPL2 : Hid (plG k 8 l V (p + 1) = rwG k 8 l (V p) p (gaG p l 3) (plG k 8 l V p) 8) := hide (by rw [HPL.out, if_neg hz, HL.out])
        have cG1 := cG p (by omega) cat wr (HNr.out.below hb)
        have HX := hide (HvV.out p h)
        have HlX := hide (HlV.out p h)
        have HB1 := hide (HB.out p h)
        have hat := (HAT.out : w.cell? _ = _)
        replace hat := (hb.cell (World.block_lt_of_cell? w _ hat)).trans hat
        have hcol := HGA.out p
        rw [HL.out] at hcol
        have m0 : wr.cell? ⟨bm, 0, none⟩ = some (.int .i64 8) := ((HM.out).below hb).c0
        clear HPL hz HvV HlV HV HB
        generalize V p = X at *
        generalize pv p = PX at *
        generalize gaG p l 3 = col at *
        generalize hPG : plG k 8 l V p = PG at *
        clear hPG
        go_wp2_with fail
        refine (cE _).mono ?_
        rintro e' w1 ⟨rfl, hw⟩
        obtain rfl := hw
        go_wp2_with fail
        refine cG1.mono ?_
        rintro e' w2 ⟨rfl, hw⟩
        obtain rfl := hw
        clear cG1 cE xv
        go_wp2_with fail
        go_loopw [9, 10, 28] (fun _ _ vi wi => ∃ (r : Nat) (f' : Nat → Nat × Nat), vi = .int .i64 (r : Int) ∧ r ≤ 8 ∧ Rk wi w.heap.size 34 S (fun j => cx (f' j)) ∧ Hid (∀ j, j < S → Cx (f' j) (rwG k 8 l X p col PG r j) (-1 + e)) ∧ Below w.heap.size w wi) (fun _ _ vi _ => 8 - (Go.RowKit.intOf vi).toNat)
        case atStart => exact ⟨0, f, rfl, by omega, hR, HF, hb⟩
        case round =>
          clear hR HF hb hat m0
          obtain ⟨r, f', rfl, hr, hR, HF, hb⟩ := hrel
          by_cases hrn : r < 8
          · have hd2 : decide ((r : Int) < 8) = true := decide_eq_true (by omega)
            have hat := (HAT.out : w.cell? _ = _)
            replace hat := (hb.cell (World.block_lt_of_cell? w _ hat)).trans hat
            have hMr := (HM.out).below hb
            have m0 : wr.cell? ⟨bm, 0, none⟩ = some (.int .i64 8) := hMr.c0
            have m1 := hMr.c1
            have cS1 := cS p r (by omega) (by omega) cat wr (HNr.out.below hb)
            have hto := HSC.out p r h
            rw [HL.out] at hto
            obtain ⟨J, hJ⟩ : ∃ J, 8 * r + col = J := ⟨_, rfl⟩
            have hJN : J < 64 := by omega
            have hJZ : (J : Int) < 64 := by omega
            have hw1 : IntKind.i64.wrap (8 * (r : Int)) = 8 * (r : Int) := wrap_small _ (by omega) (by omega)
            have hw2 : IntKind.i64.wrap (8 * (r : Int) + (col : Int)) = (J : Int) := by rw [wrap_small _ (by omega) (by omega)]; omega
            obtain ⟨m, hm, cM⟩ := cx_mul (hMr.val J hJN) HX.out (zle_mono (mz_le k J) (by decide)) (zle_mono HlX.out (by omega)) (by decide) (by decide) (by omega) (by omega)
            have hlm := zmul_le (mz_le k J) HlX.out
            have HS3 : Hid (∀ j, rwG k 8 l X p col PG (r + 1) j = if j = scG p r l 3 then zadd (rwG k 8 l X p col PG r j) (zmul (mz k J) X) else rwG k 8 l X p col PG r j) := hide (fun j => by
              show (if j = scG p r l l.length then zadd (rwG k 8 l X p col PG r j) (zmul (mz k (8 * r + col)) X) else rwG k 8 l X p col PG r j) = _
              rw [HL.out, hJ])
            generalize scG p r l 3 = to at *
            have htoZ : (to : Int) < (S : Int) := by omega
            obtain ⟨y, hy, cA⟩ := cx_add (HF.out to hto) hm (HB1.out r (by omega) to) (zle_mono hlm (by omega)) (by omega) (by omega)
            have xm : wr.cell? ⟨gm, J, none⟩ = some (.complex .f64 (mbs k J).1 (mbs k J).2) := hMr.row.cell J hJN
            have xb : wr.cell? ⟨w.heap.size, to, none⟩ = some (.complex .f64 (f' to).1 (f' to).2) := hR.cell to hto
            have xf := hR.frozen to
            have HF2 : Hid (∀ j, j < S → Cx ((fun j => if j = to then y else f' j) j) (rwG k 8 l X p col PG (r + 1) j) (-1 + e)) := hide (fun j hj => by
              rw [HS3.out]
              by_cases ej : j = to
              · subst ej
                rw [if_pos rfl]
                simpa using hy
              · rw [if_neg ej]
                simpa [ej] using HF.out j hj)
            have hst := store_c
            generalize mbs k J = PM at *
            generalize hft : f' to = PF at *
            clear hJ hMr hm hy hlm HS3 HF hft
            go_wp2_with fail
            refine cS1.mono ?_
            rintro e' w3 ⟨rfl, md, rfl⟩
            clear cS1 hat
            replace m0 : (wr.drewN md).cell? ⟨bm, 0, none⟩ = some (.int .i64 8) := m0
            replace m1 : (wr.drewN md).cell? ⟨bm, 1, none⟩ = some (.slice (some ⟨gm, 0, none⟩) 64 64) := m1
            replace xm : (wr.drewN md).cell? ⟨gm, J, none⟩ = some (.complex .f64 PM.1 PM.2) := xm
            replace xb : (wr.drewN md).cell? ⟨w.heap.size, to, none⟩ = some (.complex .f64 PF.1 PF.2) := xb
            replace xf : (wr.drewN md).frozen? ⟨w.heap.size, to, none⟩ = false := xf
            replace hR : Rk (wr.drewN md) w.heap.size 34 S (fun j => cx (f' j)) := hR
            replace hb := below_drewN hb md
            generalize wr.drewN md = W at *
            have hS : Rk (W.drew.setCell ⟨w.heap.size, to, none⟩ (.complex .f64 y.1 y.2)) w.heap.size 34 S (fun j => cx ((fun j => if j = to then y else f' j) j)) :=
              (Rk.set (w := W.drew) hR to (cx y)).congr (fun j _ => by
                show (if j = to then cx y else cx (f' j)) = cx (if j = to then y else f' j)
                by_cases ej : j = to
                · rw [if_pos ej, if_pos ej]
                · rw [if_neg ej, if_neg ej])
            have hb5 : Below w.heap.size w (W.drew.setCell ⟨w.heap.size, to, none⟩ (.complex .f64 y.1 y.2)) := hb.drew.setCell (Nat.le_refl _) _
            have HS5 := hide hS
            have HB5 := hide hb5
            clear hS hb5 hR hb cG cS HL HSC HGA HNr HM HAT HPL2 HB1 HX HlX hcol
            go_wp2_with fail
            go_region_with (first | (go_at_call 68; refine (cM _).mono ?_; rintro e' w4 ⟨rfl, hw4⟩; obtain rfl := hw4.symm) | (go_at_call 67; refine (cA _).mono ?_; rintro e' w4 ⟨rfl, hw4⟩; obtain rfl := hw4.symm))
            all_goals
              go_wp2_with fail
              exact ⟨⟨r + 1, _, by go_num, by omega, HS5.out, HF2, HB5.out⟩, by simp [Go.RowKit.intOf]; omega⟩
          · obtain rfl : r = 8 := by omega
            have HF2 : Hid (∀ j, j < S → Cx (f' j) (plG k 8 l V (p + 1) j) (-1 + e)) := hide (by rw [HPL2.out]; exact HF.out)
            clear HF HPL2
            go_wp2_with fail
            exact ⟨⟨p + 1, f', by go_num, by omega, hR, HF2, hb⟩, by simp [Go.RowKit.intOf]; omega⟩
    · obtain rfl : p = S := by omega
      go_wp2_with fail
      go_ret
      exact ⟨w.heap.size, f, rfl, hR, HF.out, Nat.le_refl _, hb⟩

end Go.Proofs.YtnhdgellckcnbaaDoor.Gt
