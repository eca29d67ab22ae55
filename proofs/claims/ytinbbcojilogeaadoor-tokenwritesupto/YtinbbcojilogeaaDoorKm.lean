/- Package token: Join, as it is walked. -/
import Derived.Test.YtinbbcojilogeaaDoorKl
namespace Go.Proofs.YtinbbcojilogeaaDoor.Tok
open Go.RowKit Go.Shelf Go.Proofs.YtinbbcojilogeaaDoor.Oct

theorem infoStr : (Tryd.prog.info? 9).map (fun i => (i.zero, i.size, i.bytes)) = some (some (.string ⟨#[]⟩), 1, 16) := by kernel_rfl
theorem map_app (x : Option (List (List UInt8))) (xs : List (List UInt8)) (s : List UInt8) : (x.map (s :: ·)).map (xs ++ ·) = x.map ((xs ++ [s]) ++ ·) := by cases x <;> simp
theorem getD_snoc (xs : List (List UInt8)) (s : List UInt8) (j : Nat) : (xs ++ [s]).getD j [] = if j = xs.length then s else xs.getD j [] := by
  simp only [List.getD_eq_getElem?_getD, List.getElem?_append]
  by_cases h : j < xs.length
  · rw [if_pos h, if_neg (by omega)]
  · rw [if_neg h]
    by_cases h2 : j = xs.length
    · rw [if_pos h2, h2]; simp
    · rw [if_neg h2, List.getElem?_eq_none (l := xs) (by omega), List.getElem?_eq_none (by simp; omega)]
theorem below_set {B : Nat} {w w1 : World} (h : Below B w w1) (a : Addr) (ha : B ≤ a.block) (v : Value) : Below B w (w1.setCell a v) :=
  ⟨h.os, h.tape, h.output, by have := h.size; simp [World.setCell]; omega, fun i hi => (Below.heap_setCell _ _ _ _ (by omega)).trans (h.block i hi)⟩
set_option maxRecDepth 100000 in
set_option maxHeartbeats 4000000 in
theorem nJoin (ao : Option Addr) (cp : Nat) (ts : List TA) (w : World) (hR : Ta w ao ts) (hi : ∀ t ∈ ts, in64 t.nm) (hb : bulk ts ≤ 1099511627776) (hT : Tx w) :
    Calls Tryd.prog 19 #[.slice ao ts.length cp] w fun e w' => e = .returned (wrV (joinR ts)) ∧ Below w.heap.size w w' := by
  have hbl := bulk_len ts
  have hmk := fun w => run_make_row' (P := Tryd.prog) 49 9 (.string ⟨#[]⟩) 16 Tryd.underlying49 infoStr rfl .i64 .i64 ts.length (by omega) (by omega) w
  obtain ⟨n, hn⟩ : ∃ n, ts.length = n := ⟨_, rfl⟩
  rw [hn] at hmk ⊢
  go_enter Tryd.func19, Tryd.ntmps19
  go_wp2_with fail
  have hrow := World.rowIs_made w (.string ⟨#[]⟩) n 9
  have hb0 := below_new w (.cells (madeCells #[.string ⟨#[]⟩] n) 9)
  generalize w.alloc (.cells (madeCells #[.string ⟨#[]⟩] n) 9) = W0 at *
  go_loopw [14] (fun i wr => ∃ (k : Nat) (xs : List (List UInt8)), i = .int .i64 (k : Int) ∧ k ≤ n ∧ xs.length = k ∧ wr.rowIs w.heap.size 9 n (fun j => .string ⟨(xs.getD j []).toArray⟩) ∧ Below w.heap.size w wr ∧ Hid (joinT ts = (joinT (ts.drop k)).map (xs ++ ·))) (fun i _ => n - (RowKit.intOf i).toNat)
  case atStart => exact ⟨0, [], rfl, Nat.zero_le _, rfl, hrow.congr (fun i _ => by simp), hb0, hide (by rw [List.drop_zero]; cases joinT ts <;> simp)⟩
  case round =>
    clear hrow hb0 hmk
    obtain ⟨k, xs, rfl, hk, hxl, hrow, hbel, Hinv⟩ := hrel
    by_cases hlt : k < n
    · have hlt' : (k : Int) < (n : Int) := by omega
      obtain ⟨t, ht⟩ : ∃ t, ts[k]? = some t := ⟨_, List.getElem?_eq_getElem (by omega)⟩
      have hdr : ts.drop k = t :: ts.drop (k + 1) := by
        rw [List.drop_eq_getElem_cons (by omega)]
        rw [List.getElem?_eq_getElem (by omega)] at ht
        rw [Option.some.inj ht]
      obtain ⟨g, off, rfl, hcl⟩ := hR k t ht
      have hmem : t ∈ ts := List.mem_of_getElem? ht
      have hin := hi t hmem
      have hbm := bulk_mem ts t hmem
      obtain ⟨kd, tx, nm, o1, o2, o3⟩ := t
      have hcell : ∀ i v, (TA.mk kd tx nm o1 o2 o3).cells[i]? = some v → wr.cell? ⟨g, off + k * 6 + i, none⟩ = some v := fun i v hv => cell_below (hcl i v hv) hbel
      have cW := fun o => nWrite kd nm o1 o2 o3 tx (by have : tx.length + 22 ≤ bulk ts := hbm; omega) hin.1 hin.2 (wr.alloc o) (hT.below (hbel.alloc hbel.size o))
      have g0 := hcell 0 _ rfl
      have g1 := hcell 1 _ rfl
      have g2 := hcell 2 _ rfl
      have g3 := hcell 3 _ rfl
      have g4 := hcell 4 _ rfl
      have g5 := hcell 5 _ rfl
      obtain ⟨wr0, hwr0⟩ : ∃ x, writeR kd tx nm = x := ⟨_, rfl⟩
      rw [hwr0] at cW
      have hwr : (TA.mk kd tx nm o1 o2 o3).wr = wr0 := hwr0
      rw [Nat.add_zero] at g0
      clear hcl hcell hR hi hwr0
      have Hdr := hide hdr
      clear hdr
      have Hwr := hide hwr
      clear hwr hmem hin hbm ht
      generalize (⟨tx.toArray⟩ : ByteArray) = s at *
      have hAlt := hrow.lt
      cases wr0 with
      | none =>
        have Hno : Hid (joinR ts = none) := hide (by
          unfold joinR
          rw [Hinv.out, Hdr.out, joinT, Hwr.out]
          rfl)
        simp only [wrV] at cW
        clear Hinv Hdr
        go_wp2_with fail
        refine (cW _).mono ?_
        rintro e w1 ⟨rfl, hb1⟩
        have hbw := hbel.trans (((below_new wr _).trans (hb1.mono (by simp))).mono hbel.size)
        clear cW g0 g1 g2 g3 g4 g5
        go_wp2_with fail
        go_ret2
        rw [Hno.out]
        exact ⟨rfl, hbw⟩
      | some sx =>
        simp only [wrV] at cW
        obtain ⟨sb, hsb⟩ : ∃ sb, (⟨sx.toArray⟩ : ByteArray) = sb := ⟨_, rfl⟩
        rw [hsb] at cW
        by_cases h0 : kd = 0
        · subst h0
          by_cases hl : k + 1 < n
          · have hl' : (k : Int) < (n : Int) - 1 := by omega
            have Hno : Hid (joinR ts = none) := hide (by
              unfold joinR
              rw [Hinv.out, Hdr.out, joinT, Hwr.out]
              simp only
              rw [if_pos (by refine ⟨by first | rfl | trivial, ?_⟩; intro e; have := congrArg List.length e; rw [List.length_drop] at this; simp at this; omega)]
              rfl)
            clear Hinv Hdr
            go_wp2_with fail
            refine (cW _).mono ?_
            rintro e w1 ⟨rfl, hb1⟩
            have hbw := hbel.trans (((below_new wr _).trans (hb1.mono (by simp))).mono hbel.size)
            have t0 : w1.cell? ⟨wr.heap.size, 0, none⟩ = some (.int .i64 0) := cell_of_row _ _ 0 _ _ _ ((hb1.block wr.heap.size (by simp)).trans (heap_alloc_new _ _))
            clear cW g0 g1 g2 g3 g4 g5
            go_wp2_with fail
            go_ret2
            rw [Hno.out]
            exact ⟨rfl, hbw⟩
          · have hl' : ¬ (k : Int) < (n : Int) - 1 := by omega
            have Hgo : Hid (joinT ts = (joinT (ts.drop (k + 1))).map ((xs ++ [sx]) ++ ·)) := hide (by
              rw [Hinv.out, Hdr.out, joinT, Hwr.out]
              simp only
              rw [if_neg (by rintro ⟨_, e⟩; exact e (List.drop_of_length_le (by omega))), map_app])
            clear Hinv Hdr
            go_wp2_with fail
            refine (cW _).mono ?_
            rintro e w1 ⟨rfl, hb1⟩
            have hb2 := (below_new wr _).trans (hb1.mono (by simp))
            have hbw := hbel.trans (hb2.mono hbel.size)
            have t0 : w1.cell? ⟨wr.heap.size, 0, none⟩ = some (.int .i64 0) := cell_of_row _ _ 0 _ _ _ ((hb1.block wr.heap.size (by simp)).trans (heap_alloc_new _ _))
            have hr1 := hrow.of_block (hb2.block _ hAlt)
            have r0 := hr1.cell hlt
            have r1 := hr1.frozen k
            clear cW g0 g1 g2 g3 g4 g5
            go_wp2_with fail
            have hfin : (w1.setCell ⟨w.heap.size, k, none⟩ (.string sb)).rowIs w.heap.size 9 n (fun j => .string ⟨((xs ++ [sx]).getD j []).toArray⟩) := (hr1.set k (.string sb)).congr (fun j hj => by
              rw [getD_snoc, hxl, ← hsb]
              by_cases hjk : j = k
              · rw [if_pos hjk, if_pos hjk]
              · rw [if_neg hjk, if_neg hjk])
            exact ⟨⟨k + 1, xs ++ [sx], by go_num, by omega, by rw [List.length_append, hxl]; rfl, hfin, below_set hbw _ (Nat.le_refl _) _, Hgo⟩, by simp [RowKit.intOf]; omega⟩
        · have h0' : (kd == 0) = false := by rw [beq_eq_false_iff_ne]; exact h0
          have Hgo : Hid (joinT ts = (joinT (ts.drop (k + 1))).map ((xs ++ [sx]) ++ ·)) := hide (by
            rw [Hinv.out, Hdr.out, joinT, Hwr.out]
            simp only
            rw [if_neg (by rintro ⟨e, _⟩; exact h0 e), map_app])
          clear Hinv Hdr
          go_wp2_with fail
          refine (cW _).mono ?_
          rintro e w1 ⟨rfl, hb1⟩
          have hb2 := (below_new wr _).trans (hb1.mono (by simp))
          have hbw := hbel.trans (hb2.mono hbel.size)
          have t0 : w1.cell? ⟨wr.heap.size, 0, none⟩ = some (.int .i64 kd) := cell_of_row _ _ 0 _ _ _ ((hb1.block wr.heap.size (by simp)).trans (heap_alloc_new _ _))
          have hr1 := hrow.of_block (hb2.block _ hAlt)
          have r0 := hr1.cell hlt
          have r1 := hr1.frozen k
          clear cW g0 g1 g2 g3 g4 g5
          go_wp2_with fail
          have hfin : (w1.setCell ⟨w.heap.size, k, none⟩ (.string sb)).rowIs w.heap.size 9 n (fun j => .string ⟨((xs ++ [sx]).getD j []).toArray⟩) := (hr1.set k (.string sb)).congr (fun j hj => by
            rw [getD_snoc, hxl, ← hsb]
            by_cases hjk : j = k
            · rw [if_pos hjk, if_pos hjk]
            · rw [if_neg hjk, if_neg hjk])
          exact ⟨⟨k + 1, xs ++ [sx], by go_num, by omega, by rw [List.length_append, hxl]; rfl, hfin, below_set hbw _ (Nat.le_refl _) _, Hgo⟩, by simp [RowKit.intOf]; omega⟩
    · have hlt' : ¬ (k : Int) < (n : Int) := by omega
      have hke : k = n := by omega
      have hjt : joinT ts = some xs := by rw [Hinv.out, List.drop_of_length_le (by omega)]; simp [joinT]
      have hjl := (joinT_len ts xs hi hjt).1
      have hjl2 := join_len xs
      have cJ := sJoin w.heap.size n xs wr (fun j x hx => by
        rw [hrow.cell (by have := (List.getElem?_eq_some_iff.1 hx).1; omega), List.getD_eq_getElem?_getD, hx]
        rfl) hrow.lt (by omega) (by omega) (by omega)
      have Hjr : Hid (joinR ts = some (Lib.join xs [32])) := hide (by unfold joinR; rw [hjt]; rfl)
      rw [hxl, hke] at cJ
      obtain ⟨sj, hsj⟩ : ∃ sj, (⟨(Lib.join xs [32]).toArray⟩ : ByteArray) = sj := ⟨_, rfl⟩
      rw [hsj] at cJ
      clear Hinv
      go_wp2_with fail
      refine cJ.mono ?_
      rintro e w1 ⟨rfl, hb1⟩
      go_wp2_with fail
      go_ret2
      rw [Hjr.out, wrV, hsj]
      exact ⟨rfl, hbel.trans (hb1.mono hbel.size)⟩
end Go.Proofs.YtinbbcojilogeaaDoor.Tok
