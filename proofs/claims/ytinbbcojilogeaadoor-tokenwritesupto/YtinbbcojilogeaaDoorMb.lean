/- The document's on and At, as they are walked. -/
import Derived.Test.YtinbbcojilogeaaDoorMa
namespace Go.Proofs.YtinbbcojilogeaaDoor.Tok
open Go.RowKit Go.Shelf Go.Proofs.YtinbbcojilogeaaDoor.Oct

theorem below_two (w : World) (A B : Obj) : Below w.heap.size w ((w.alloc A).alloc B) := ((Below.refl _ _).alloc (Nat.le_refl _) _).alloc (by simp) _
set_option maxRecDepth 100000 in
set_option maxHeartbeats 2000000 in
theorem dOn (l : List UInt8) (fo fl fc off : Nat) (hl : l.length ≤ 140737488355328) (hfo : fo ≤ off) (hoff : off ≤ l.length) (hfl : fl ≤ 140737488355329) (hfc : fc ≤ 140737488355329) (w : World) :
    Calls Tryd.prog 24 #[str l, spotV fo fl fc, .int .i64 (off : Int)] w fun e w' => e = .returned (spotV off (adv 0 (off - fo) (l.drop fo) (fl, fc)).1 (adv 0 (off - fo) (l.drop fo) (fl, fc)).2) ∧ Below w.heap.size w w' := by
  have hsz := size_str l
  have hat := at_str l
  have cS := fun i hi w => dSize l i hi hl w
  unfold str spotV at *
  obtain ⟨s, hs⟩ : ∃ s, (⟨l.toArray⟩ : ByteArray) = s := ⟨_, rfl⟩
  simp only [hs] at *
  go_enter Tryd.func24, Tryd.ntmps24
  go_wp2_with fail
  go_loopw [7] (fun i wr => ∃ (k line col : Nat), i = .int .i64 (k : Int) ∧ wr = (w.alloc (.cells #[.int .i64 (fo : Int), .int .i64 (line : Int), .int .i64 (col : Int)] 23)).alloc (.cells #[.int .i64 0, .int .i64 0, .int .i64 0] 23) ∧ fo ≤ k ∧ k ≤ l.length ∧ line ≤ fl + k ∧ col ≤ fc + k + 1 ∧ Hid (adv 0 (off - fo) (l.drop fo) (fl, fc) = adv 0 (off - k) (l.drop k) (line, col))) (fun i _ => l.length - (RowKit.intOf i).toNat)
  case atStart => exact ⟨fo, fl, fc, rfl, rfl, Nat.le_refl _, by omega, by omega, by omega, hide rfl⟩
  case round =>
    obtain ⟨k, line, col, rfl, rfl, hfk, hkl, hln, hcl, Hinv⟩ := hrel
    by_cases hlt : k < off
    · have hlt' : (k : Int) < (off : Int) := by omega
      have hlt2 : (k : Int) < (l.length : Int) := by omega
      obtain ⟨a, ha⟩ : ∃ a, l[k]? = some a := ⟨_, List.getElem?_eq_getElem (by omega)⟩
      have hsa := hat k a ha (by rw [hsz]; omega)
      have har : l.drop k = a :: l.drop (k + 1) := by
        rw [List.drop_eq_getElem_cons (by omega)]
        rw [List.getElem?_eq_getElem (by omega)] at ha
        rw [Option.some.inj ha]
      have cW := fun w => cS k (by omega) w
      have hwd := wid_pos (l.drop k)
      have hwl : wid (l.drop k) ≤ l.length - k := by rw [← List.length_drop, har]; exact wid_le a _
      have Hstep : Hid (adv 0 (off - fo) (l.drop fo) (fl, fc) = adv 0 (off - (k + wid (l.drop k))) (l.drop (k + wid (l.drop k))) (stp a (line, col))) := hide (by
        rw [Hinv.out, show off - k = (off - k - 1) + 1 by omega, ← List.drop_drop]
        have := adv_rune (off - k - 1) a (l.drop (k + 1)) (line, col) (by rw [← har]; exact hwd)
        rw [← har] at this
        rw [this]
        congr 1
        omega)
      clear har Hinv hat ha cS
      generalize wid (l.drop k) = wd at *
      by_cases h10 : a.toNat = 10
      · obtain rfl : a = 10 := UInt8.toNat.inj h10
        rw [stp, if_pos h10] at Hstep
        clear h10
        go_wp2_with (go_at_call 36; refine (cW _).mono ?_; rintro e w1 ⟨rfl, rfl⟩)
        exact ⟨⟨k + wd, line + 1, 1, by go_num, rfl, by omega, by omega, by omega, by omega, Hstep⟩, by simp [RowKit.intOf]; omega⟩
      · have hb10 : ((a.toNat : Int) == 10) = false := by rw [beq_eq_false_iff_ne]; omega
        rw [stp, if_neg h10] at Hstep
        clear h10
        go_wp2_with (go_at_call 36; refine (cW _).mono ?_; rintro e w1 ⟨rfl, rfl⟩)
        exact ⟨⟨k + wd, line, col + 1, by go_num, rfl, by omega, by omega, by omega, by omega, Hstep⟩, by simp [RowKit.intOf]; omega⟩
    · have hlt' : ¬ (k : Int) < (off : Int) := by omega
      have Hd : Hid (adv 0 (off - fo) (l.drop fo) (fl, fc) = (line, col)) := hide (by rw [Hinv.out, show off - k = 0 by omega, adv_zero])
      clear Hinv hat cS
      go_wp2_with fail
      refine bodyPost_ret (results_cell_row rfl _ _ (w.heap.size + 1) _ _ _ _ rfl (heap_alloc2_new _ _ _) Tryd.underlying23 rfl infoSpot) rfl ?_
      rw [Hd.out]
      exact ⟨rfl, below_two _ _ _⟩
theorem dAt (l : List UInt8) (off : Int) (h1 : -9223372036854775808 ≤ off) (h2 : off ≤ 9223372036854775807) (hl : l.length ≤ 140737488355328) (w : World) :
    Calls Tryd.prog 10 #[str l, .int .i64 off] w fun e w' => e = .returned (spotV (atOff l.length off) (spotAt l (atOff l.length off)).1 (spotAt l (atOff l.length off)).2) ∧ Below w.heap.size w w' := by
  have hk : atOff l.length off ≤ l.length := by unfold atOff; omega
  have c := fun w => dOn l 0 1 1 (atOff l.length off) hl (Nat.zero_le _) hk (by omega) (by omega) w
  have hsz := size_str l
  rw [Nat.sub_zero, List.drop_zero] at c
  unfold spotAt
  have hz : off < 0 → atOff l.length off = 0 := fun h => by unfold atOff; omega
  have hg : (l.length : Int) < off → atOff l.length off = l.length := fun h => by unfold atOff; omega
  have hn : 0 ≤ off → off ≤ (l.length : Int) → off = (atOff l.length off : Int) := fun h h' => by unfold atOff; omega
  generalize atOff l.length off = k at *
  generalize adv 0 k l (1, 1) = q at *
  unfold str spotV at *
  generalize (⟨l.toArray⟩ : ByteArray) = s at *
  by_cases hneg : off < 0
  · obtain rfl := hz hneg
    clear hz hg hn
    go_enter Tryd.func10, Tryd.ntmps10
    go_wp2_with fail
    refine (c _).mono ?_
    rintro e w1 ⟨rfl, hb1⟩
    have hg1 := (hb1.block w.heap.size (by simp)).trans (heap_alloc_new _ _)
    go_wp2_with (refine wpList_store_row rfl _ _ _ rfl w.heap.size _ rfl rfl _ _ hg1 (by exact infoSpot) (by rfl) (allSpot _ _ _) ?_)
    refine bodyPost_ret (results_cell_row rfl _ _ w.heap.size _ _ _ _ rfl (setRow_heap _ _ _ _ _ _ hg1) Tryd.underlying23 rfl (by exact infoSpot)) rfl ?_
    exact ⟨rfl, below_setRow ((below_new _ _).trans (hb1.mono (by simp))) (Nat.le_refl _) _⟩
  · by_cases hgt : (l.length : Int) < off
    · obtain rfl := hg hgt
      clear hz hg hn
      go_enter Tryd.func10, Tryd.ntmps10
      go_wp2_with fail
      refine (c _).mono ?_
      rintro e w1 ⟨rfl, hb1⟩
      have hg1 := (hb1.block w.heap.size (by simp)).trans (heap_alloc_new _ _)
      go_wp2_with (refine wpList_store_row rfl _ _ _ rfl w.heap.size _ rfl rfl _ _ hg1 (by exact infoSpot) (by rfl) (allSpot _ _ _) ?_)
      refine bodyPost_ret (results_cell_row rfl _ _ w.heap.size _ _ _ _ rfl (setRow_heap _ _ _ _ _ _ hg1) Tryd.underlying23 rfl (by exact infoSpot)) rfl ?_
      exact ⟨rfl, below_setRow ((below_new _ _).trans (hb1.mono (by simp))) (Nat.le_refl _) _⟩
    · obtain rfl := hn (by omega) (by omega)
      clear hz hg hn
      go_enter Tryd.func10, Tryd.ntmps10
      go_wp2_with fail
      refine (c _).mono ?_
      rintro e w1 ⟨rfl, hb1⟩
      have hg1 := (hb1.block w.heap.size (by simp)).trans (heap_alloc_new _ _)
      go_wp2_with (refine wpList_store_row rfl _ _ _ rfl w.heap.size _ rfl rfl _ _ hg1 (by exact infoSpot) (by rfl) (allSpot _ _ _) ?_)
      refine bodyPost_ret (results_cell_row rfl _ _ w.heap.size _ _ _ _ rfl (setRow_heap _ _ _ _ _ _ hg1) Tryd.underlying23 rfl (by exact infoSpot)) rfl ?_
      exact ⟨rfl, below_setRow ((below_new _ _).trans (hb1.mono (by simp))) (Nat.le_refl _) _⟩
end Go.Proofs.YtinbbcojilogeaaDoor.Tok
