/- Package token: onward and At, as they are walked. -/
import Derived.Test.YtkbodljmkhnebaaGreatDoorKf
import Derived.Laws.RangeAny
namespace Go.Proofs.YtkbodljmkhnebaaGreatDoor.Tok
open Go.RowKit Go.Shelf Go.Proofs.YtkbodljmkhnebaaGreatDoor.Oct

theorem get_str (m : List UInt8) (i : Nat) : (⟨m.toArray⟩ : ByteArray).get! i = m.getD i 0 := by
  show m.toArray[i]! = _
  simp [List.getD_eq_getElem?_getD, getElem!_def]
  cases m[i]? <;> rfl
def rn (l : List UInt8) : Nat := (Lib.decodeN l.length (l.getD 0 0).toNat (l.getD 1 0).toNat (l.getD 2 0).toNat (l.getD 3 0).toNat).1
theorem dec_eq (m : List UInt8) (pos : Nat) : Utf8.decode ⟨m.toArray⟩ pos = (rn (m.drop pos), wid (m.drop pos)) := by
  have hd : ∀ i, (m.drop pos).getD i 0 = m.getD (pos + i) 0 := fun i => by simp [List.getD_eq_getElem?_getD]
  rw [Lib.decode_at, get_str, get_str, get_str, get_str, size_str]
  unfold rn wid
  rw [hd, hd, hd, hd, List.length_drop]
  rfl
theorem rn_ten (a : UInt8) (r : List UInt8) : (rn (a :: r) = 10) ↔ a.toNat = 10 := by
  unfold rn Lib.decodeN
  simp only [List.getD_cons_zero]
  by_cases h : a.toNat < 128
  · rw [if_pos h]
  · rw [if_neg h]
    have hn : ¬ a.toNat = 10 := by omega
    repeat' split
    all_goals simp only [hn, iff_false]
    all_goals omega
theorem rn_le (l : List UInt8) : rn l ≤ 2147483647 := by
  have := decode_le ⟨l.toArray⟩ 0
  rw [dec_eq] at this
  simpa using this
/-- The world inside onward. -/
def oW (w : World) (fo fl fc off line col : Nat) (s : ByteArray) (pos : Nat) : World :=
  (((w.alloc (.cells #[.int .i64 (fo : Int), .int .i64 (fl : Int), .int .i64 (fc : Int)] 43)).alloc (.cells #[.int .i64 0, .int .i64 0, .int .i64 0] 43)).alloc (.cells #[.int .i64 (off : Int), .int .i64 (line : Int), .int .i64 (col : Int)] 43)).alloc (.stringIter s pos)
theorem oW_pos (w : World) (fo fl fc off line col : Nat) (s : ByteArray) (pos : Nat) : (oW w fo fl fc off line col s pos).iterPos (w.heap.size + 1 + 1 + 1) = pos := by
  have h := World.iterPos_iter (((w.alloc (.cells #[.int .i64 (fo : Int), .int .i64 (fl : Int), .int .i64 (fc : Int)] 43)).alloc (.cells #[.int .i64 0, .int .i64 0, .int .i64 0] 43)).alloc (.cells #[.int .i64 (off : Int), .int .i64 (line : Int), .int .i64 (col : Int)] 43)) s pos
  have e : (((w.alloc (.cells #[.int .i64 (fo : Int), .int .i64 (fl : Int), .int .i64 (fc : Int)] 43)).alloc (.cells #[.int .i64 0, .int .i64 0, .int .i64 0] 43)).alloc (.cells #[.int .i64 (off : Int), .int .i64 (line : Int), .int .i64 (col : Int)] 43)).heap.size = w.heap.size + 1 + 1 + 1 := by simp
  rw [e] at h
  exact h
theorem oW_next (w : World) (fo fl fc off line col : Nat) (m : List UInt8) (pos : Nat) (hp : pos < m.length) (ty : TypeId) :
    (Instr.next (.pointer (some ⟨w.heap.size + 1 + 1 + 1, 0, none⟩)) true ty).run Tryz.prog (oW w fo fl fc off line col ⟨m.toArray⟩ pos) =
      .ok (.tuple #[.bool true, .int .i64 (pos : Int), .int .i32 (rn (m.drop pos) : Int)]) (oW w fo fl fc off line col ⟨m.toArray⟩ (pos + wid (m.drop pos))) := by
  have h := run_next_any (P := Tryz.prog) (((w.alloc (.cells #[.int .i64 (fo : Int), .int .i64 (fl : Int), .int .i64 (fc : Int)] 43)).alloc (.cells #[.int .i64 0, .int .i64 0, .int .i64 0] 43)).alloc (.cells #[.int .i64 (off : Int), .int .i64 (line : Int), .int .i64 (col : Int)] 43)) ⟨m.toArray⟩ pos ty (by rw [size_str]; exact hp)
  rw [dec_eq] at h
  have e : (((w.alloc (.cells #[.int .i64 (fo : Int), .int .i64 (fl : Int), .int .i64 (fc : Int)] 43)).alloc (.cells #[.int .i64 0, .int .i64 0, .int .i64 0] 43)).alloc (.cells #[.int .i64 (off : Int), .int .i64 (line : Int), .int .i64 (col : Int)] 43)).heap.size = w.heap.size + 1 + 1 + 1 := by simp
  rw [e] at h
  exact h
theorem oW_end (w : World) (fo fl fc off line col : Nat) (m : List UInt8) (pos : Nat) (hp : ¬ pos < m.length) (ty : TypeId) :
    (Instr.next (.pointer (some ⟨w.heap.size + 1 + 1 + 1, 0, none⟩)) true ty).run Tryz.prog (oW w fo fl fc off line col ⟨m.toArray⟩ pos) = .ok (.tuple #[.bool false]) (oW w fo fl fc off line col ⟨m.toArray⟩ pos) := by
  have h := run_next_end (P := Tryz.prog) (((w.alloc (.cells #[.int .i64 (fo : Int), .int .i64 (fl : Int), .int .i64 (fc : Int)] 43)).alloc (.cells #[.int .i64 0, .int .i64 0, .int .i64 0] 43)).alloc (.cells #[.int .i64 (off : Int), .int .i64 (line : Int), .int .i64 (col : Int)] 43)) ⟨m.toArray⟩ pos ty (by rw [size_str]; exact hp)
  have e : (((w.alloc (.cells #[.int .i64 (fo : Int), .int .i64 (fl : Int), .int .i64 (fc : Int)] 43)).alloc (.cells #[.int .i64 0, .int .i64 0, .int .i64 0] 43)).alloc (.cells #[.int .i64 (off : Int), .int .i64 (line : Int), .int .i64 (col : Int)] 43)).heap.size = w.heap.size + 1 + 1 + 1 := by simp
  rw [e] at h
  exact h
theorem heap_four (w : World) (A B C D : Obj) : ((((w.alloc A).alloc B).alloc C).alloc D).heap[w.heap.size + 1]? = some B :=
  (Below.heap_alloc _ _ _ (by simp)).trans ((Below.heap_alloc _ _ _ (by simp)).trans (heap_alloc2_new w A B))
theorem below_four (w : World) (A B C D : Obj) : Below w.heap.size w ((((w.alloc A).alloc B).alloc C).alloc D) :=
  ((((Below.refl _ _).alloc (Nat.le_refl _) _).alloc (by simp) _).alloc (by simp; omega) _).alloc (by simp; omega) _
set_option maxRecDepth 1000000 in
set_option maxHeartbeats 2000000 in
theorem nOnward (l : List UInt8) (fo fl fc off : Nat) (hl : l.length ≤ 140737488355328) (hfo : fo ≤ off) (hoff : off ≤ l.length) (hfl : fl ≤ 140737488355329) (hfc : fc ≤ 140737488355329) (w : World) :
    Calls Tryz.prog 68 #[str l, spotV fo fl fc, .int .i64 (off : Int)] w fun e w' => e = .returned (spotV off (adv 0 (off - fo) (l.drop fo) (fl, fc)).1 (adv 0 (off - fo) (l.drop fo) (fl, fc)).2) ∧ Below w.heap.size w w' := by
  have hsz := size_str l
  obtain ⟨m, hm⟩ : ∃ m, l.drop fo = m := ⟨_, rfl⟩
  have hml : m.length = l.length - fo := by rw [← hm, List.length_drop]
  have hx := ext_drop l fo
  rw [hm] at hx ⊢
  unfold str spotV
  clear hm
  obtain ⟨s1, hs1⟩ : ∃ s1, (⟨m.toArray⟩ : ByteArray) = s1 := ⟨_, rfl⟩
  generalize (⟨l.toArray⟩ : ByteArray) = s at *
  rw [hs1] at hx
  have hfo' : (fo : Int) ≤ (l.length : Int) := by omega
  go_enter Tryz.func68, Tryz.ntmps68
  go_wp2
  go_loopw [] (fun w' => ∃ (pos line col : Nat), w' = oW w fo fl fc off line col s1 pos ∧ pos ≤ m.length ∧ line ≤ fl + pos ∧ col ≤ fc + pos + 1 ∧ Hid (adv 0 (off - fo) m (fl, fc) = adv 0 (off - fo - pos) (m.drop pos) (line, col))) (fun w' => m.length - w'.iterPos (w.heap.size + 1 + 1 + 1))
  case atStart => exact ⟨0, fl, fc, rfl, Nat.zero_le _, Nat.le_refl _, Nat.le_succ _, hide (by simp)⟩
  case round =>
    obtain ⟨pos, line, col, rfl, hpm, hln, hcl, Hinv⟩ := hrel
    by_cases hp : pos < m.length
    · have hnx := fun ty => oW_next w fo fl fc off line col m pos hp ty
      obtain ⟨a, r, har⟩ : ∃ a r, m.drop pos = a :: r := ⟨_, _, List.drop_eq_getElem_cons hp⟩
      have hwd := wid_pos (m.drop pos)
      have hwl : wid (m.drop pos) ≤ m.length - pos := by rw [← List.length_drop, har]; exact wid_le a r
      have hten := rn_ten a r
      rw [← har] at hten
      have hrl := rn_le (m.drop pos)
      rw [hs1] at hnx
      have Hstep : ∀ k, off - fo - pos = k + 1 → Hid (adv 0 (off - fo) m (fl, fc) = adv 0 (off - fo - (pos + wid (m.drop pos))) (m.drop (pos + wid (m.drop pos))) (stp a (line, col))) := fun k hk => hide (by
        rw [Hinv.out, hk, ← List.drop_drop]
        have := adv_rune k a r (line, col) (by rw [← har]; exact hwd)
        rw [← har] at this
        rw [this]
        congr 1
        omega)
      generalize wid (m.drop pos) = wd at *
      generalize rn (m.drop pos) = ru at *
      unfold oW at hnx ⊢
      by_cases hge : off ≤ fo + pos
      · have hge' : (off : Int) ≤ (fo : Int) + (pos : Int) := by omega
        have Hd : Hid (adv 0 (off - fo) m (fl, fc) = (line, col)) := hide (by rw [Hinv.out, show off - fo - pos = 0 by omega, adv_zero])
        clear Hstep Hinv hten har
        go_wp2_with fail
        refine bodyPost_ret (results_cell_row rfl _ _ (w.heap.size + 1) _ _ _ _ rfl (heap_four _ _ _ _ _) Tryz.underlying43 rfl infoSpot) rfl ?_
        rw [Hd.out]
        exact ⟨rfl, below_four _ _ _ _ _⟩
      · have hge' : ¬ (off : Int) ≤ (fo : Int) + (pos : Int) := by omega
        have hs := Hstep (off - fo - pos - 1) (by omega)
        clear Hstep Hinv har
        by_cases h10 : a.toNat = 10
        · have hr10 : ru = 10 := hten.2 h10
          subst hr10
          rw [stp, if_pos h10] at hs
          clear hten h10
          go_wp2_with fail
          refine ⟨⟨pos + wd, line + 1, 1, rfl, by omega, by omega, by omega, hs⟩, ?_⟩
          show m.length - (oW w fo fl fc off (line + 1) (1) s1 (pos + wd)).iterPos _ < m.length - (oW w fo fl fc off line col s1 pos).iterPos _
          rw [oW_pos, oW_pos]
          omega
        · have hr10 : ((ru : Int) == 10) = false := by rw [beq_eq_false_iff_ne]; intro e; exact h10 (hten.1 (by omega))
          rw [stp, if_neg h10] at hs
          clear hten h10
          go_wp2_with fail
          refine ⟨⟨pos + wd, line, col + 1, rfl, by omega, by omega, by omega, hs⟩, ?_⟩
          show m.length - (oW w fo fl fc off (line) (col + 1) s1 (pos + wd)).iterPos _ < m.length - (oW w fo fl fc off line col s1 pos).iterPos _
          rw [oW_pos, oW_pos]
          omega
    · have hnx := fun ty => oW_end w fo fl fc off line col m pos hp ty
      have Hd : Hid (adv 0 (off - fo) m (fl, fc) = (line, col)) := hide (by rw [Hinv.out, List.drop_of_length_le (by omega), adv_nil])
      rw [hs1] at hnx
      clear Hinv
      unfold oW at hnx ⊢
      go_wp2_with fail
      refine bodyPost_ret (results_cell_row rfl _ _ (w.heap.size + 1) _ _ _ _ rfl (heap_four _ _ _ _ _) Tryz.underlying43 rfl infoSpot) rfl ?_
      rw [Hd.out]
      exact ⟨rfl, below_four _ _ _ _ _⟩
theorem allSpot (a c d : Int) : (#[Value.int .i64 a, .int .i64 c, .int .i64 d]).all (·.oneCell') = true := by simp [Value.oneCell']
/-- At. -/
def atOff (n : Nat) (off : Int) : Nat := (min (max off 0) (n : Int)).toNat
theorem nAt (l : List UInt8) (off : Int) (h1 : -9223372036854775808 ≤ off) (h2 : off ≤ 9223372036854775807) (hl : l.length ≤ 140737488355328) (w : World) :
    Calls Tryz.prog 66 #[str l, .int .i64 off] w fun e w' => e = .returned (spotV (atOff l.length off) (spotAt l (atOff l.length off)).1 (spotAt l (atOff l.length off)).2) ∧ Below w.heap.size w w' := by
  have hk : atOff l.length off ≤ l.length := by unfold atOff; omega
  have c := fun w => nOnward l 0 1 1 (atOff l.length off) hl (Nat.zero_le _) hk (by omega) (by omega) w
  have hsz := size_str l
  rw [Nat.sub_zero, List.drop_zero] at c
  unfold spotAt
  have hmin : min (max off 0) (l.length : Int) = (atOff l.length off : Int) := by unfold atOff; omega
  generalize atOff l.length off = k at *
  generalize adv 0 k l (1, 1) = q at *
  unfold str spotV at *
  generalize (⟨l.toArray⟩ : ByteArray) = s at *
  go_enter Tryz.func66, Tryz.ntmps66
  go_wp2_with fail
  refine (c _).mono ?_
  rintro e w1 ⟨rfl, hb1⟩
  have hg1 := (hb1.block w.heap.size (by simp)).trans (heap_alloc_new _ _)
  go_wp2_with (refine wpList_store_row rfl _ _ _ rfl w.heap.size _ rfl rfl _ _ hg1 (by exact infoSpot) (by rfl) (allSpot _ _ _) ?_)
  refine bodyPost_ret (results_cell_row rfl _ _ w.heap.size _ _ _ _ rfl (setRow_heap _ _ _ _ _ _ hg1) Tryz.underlying43 rfl (by exact infoSpot)) rfl ?_
  exact ⟨rfl, below_setRow ((below_new _ _).trans (hb1.mono (by simp))) (Nat.le_refl _) _⟩
end Go.Proofs.YtkbodljmkhnebaaGreatDoor.Tok
