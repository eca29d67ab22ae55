/- Unhex, as it is walked. -/
import Derived.Test.YtefbhhabeapaaaaDoorHx5
import Derived.Lib.OthersKept
import Derived.Laws.RangeAny
namespace Go.Proofs.YtefbhhabeapaaaaDoor.Oct
open Go.RowKit
theorem dg_high (c : Nat) (h : 128 ≤ c) : dg c = 16 := by unfold dg; rw [if_neg (by omega), if_neg (by omega)]
theorem push2_0 (h : Array Obj) (x y : Obj) : ((h.push x).push y)[h.size]? = some x := by
  rw [Array.getElem?_push, if_neg (by simp)]
  simp
theorem push2_1 (h : Array Obj) (x y : Obj) : ((h.push x).push y)[h.size + 1]? = some y := by
  rw [Array.getElem?_push, if_pos (by simp)]
theorem unh_dv (l : List UInt8) (pos : Nat) (h : pos < l.length) (hd : dv l pos = 16) : unh l = none := by
  refine unh_bad l pos (l[pos]) (List.getElem?_eq_getElem h) ?_
  unfold dv at hd
  rw [List.getD_eq_getElem?_getD, List.getElem?_eq_getElem h] at hd
  exact hd
theorem heap_set1 (g : Nat) (e : TypeId) (o : Nat) (v : Value) (w : World) (cur : Array Value) (h : w.heap[g]? = some (.cells cur e)) : (w.setCell ⟨g, o, none⟩ v).heap[g]? = some (.cells (cur.setIfInBounds o v) e) := by
  simp [World.setCell, Array.getElem?_modify, h]
theorem own_of_row (B : Nat) (e : TypeId) (w : World) (xs : List Value) (n : Nat) (hn : xs.length = n) (hm : n ≤ maxLen) (g : Nat) (hg : B ≤ g) (h : w.heap[g]? = some (.cells xs.toArray e)) : w.ownsRow B e 1 (.slice (some ⟨g, 0, none⟩) n n) n xs := by
  refine ⟨by rw [hn, Nat.mul_one], .inr ⟨g, n, xs.toArray, rfl, hg, h, Nat.le_refl _, hm, by simp [hn], by simp [← hn]⟩⟩
theorem made_zero (l : List UInt8) (M : Nat) (h : l.length / 2 = M) : madeCells (Value.int .u8 0).cells M = (bv (tx l 0)).toArray := by
  rw [tx_zero, h]
  apply Array.ext'
  apply List.ext_getElem?
  intro j
  by_cases hj : j < M
  · simp [madeCells, bv, Value.cells, hj, Nat.mod_one]
  · simp [madeCells, bv, hj]
set_option maxRecDepth 100000 in
set_option maxHeartbeats 1000000 in
theorem Unhex_any (s : ByteArray) (w : World) (hs : s.size ≤ 281474976702464) :
    Calls Tryd.prog 5 #[.string s] w fun e w' => ∃ ao c, e = .returned (.tuple #[.slice ao (unhB s.data.toList).length c, .int .i64 (unhE s.data.toList)]) ∧ Below w.heap.size w w' ∧ w'.ownsRow w.heap.size 5 1 (.slice ao (unhB s.data.toList).length c) (unhB s.data.toList).length (bv (unhB s.data.toList)) := by
  obtain ⟨l, hl⟩ : ∃ l, s.data.toList = l := ⟨_, rfl⟩
  have hsl : l.length = s.size := by rw [← hl, Array.length_toList]; rfl
  have hat : ∀ i (h : i < s.size), (s[i]'h) = l[i]'(by omega) := fun i h => by subst hl; rfl
  rw [hl]
  by_cases hodd : s.size % 2 = 1
  · have ho : ((s.size : Int) % 2 == 0) = false := by rw [beq_eq_false_iff_ne]; omega
    have hon : ((s.size : Int) % 2 != 0) = true := by rw [bne, ho]; rfl
    have hu := unh_odd l (by omega)
    rw [unhE, unhB, hu, if_pos rfl]
    clear hu hl hat
    go_enter Tryd.func5, Tryd.ntmps5
    go_wp2_with fail
    go_ret2
    exact ⟨none, 0, rfl, Below.refl _ _, World.ownsRow_nil _ _ _ _⟩
  · have ho : ((s.size : Int) % 2 == 0) = true := by rw [beq_iff_eq]; omega
    have hon : ((s.size : Int) % 2 != 0) = false := by rw [bne, ho]; rfl
    obtain ⟨M, hM⟩ : ∃ M, s.size / 2 = M := ⟨_, rfl⟩
    have hMz : (s.size : Int) / 2 = (M : Int) := by omega
    obtain ⟨i, hi, hz0, hz1, hz2⟩ := info_parts info5
    have hrun := run_make (P := Tryd.prog) w 22 5 i (.int .u8 0) Tryd.underlying22 hi hz0 .i64 .i64 M M (by omega) (by omega) (by rw [hz2]; omega) (by omega)
    rw [hz1, Nat.mul_one, Int.toNat_natCast, made_zero l M (by omega)] at hrun
    go_enter Tryd.func5, Tryd.ntmps5
    go_wp2_with fail
    clear hrun
    go_loopw [5] (fun _ wr => ∃ pos : Nat, pos ≤ s.size ∧ (∀ j, j < pos → dv l j < 16) ∧ wr.heap[w.heap.size]? = some (.cells (bv (tx l pos)).toArray 5) ∧ wr.heap[w.heap.size + 1]? = some (.stringIter s pos) ∧ Below w.heap.size w wr) (fun _ wr => s.size - wr.iterPos (w.heap.size + 1))
    case atStart =>
      refine ⟨0, Nat.zero_le _, fun j hj => by omega, ?_, ?_, ((Below.refl _ w).alloc (Nat.le_refl _) _).alloc (by simp) _⟩
      · exact push2_0 _ _ _
      · exact push2_1 _ _ _
    case round =>
      obtain ⟨pos, hpos, hdig, hrow, hit, hbw⟩ := hrel
      by_cases hp : pos < s.size
      · have hnx : ∀ ty, (Instr.next (.pointer (some ⟨w.heap.size + 1, 0, none⟩)) true ty).run Tryd.prog wr = _ := fun ty => Lib.run_next_any_at wr (w.heap.size + 1) s pos ty hit hp
        have hd1 := decode_le s pos
        have cD := fun W => digitOf_any (Utf8.decode s pos).1 W (by omega)
        have hbw2 := Lib.below_iterAt hbw (k := w.heap.size + 1) (by omega) s (pos + (Utf8.decode s pos).2)
        have hit2 := Lib.iterAt_heap wr (w.heap.size + 1) s pos (pos + (Utf8.decode s pos).2) hit
        have hrow2 := (Lib.iterAt_other wr (w.heap.size + 1) w.heap.size s (pos + (Utf8.decode s pos).2) (by omega)).trans hrow
        have hdv : dv l pos = dg (s[pos]'hp).toNat := by
          unfold dv
          rw [List.getD_eq_getElem?_getD, List.getElem?_eq_getElem (by omega), hat pos hp]; rfl
        have hboth : (dg (Utf8.decode s pos).1 = 16 → dv l pos = 16) ∧ (dg (Utf8.decode s pos).1 ≠ 16 → dg (Utf8.decode s pos).1 = dv l pos ∧ (Utf8.decode s pos).2 = 1) := by
          rw [hdv]
          by_cases ha : (s[pos]'hp).toNat < 128
          · rw [decode_ascii s pos hp ha]
            exact ⟨fun h => h, fun _ => ⟨rfl, rfl⟩⟩
          · have h1 := (decode_high s pos hp (by omega)).1
            exact ⟨fun _ => dg_high _ (by omega), fun h => absurd (dg_high _ h1) h⟩
        obtain ⟨hbad, hgood⟩ := hboth
        have hipos : wr.iterPos (w.heap.size + 1) = pos := by simp only [World.iterPos, hit]
        have Hdig := hide hdig
        clear hat hdv hdig
        generalize (Utf8.decode s pos).1 = r at *
        generalize (Utf8.decode s pos).2 = rw at *
        go_wp2_with fail
        refine (cD _).mono ?_
        rintro e w1 ⟨rfl, hw1⟩
        generalize hW : wr.iterAt (w.heap.size + 1) s (pos + rw) = W at *
        subst hw1
        by_cases hd : dg r = 16
        · have hn := unh_dv l pos (by omega) (hbad hd)
          have h1 : Hid (unhB l = []) := hide (by rw [unhB, hn]; rfl)
          have h2 : Hid (unhE l = 2) := hide (by rw [unhE, hn]; rfl)
          rw [if_pos hd, decide_eq_false (by omega)]
          clear hn
          go_wp2_with fail
          go_ret2
          rw [h1.out, h2.out]
          exact ⟨none, 0, rfl, hbw2, World.ownsRow_nil _ _ _ _⟩
        · obtain ⟨hg1, rfl⟩ := hgood hd
          have hv16 : dv l pos < 16 := by rw [← hg1]; have := dg_lt r; omega
          have hx16 : fl l pos (pos / 2) < 16 := fl_lt l pos (fun j hj => Hdig.out j hj)
          have hP : pos / 2 < l.length / 2 := by omega
          have hget := tx_get l pos (pos / 2) hP
          have hcell : w1.cell? ⟨w.heap.size, pos / 2, none⟩ = some (.int .u8 (fl l pos (pos / 2) : Int)) := by
            unfold World.cell?
            rw [hrow2]
            show (bv (tx l pos)).toArray[pos / 2]? = _
            rw [List.getElem?_toArray, bv, List.getElem?_map, hget]
            show some (Value.int .u8 _) = _
            rw [UInt8.toNat_ofNat', Nat.mod_eq_of_lt (by omega)]
          have hfro : w1.frozen? ⟨w.heap.size, pos / 2, none⟩ = false := by
            unfold World.frozen?
            rw [hrow2]
            rfl
          have Hst := hide (tx_step l pos)
          have Hfn := hide (fl_next l pos)
          have Hdn : Hid (∀ j, j < pos + 1 → dv l j < 16) := hide (fun j hj => by
            rcases Nat.lt_or_ge j pos with c1 | c1
            · exact Hdig.out j c1
            · rw [show j = pos by omega]; exact hv16)
          have hor := or16 ⟨_, hx16⟩ ⟨_, hv16⟩
          simp only at hor
          rw [if_neg hd, decide_eq_true hd, hg1]
          clear hgood hbad hd hget hW hg1
          generalize dv l pos = v at *
          generalize fl l pos (pos / 2) = x at *
          have hsh : IntKind.u8.wrap ((x : Int) * 16) = (x : Int) * 16 := by rw [IntKind.wrap_u8]; omega
          have hsh2 : ((x : Int) * 16) % 256 = (x : Int) * 16 := by omega
          have hPz : (pos : Int) / 2 < (M : Int) := by omega
          go_wp2_with fail
          have hz : (x : Int) * 16 + (v : Int) = ((UInt8.ofNat (x * 16 + v)).toNat : Int) := by rw [UInt8.toNat_ofNat', Nat.mod_eq_of_lt (by omega)]; omega
          have hnrow : (w1.setCell ⟨w.heap.size, pos / 2, none⟩ (Value.int .u8 ((x : Int) * 16 + (v : Int)))).heap[w.heap.size]? = some (.cells (bv (tx l (pos + 1))).toArray 5) := by
            rw [heap_set1 w.heap.size 5 (pos / 2) _ w1 _ hrow2, ← Hst.out, Hfn.out, hz]
            congr 2
            apply Array.ext'
            simp [bv, List.map_set]
          have hnit := (Below.heap_setCell w1 ⟨w.heap.size, pos / 2, none⟩ (Value.int .u8 ((x : Int) * 16 + (v : Int))) (w.heap.size + 1) (by simp)).trans hit2
          refine ⟨⟨pos + 1, by omega, Hdn.out, hnrow, hnit, hbw2.setCell (Nat.le_refl _) _⟩, ?_⟩
          rw [hipos]
          simp only [World.iterPos, hnit]
          omega
      · have hnx : ∀ ty, (Instr.next (.pointer (some ⟨w.heap.size + 1, 0, none⟩)) true ty).run Tryd.prog wr = _ := fun ty => Lib.run_next_end_at wr (w.heap.size + 1) s pos ty hit hp
        obtain rfl : pos = s.size := by omega
        have hn := tx_end l (by omega) (fun j hj => by have := hdig j (by omega); omega)
        rw [hsl] at hn
        have h1 : Hid (unhB l = tx l s.size) := hide (by rw [unhB, hn]; rfl)
        have h2 : Hid (unhE l = 0) := hide (by rw [unhE, hn]; rfl)
        have Hln : Hid ((tx l s.size).length = M) := hide (by rw [tx_length]; omega)
        clear hn hdig hat
        go_wp2_with fail
        go_ret2
        rw [h1.out, h2.out, Hln.out]
        refine ⟨_, M, rfl, hbw, own_of_row w.heap.size 5 wr (bv (tx l s.size)) M (by rw [bv_length, Hln.out]) (by unfold maxLen; omega) w.heap.size (Nat.le_refl _) hrow⟩
end Go.Proofs.YtefbhhabeapaaaaDoor.Oct
