/- The exact sum with the other sign; a sum below 0, rounded. -/
import Derived.Test.YtnpdfkcjjedamaaGreatDoorYb
import Derived.Laws.CopyOwn
namespace Go.Proofs.YtnpdfkcjjedamaaGreatDoor.Sca
open Go.RowKit Go.Lib Go.Shelf

theorem neg_step (T A P x y n c c' : Nat) (h : T + A + c * P = P) (hn : n + x + 1 = 18446744073709551616) (hy : y + 18446744073709551616 * c' = n + c) :
    T + P * y + (A + P * x) + c' * (P * 18446744073709551616) = P * 18446744073709551616 := by
  have e : P * y + P * x + c' * (P * 18446744073709551616) = P * (y + x + 18446744073709551616 * c') := by
    rw [Nat.mul_add, Nat.mul_add, Nat.mul_left_comm c' P, Nat.mul_comm c']
  have e2 : y + x + 18446744073709551616 * c' + 1 = 18446744073709551616 + c := by omega
  have e3 : P * (y + x + 18446744073709551616 * c' + 1) = P * (18446744073709551616 + c) := by rw [e2]
  rw [Nat.mul_add, Nat.mul_add P 18446744073709551616 c, Nat.mul_one, Nat.mul_comm P c] at e3
  generalize P * (y + x + 18446744073709551616 * c') = Z at *
  generalize P * 18446744073709551616 = V at *
  generalize c' * V = V' at *
  omega
theorem neg_val (P A A0 c : Nat) (hc : c ≤ 1) (h : A + A0 + c * P = P) (h0 : A0 ≠ 0) (hl : A0 < P) : A + A0 = P ∧ A ≠ 0 := by
  have : c = 0 ∨ c = 1 := by omega
  rcases this with rfl | rfl <;> omega
theorem wd_set (a : List Nat) (k y : Nat) (h : k < a.length) : wd (a.set k y) k = y := wd_at (List.getElem?_set_self h)
theorem aw_one (a : List Nat) : (aw a).all (·.oneCell') = true := by
  rw [Array.all_eq_true_iff_forall_mem]
  intro u hu
  simp only [aw, List.mem_toArray, List.mem_map] at hu
  obtain ⟨x, _, rfl⟩ := hu
  rfl
set_option maxRecDepth 100000 in
set_option maxHeartbeats 1000000 in
theorem tNegated (a : List Nat) (ha : a.length = 34) (hlt : ∀ (i : Nat) x, a[i]? = some x → x < 18446744073709551616) (w : World) :
    Calls Tryz.prog 49 #[.agg (aw a)] w fun e w' => ∃ a' c, e = .returned (.agg (aw a')) ∧ a'.length = 34 ∧ (∀ (i : Nat) x, a'[i]? = some x → x < 18446744073709551616) ∧ c ≤ 1 ∧ valN a' + valN a + c * 18446744073709551616 ^ 34 = 18446744073709551616 ^ 34 ∧ Below w.heap.size w w' := by
  have h0 : Tot ((w.alloc (.cells (aw a) 44)).alloc (.cells zero34 44)) w.heap.size a :=
    ⟨ha, hlt, by rw [heap_alloc_old _ _ (by simp)]; exact heap_alloc_new w _⟩
  have hz : ((w.alloc (.cells (aw a) 44)).alloc (.cells zero34 44)).heap[w.heap.size + 1]? = some (.cells zero34 44 (0, 0)) := heap_alloc2_new w _ _
  have hb0 : Below w.heap.size w ((w.alloc (.cells (aw a) 44)).alloc (.cells zero34 44)) := ((Below.refl _ _).alloc (Nat.le_refl _) _).alloc (by simp) _
  generalize hA : aw a = A at *
  go_enter Tryz.func49, Tryz.ntmps49
  go_wp2
  generalize (w.alloc (.cells A 44)).alloc (.cells zero34 44) = W0 at *
  clear hA
  go_loopw [3, 5] (fun vc vi wr => ∃ (k c : Nat) (ar : List Nat), vc = .int .u64 (c : Int) ∧ vi = .int .i64 (k : Int) ∧ k ≤ 34 ∧ c ≤ 1 ∧ Tot wr w.heap.size ar ∧ wr.heap[w.heap.size + 1]? = some (.cells zero34 44 (0, 0)) ∧ Below w.heap.size w wr ∧ Hid (∀ j, k ≤ j → ar[j]? = a[j]?) ∧ Hid (valN (ar.take k) + valN (a.take k) + c * 18446744073709551616 ^ k = 18446744073709551616 ^ k)) (fun _ vi _ => 34 - (Go.RowKit.intOf vi).toNat)
  case atStart => exact ⟨0, 1, a, rfl, rfl, by omega, by omega, h0, hz, hb0, fun _ _ => rfl, by show _ = _; simp [valN]⟩
  case round =>
    obtain ⟨k, c, ar, rfl, rfl, hk, hc, hT, hZ, hB, HA, HV⟩ := hrel
    clear h0 hz hb0
    by_cases hk34 : k < 34
    · have hkz : decide ((k : Int) < 34) = true := decide_eq_true (by omega)
      have hk0 : (0 : Int) ≤ (k : Int) := by omega
      have hk1 : (k : Int) < 34 := by omega
      obtain ⟨x, hx, hxl, hxc⟩ := hT.at k hk34
      have hxf := hT.free k
      have hax : a[k]? = some x := by rw [← HA.out k (Nat.le_refl _)]; exact hx
      have hno := not_run x hxl
      obtain ⟨n, hn⟩ : ∃ n, 18446744073709551615 - x = n := ⟨_, rfl⟩
      rw [hn] at hno
      obtain ⟨y, hy⟩ : ∃ y, (n + 0 + c) % 18446744073709551616 = y := ⟨_, rfl⟩
      obtain ⟨c', hc'⟩ : ∃ c', (n + 0 + c) / 18446744073709551616 = c' := ⟨_, rfl⟩
      have hadd : ∀ w, (callFunc 48 #[.int .u64 (n : Int), .int .u64 0, .int .u64 (c : Int)]).run Tryz.prog w = .ok (.value (.tuple #[.int .u64 (y : Int), .int .u64 (c' : Int)])) w := fun w => by
        have := add64 n 0 c hc w
        rw [hy, hc'] at this
        exact this
      have hyl : y < 18446744073709551616 := by omega
      have hc'l : c' ≤ 1 := by omega
      have hT2 := hT.set k y hk34 hyl
      have hZ2 : (wr.setCell ⟨w.heap.size, k, none⟩ (.int .u64 (y : Int))).heap[w.heap.size + 1]? = some (.cells zero34 44 (0, 0)) := (Below.heap_setCell _ _ _ _ (by simp)).trans hZ
      have hB2 : Below w.heap.size w (wr.setCell ⟨w.heap.size, k, none⟩ (.int .u64 (y : Int))) := hB.setCell (Nat.le_refl _) _
      have HA2 : Hid (∀ j, k + 1 ≤ j → (ar.set k y)[j]? = a[j]?) := fun j hj => by
        rw [List.getElem?_set_ne (by omega)]
        exact HA.out j (by omega)
      have hlr : k < ar.length := by rw [hT.len]; exact hk34
      have HV2 : Hid (valN ((ar.set k y).take (k + 1)) + valN (a.take (k + 1)) + c' * 18446744073709551616 ^ (k + 1) = 18446744073709551616 ^ (k + 1)) := by
        show _ = _
        rw [valN_take _ k (by rw [List.length_set]; exact hlr), valN_take a k (by omega), wd_set ar k y hlr, List.take_set_of_le (Nat.le_refl _), wd_at hax, Nat.pow_succ]
        exact neg_step _ _ _ x y n c c' HV.out (by omega) (by omega)
      clear hT hZ hB HA HV hx hax hn hy hc' hlr
      go_wp2
      generalize wr.setCell ⟨w.heap.size, k, none⟩ (.int .u64 (y : Int)) = wx at *
      exact ⟨⟨k + 1, c', ar.set k y, rfl, by go_num, by omega, hc'l, hT2, hZ2, hB2, HA2, HV2⟩, by simp [Go.RowKit.intOf]; omega⟩
    · obtain rfl : k = 34 := by omega
      have hbk := hT.blk
      have hsz : (Tryz.prog.info? 44).map (·.size) = some (aw ar).size := by rw [aw_size, hT.len]; kernel_rfl
      have HF : Hid (valN ar + valN a + c * 18446744073709551616 ^ 34 = 18446744073709551616 ^ 34) := by
        have := HV.out
        rw [List.take_of_length_le (by rw [hT.len]; omega), List.take_of_length_le (by omega)] at this
        exact this
      have hZ3 : (wr.setRow (w.heap.size + 1) (aw ar)).heap[w.heap.size + 1]? = some (.cells (aw ar) 44 (0, 0)) := setRow_heap _ _ _ _ _ _ hZ
      have hB3 : Below w.heap.size w (wr.setRow (w.heap.size + 1) (aw ar)) := below_setRow hB (by omega) _
      have hzs : zero34.size = (aw ar).size := by rw [aw_size, hT.len]; rfl
      clear HV HA
      go_wp2_with (first | (refine wpList_load_row rfl 44 _ rfl w.heap.size rfl 44 (aw ar) (0, 0) _ hbk Tryz.underlying44 rfl hsz ?_) | (refine wpList_store_row rfl 44 _ _ rfl (w.heap.size + 1) (aw ar) rfl rfl 44 zero34 hZ hsz hzs (aw_one ar) ?_))
      refine bodyPost_ret (results_cell_row (p := 2) (ty := 44) (by kernel_rfl) _ _ (w.heap.size + 1) 44 (aw ar) (0, 0) _ rfl hZ3 Tryz.underlying44 rfl hsz) rfl ?_
      exact ⟨ar, c, rfl, hT.len, hT.lt, hc, HF.out, hB3⟩
end Go.Proofs.YtnpdfkcjjedamaaGreatDoor.Sca
