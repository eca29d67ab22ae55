/- The law's Own at two rows, as it is walked. -/
import Derived.Test.YtckcdgobgpjdkaaDoorTwo
namespace Go.Proofs.YtckcdgobgpjdkaaDoor.Oct
open Go.RowKit

set_option maxHeartbeats 4000000 in
set_option maxRecDepth 100000 in
theorem Own_two (B gl ga gb na ca nb cb : Nat) (la lb : List UInt8) (w : World) (h : Two B gl ga gb na ca nb cb w w la lb) (hab : ga ≠ gb) (hal : ga ≠ gl) (hbl : gb ≠ gl) (hB : B ≤ w.heap.size) (hca : ca ≤ 9223372036854775807) (hcb : cb ≤ 9223372036854775807) :
    Calls Tryd.prog 34 #[.slice (some ⟨gl, 0, none⟩) 2 2] w fun e w' => e = .returned (.bool true) ∧ G2 ga gb w w' := by
  obtain ⟨lena, hnca, _, hgaw, _⟩ := own_len h.oa
  obtain ⟨lenb, hncb, _, hgbw, _⟩ := own_len h.ob
  go_enter Tryd.func34, Tryd.ntmps34
  go_wp2
  refine wp_loop_rounds 3 ?_
  rw [rounds_succ]
  have hTw := h
  clear h
  have c0 := hTw.c0
  have c1 := hTw.c1
  go_wp2_with fail
  go_loopw [4] (fun k wr => ∃ (j : Nat) (la2 : List UInt8), j ≤ na ∧ k = .int .i64 j ∧ la2.length = na ∧ (∀ q, q < j → la2[q]? = some 0) ∧ Two B gl ga gb na ca nb cb w wr la2 lb ∧ B ≤ wr.heap.size) (fun k _ => na - (intOf k).toNat)
  case atStart => exact ⟨0, la, Nat.zero_le _, rfl, lena, fun q hq => absurd hq (Nat.not_lt_zero _), hTw, hB⟩
  case round =>
    clear hTw c0 c1 hB
    obtain ⟨j, la2, hj, rfl, hl2, hall, hTw, hB⟩ := hrel
    have c0 := hTw.c0
    have c1 := hTw.c1
    by_cases hlt : j < na
    · have hlt' : (j : Int) < na := by omega
      have hcj := hTw.oa.cellAt j (by omega)
      rw [show (bv la2)[j]? = some (.int .u8 ((la2[j]'(by omega)).toNat : Int)) by simp [bv, List.getElem?_eq_getElem (show j < la2.length by omega)]] at hcj
      have hfj := hTw.oa.frozenAt j
      have hnx := hTw.setA hab hal j 0
      go_wp2_with fail
      refine ⟨⟨j + 1, la2.set j 0, by omega, by go_num, by rw [List.length_set]; exact hl2, fun q hq => ?_, hnx, by simp [World.setCell]; exact hB⟩, by simp [intOf]; omega⟩
      rw [List.getElem?_set]
      split
      · rw [if_pos (by omega)]
      · exact hall q (by omega)
    · have hlt' : ¬ (j : Int) < na := by omega
      obtain rfl : na = j := by omega
      obtain ⟨laF, hlaF⟩ : ∃ x, x = la2 := ⟨_, rfl⟩
      rw [← hlaF] at hTw hl2 hall
      clear hlaF
      have alllaF := hide hall
      have lenlaF := hide hl2
      clear hall hl2 hlt hj
      go_wp2_with fail
      rw [rounds_succ]
      have c0 := hTw.c0
      have c1 := hTw.c1
      go_wp2_with fail
      go_loopw [4] (fun k wr => ∃ (j : Nat) (lb2 : List UInt8), j ≤ nb ∧ k = .int .i64 j ∧ lb2.length = nb ∧ (∀ q, q < j → lb2[q]? = some 2) ∧ Two B gl ga gb na ca nb cb w wr laF lb2 ∧ B ≤ wr.heap.size) (fun k _ => nb - (intOf k).toNat)
      case atStart => exact ⟨0, lb, Nat.zero_le _, rfl, lenb, fun q hq => absurd hq (Nat.not_lt_zero _), hTw, hB⟩
      case round =>
        clear hTw c0 c1 hB
        obtain ⟨j, lb2, hj, rfl, hl2, hall, hTw, hB⟩ := hrel
        have c0 := hTw.c0
        have c1 := hTw.c1
        by_cases hlt : j < nb
        · have hlt' : (j : Int) < nb := by omega
          have hcj := hTw.ob.cellAt j (by omega)
          rw [show (bv lb2)[j]? = some (.int .u8 ((lb2[j]'(by omega)).toNat : Int)) by simp [bv, List.getElem?_eq_getElem (show j < lb2.length by omega)]] at hcj
          have hfj := hTw.ob.frozenAt j
          have hnx := hTw.setB hab hbl j 2
          go_wp2_with fail
          refine ⟨⟨j + 1, lb2.set j 2, by omega, by go_num, by rw [List.length_set]; exact hl2, fun q hq => ?_, hnx, by simp [World.setCell]; exact hB⟩, by simp [intOf]; omega⟩
          rw [List.getElem?_set]
          split
          · rw [if_pos (by omega)]
          · exact hall q (by omega)
        · have hlt' : ¬ (j : Int) < nb := by omega
          obtain rfl : nb = j := by omega
          obtain ⟨lbF, hlbF⟩ : ∃ x, x = lb2 := ⟨_, rfl⟩
          rw [← hlbF] at hTw hl2 hall
          clear hlbF
          have alllbF := hide hall
          have lenlbF := hide hl2
          clear hall hl2 hlt hj
          go_wp2_with fail
          rw [rounds_succ]
          go_wp2_with fail
          refine wp_loop_rounds 3 ?_
          rw [rounds_succ]
          go_wp2_with fail
          go_loopw [8, 9] (fun b k wr => ∃ j : Nat, j ≤ ca - na ∧ k = .int .i64 j ∧ b = .slice (some ⟨ga, 0, none⟩) (na + j) ca ∧ Two B gl ga gb na ca nb cb w wr laF lbF ∧ B ≤ wr.heap.size) (fun _ k _ => ca - na - (intOf k).toNat)
          case atStart => exact ⟨0, Nat.zero_le _, rfl, rfl, hTw, hB⟩
          case round =>
            clear hTw c0 c1 hB
            obtain ⟨j, hj, rfl, rfl, hTw, hB⟩ := hrel
            have c0 := hTw.c0
            have c1 := hTw.c1
            by_cases hlt : j < ca - na
            · have hlt' : (j : Int) < ((ca : Int) - na) := by omega
              obtain ⟨_, _, _, hgw, hcs⟩ := own_len hTw.oa
              have hcj := hcs (na + j) (by omega)
              have hfj := hTw.oa.frozenAt (na + j)
              have hnx0 := hTw.setA hab hal (na + j) 1
              rw [List.set_eq_of_length_le (by have := lenlaF.out; omega)] at hnx0
              have hnx := hnx0.more ((Below.refl _ _).alloc (Nat.le_refl _) (.cells #[.int .u8 1] 5))
              clear hnx0
              clear hcs
              go_wp2_with (at_builtin; refine wpList_push_room rfl _ _ 24 rfl 5 Tryd.underlying24 info5 ga (na + j) ca rfl _ rfl (by omega) hgw hcj hfj ?_)
              go_wp2_with fail
              exact ⟨⟨j + 1, by omega, by go_num, rfl, hnx, by simp [World.setCell]; omega⟩, by simp [intOf]; omega⟩
            · have hlt' : ¬ (j : Int) < ((ca : Int) - na) := by omega
              clear hlt hj
              go_wp2_with fail
              rw [rounds_succ]
              go_wp2_with fail
              go_loopw [8, 9] (fun b k wr => ∃ j : Nat, j ≤ cb - nb ∧ k = .int .i64 j ∧ b = .slice (some ⟨gb, 0, none⟩) (nb + j) cb ∧ Two B gl ga gb na ca nb cb w wr laF lbF ∧ B ≤ wr.heap.size) (fun _ k _ => cb - nb - (intOf k).toNat)
              case atStart => exact ⟨0, Nat.zero_le _, rfl, rfl, hTw, hB⟩
              case round =>
                clear hTw c0 c1 hB
                obtain ⟨j, hj, rfl, rfl, hTw, hB⟩ := hrel
                have c0 := hTw.c0
                have c1 := hTw.c1
                by_cases hlt : j < cb - nb
                · have hlt' : (j : Int) < ((cb : Int) - nb) := by omega
                  obtain ⟨_, _, _, hgw, hcs⟩ := own_len hTw.ob
                  have hcj := hcs (nb + j) (by omega)
                  have hfj := hTw.ob.frozenAt (nb + j)
                  have hnx0 := hTw.setB hab hbl (nb + j) 3
                  rw [List.set_eq_of_length_le (by have := lenlbF.out; omega)] at hnx0
                  have hnx := hnx0.more ((Below.refl _ _).alloc (Nat.le_refl _) (.cells #[.int .u8 3] 5))
                  clear hnx0
                  clear hcs
                  go_wp2_with (at_builtin; refine wpList_push_room rfl _ _ 24 rfl 5 Tryd.underlying24 info5 gb (nb + j) cb rfl _ rfl (by omega) hgw hcj hfj ?_)
                  go_wp2_with fail
                  exact ⟨⟨j + 1, by omega, by go_num, rfl, hnx, by simp [World.setCell]; omega⟩, by simp [intOf]; omega⟩
                · have hlt' : ¬ (j : Int) < ((cb : Int) - nb) := by omega
                  clear hlt hj
                  go_wp2_with fail
                  rw [rounds_succ]
                  go_wp2_with fail
                  refine wp_loop_rounds 3 ?_
                  rw [rounds_succ]
                  go_wp2_with fail
                  go_loop [11] (fun k => ∃ j : Nat, j ≤ na ∧ k = .int .i64 j) (fun k => na - (intOf k).toNat)
                  case atStart => exact ⟨0, Nat.zero_le _, rfl⟩
                  case round =>
                    obtain ⟨j, hj, rfl⟩ := hrel
                    by_cases hlt : j < na
                    · have hlt' : (j : Int) < na := by omega
                      have hcj := hTw.oa.cellAt j (by omega)
                      rw [show (bv laF)[j]? = some (.int .u8 0) by simp [bv, alllaF.out j hlt]] at hcj
                      go_wp2_with fail
                      exact ⟨⟨j + 1, by omega, by go_num⟩, by simp [intOf]; omega⟩
                    · have hlt' : ¬ (j : Int) < na := by omega
                      clear hlt hj
                      go_wp2_with fail
                      rw [rounds_succ]
                      go_wp2_with fail
                      go_loop [11] (fun k => ∃ j : Nat, j ≤ nb ∧ k = .int .i64 j) (fun k => nb - (intOf k).toNat)
                      case atStart => exact ⟨0, Nat.zero_le _, rfl⟩
                      case round =>
                        obtain ⟨j, hj, rfl⟩ := hrel
                        by_cases hlt : j < nb
                        · have hlt' : (j : Int) < nb := by omega
                          have hcj := hTw.ob.cellAt j (by omega)
                          rw [show (bv lbF)[j]? = some (.int .u8 2) by simp [bv, alllbF.out j hlt]] at hcj
                          go_wp2_with fail
                          exact ⟨⟨j + 1, by omega, by go_num⟩, by simp [intOf]; omega⟩
                        · have hlt' : ¬ (j : Int) < nb := by omega
                          clear hlt hj
                          go_wp2_with fail
                          rw [rounds_succ]
                          go_wp2_with fail
                          go_ret
                          exact ⟨rfl, hTw.bel⟩
end Go.Proofs.YtckcdgobgpjdkaaDoor.Oct
