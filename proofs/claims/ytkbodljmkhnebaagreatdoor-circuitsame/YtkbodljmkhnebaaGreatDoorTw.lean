/- The numbers of a row, one by one; what args are in a call of a row. -/
import Derived.Test.YtkbodljmkhnebaaGreatDoorTv
import Derived.Test.YtkbodljmkhnebaaGreatDoorTn
namespace Go.Proofs.YtkbodljmkhnebaaGreatDoor.Cir
open Go.RowKit Go.Shelf Go.Proofs.YtkbodljmkhnebaaGreatDoor.Oct Go.Proofs.YtkbodljmkhnebaaGreatDoor.Tok Go.Proofs.YtkbodljmkhnebaaGreatDoor.Gt
attribute [local go_sem] Oper.semAt_some

set_option maxRecDepth 100000 in
set_option maxHeartbeats 1000000 in
theorem cValues1 (l Bs n₀ c : Nat) (ao : Option Addr) (xs : List N64) (hl : xs.length ≤ 4398046511105) (J Jx : List N64 → World → Prop)
    (hY : ∀ pre x W, J pre W → pre.length < xs.length → YieldAt Fence.wide (2 - 1) Tryz.prog l #[.int .i64 (x.1 : Int)] W fun e W' =>
      (e = .returned (.bool true) ∧ J (pre ++ [x]) W' ∧ Below n₀ W W') ∨ (e = .returned (.bool false) ∧ Jx (pre ++ [x]) W'))
    (W : World) (hBs : W.cell? ⟨Bs, 0, none⟩ = some (.slice ao xs.length c)) (hI : Isb n₀ W (.slice ao xs.length c) (xs.map (·.1))) (h0 : J [] W) :
    CallsIn Fence.wide 2 Tryz.prog 224 #[.func (.yield l) #[] #[], .pointer (some ⟨Bs, 0, none⟩)] W fun e W' => (∃ v, e = .returned v) ∧
      ((∃ ys, ys = xs ∧ J ys W') ∨ (∃ pre, pre <+: xs ∧ Jx pre W')) := by
  refine callsIn_of_wp Tryz.func224 rfl trivial ?_ rfl
  simp only [Tryz.ntmps224, List.size_toArray, List.length_cons, List.length_nil, Nat.reduceAdd, Nat.reduceSub, Array.replicate_succ, Array.replicate_zero, List.push_toArray, List.append_toArray, List.nil_append, List.cons_append]
  obtain ⟨n, hn⟩ : ∃ n, xs.length = n := ⟨_, rfl⟩
  have HN := hide hn
  rw [hn] at hBs hI hY hl
  clear hn
  gi_wp2
  gi_loopw [7] (fun i wr => ∃ k : Nat, k ≤ n ∧ i = .int .i64 (k : Int) ∧ J (xs.take k) wr ∧ Below n₀ W wr) (fun i _ => n - (Go.RowKit.intOf i).toNat)
  case atStart => exact ⟨0, Nat.zero_le _, rfl, h0, Below.refl _ _⟩
  case round =>
    obtain ⟨k, hk, rfl, hJs, hnx⟩ := hrel
    by_cases hlt : k < n
    · obtain ⟨x, hx⟩ : ∃ x, xs[k]? = some x := ⟨_, List.getElem?_eq_getElem (by rw [HN.out]; exact hlt)⟩
      have hpl : (xs.take k).length < n := by simp; omega
      obtain ⟨fn, tmps, assign, body, hy, hR⟩ := hY _ x wr hJs hpl
      have hlm : (xs.map (·.1))[k]? = some x.1 := by rw [List.getElem?_map, hx]; rfl
      obtain ⟨g, off, cs, fr, rfl, hc⟩ : ∃ g off cs fr, ao = some ⟨g, off, none⟩ ∧ g < n₀ ∧ W.heap[g]? = some (.cells cs 3 fr) ∧ cs[off + k]? = some (iv x.1) := by
        rcases hI with ⟨e, _⟩ | ⟨g, off, c', cs, fr, hg, h1, h2, h3⟩
        · rw [e] at hlm; simp at hlm
        · simp only [Value.slice.injEq] at h1
          exact ⟨g, off, cs, fr, h1.1, hg, h2, h3 k _ hlm⟩
      have hcx : wr.cell? ⟨g, off + k, none⟩ = some (.int .i64 (x.1 : Int)) := (hnx.cell (p := ⟨g, off + k, none⟩) hc.1).trans ((cell_of_row _ _ _ _ _ _ hc.2.1).trans hc.2.2)
      have htk : xs.take (k + 1) = xs.take k ++ [x] := by
        rw [List.take_add_one, hx]
        rfl
      have Htk := hide htk
      have hdd : decide ((k : Int) < (n : Int)) = true := decide_eq_true (by omega)
      clear htk hc hlm hx
      gi_wp2
      refine hR.mono ?_
      rintro e W3 (⟨rfl, hJ3, hk3⟩ | ⟨rfl, hJx3⟩)
      · gi_wp2
        go_roundw
        case rel => exact ⟨k + 1, by omega, by go_num, by rw [Htk.out]; exact hJ3, hnx.trans hk3⟩
        case measure => simp [Go.RowKit.intOf]; omega
      · gi_wp2
        refine bodyPost_ret (results_none rfl _ _ _) rfl ?_
        exact ⟨⟨_, rfl⟩, .inr ⟨_, by rw [← Htk.out]; exact List.take_prefix _ _, hJx3⟩⟩
    · obtain rfl : n = k := by omega
      gi_wp2
      go_end0
      refine ⟨⟨_, rfl⟩, .inl ⟨_, rfl, ?_⟩⟩
      rw [List.take_of_length_le (by rw [HN.out]; exact Nat.le_refl _)] at hJs
      exact hJs
theorem values_stops (Bs n₀ c : Nat) (ao : Option Addr) (xs : List N64) (hl : xs.length ≤ 4398046511105) (w : World) (hBs : Bs < w.heap.size) (hn₀ : n₀ ≤ w.heap.size) (hc : w.cell? ⟨Bs, 0, none⟩ = some (.slice ao xs.length c)) (hI : Isb n₀ w (.slice ao xs.length c) (xs.map (·.1))) :
    SeqStopsK Fence.wide (3 - 1) Tryz.prog 224 #[.pointer (some ⟨Bs, 0, none⟩)] (fun x : N64 => #[.int .i64 (x.1 : Int)]) (Below n₀) (fun ys => ys = xs) (fun pre => pre <+: xs) xs.length w := fun l J Jx W hW _ _ hY h0 =>
  cValues1 l Bs n₀ c ao xs hl J Jx hY W ((hW.cell (p := ⟨Bs, 0, none⟩) hBs).trans hc) (hI.block fun g hg _ _ _ => hW.block g (by omega)) h0
set_option maxRecDepth 100000 in
set_option maxHeartbeats 600000 in
theorem cAt (a : Ag) (k : Nat) (h1 : a.fr ≤ 4398046511104) (h2 : k ≤ 4398046511104) (w : World) : Calls Tryz.prog 178 #[agV a, .int .i64 (k : Int)] w fun e w' => e = .returned (.int .i64 (atP k a : Int)) ∧ w' = w.alloc (.cells #[.int .i64 (a.fr : Int), .int .i64 (a.sz : Int), .bool a.whole] 230) := by
  obtain ⟨fr, sz, wh⟩ := a
  unfold agV atP
  simp only at h1 ⊢
  cases wh with
  | true =>
    go_enter Tryz.func178, Tryz.ntmps178
    go_wp2_with fail
    go_ret
    exact ⟨by simp, rfl⟩
  | false =>
    go_enter Tryz.func178, Tryz.ntmps178
    go_wp2_with fail
    go_ret
    exact ⟨by simp, rfl⟩
end Go.Proofs.YtkbodljmkhnebaaGreatDoor.Cir
