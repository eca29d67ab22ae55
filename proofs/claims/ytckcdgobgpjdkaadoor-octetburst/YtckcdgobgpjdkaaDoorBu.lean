/- The law OctetBurst, as it is walked. -/
import Derived.Test.YtckcdgobgpjdkaaDoorOpen
import Derived.Test.YtckcdgobgpjdkaaDoorCrc
import Derived.Test.YtckcdgobgpjdkaaDoorHd
namespace Go.Proofs.YtckcdgobgpjdkaaDoor.Oct
open Go.RowKit

set_option maxHeartbeats 1000000 in
theorem burst_empty (ao : Option Addr) (c : Nat) (bit mask : Int) (w : World) (hT : Tabs w) :
    Calls Tryd.prog 7 #[.slice ao 0 c, .int .u64 bit, .int .u32 mask] w fun e w' => e = .returned (.bool true) ∧ Below w.heap.size w w' := by
  go_enter Tryd.func7, Tryd.ntmps7
  go_wp2_with (go_at_call 21; refine (heads_any _ hT).mono ?_; rintro e w' ⟨rfl, hb⟩)
  go_ret
  exact ⟨rfl, hb⟩

set_option maxHeartbeats 1000000 in
theorem burst_any (ao : Option Addr) (c n : Nat) (l : List UInt8) (bit mask : Nat) (w : World) (h : Bs w ao l) (hn : l.length = n) (h0 : 0 < n) (hl : n ≤ 140737488351232) (hT : Tabs w) (hbit : bit < 18446744073709551616) (_hmask : mask < 4294967296) :
    Calls Tryd.prog 7 #[.slice ao n c, .int .u64 (bit : Int), .int .u32 (mask : Int)] w fun e w' => e = .returned (.bool true) ∧ Below w.heap.size w w' := by
  have cS := Seal_any ao c l w h (by omega)
  have hln : (l ++ le 4 (crc l)).length = n + 4 := by rw [List.length_append, le_length, hn]
  rw [hln, hn] at cS
  have Hn := hide hn
  have hp : bit % (8 * n) < 8 * n := Nat.mod_lt _ (by omega)
  have hpz : ((bit : Int) % (8 * (n : Int))) = ((bit % (8 * n) : Nat) : Int) := by simp
  generalize bit % (8 * n) = p at hp hpz
  have HP := hide hpz
  clear hpz
  have h0' : ((n : Int) == 0) = false := by rw [beq_eq_false_iff_ne]; omega
  clear hn
  go_enter Tryd.func7, Tryd.ntmps7
  go_wp2_with (go_at_call 28; refine cS.mono ?_; rintro e w1 ⟨g, c', rfl, hfr⟩)
  have hownT := hfr.own
  rw [hln] at hownT
  have Hln := hide hln
  have hbel := hfr.below
  clear cS hfr h hbit hln
  have htl : num (le 4 (crc l)) = crc l := num_le 4 (crc l) (crc_lt l)
  have htl4 : (le 4 (crc l)).length = 4 := le_length _ _
  have Htl := hide htl
  have Htl4 := hide htl4
  clear htl htl4
  generalize le 4 (crc l) = tl at *
  simp only [HP.out]
  go_loopw [8, 9] (fun tv i wr => ∃ k M : Nat, ∃ cur : List UInt8, k ≤ 32 ∧ i = .int .u64 k ∧ M < 2 ^ k ∧ cur.length = n ∧ num cur = num l ^^^ 2 ^ p * M ∧ tv = .bool (decide (M ≠ 0)) ∧ Below w.heap.size w wr ∧ wr.ownsRow w.heap.size 5 1 (.slice (some ⟨g, 0, none⟩) (n + 4) c') (n + 4) (bv (cur ++ tl))) (fun _ i _ => 32 - (intOf i).toNat)
  case atStart => exact ⟨0, 0, l, Nat.zero_le _, rfl, by decide, Hn.out, by simp, by simp, hbel, hownT⟩
  case round =>
    obtain ⟨k, M, cur, hk, rfl, hM, hcl, hnum, rfl, hbr, hor⟩ := hrel
    by_cases hlt : k < 32
    · have hlt' : (k : Int) < 32 := by omega
      have Hnum := hide hnum
      have Hcl := hide hcl
      clear hnum hcl
      cases hbt : (bits .and .u32 ((mask : Int) / 2 ^ k) 1 == 1)
      · generalize htb : decide (M ≠ 0) = tb
        have Htb := hide htb
        clear htb
        go_wp2_with fail
        exact ⟨⟨k + 1, M, cur, by omega, by go_num, Nat.lt_of_lt_of_le hM (Nat.pow_le_pow_right (by decide) (by omega)), Hcl.out, Hnum.out, by rw [Htb.out], hbr, hor⟩, by simp [intOf]; omega⟩
      · by_cases hin : (p + k) / 8 < n
        · have hjz : ((p : Int) + k) / 8 = (((p + k) / 8 : Nat) : Int) := by omega
          have htz : ((p : Int) + k) % 8 = (((p + k) % 8 : Nat) : Int) := by omega
          have ht8 : (p + k) % 8 < 8 := Nat.mod_lt _ (by decide)
          have HJT : Hid (p + k = 8 * ((p + k) / 8) + (p + k) % 8) := show _ = _ by omega
          generalize (p + k) / 8 = j at *
          generalize (p + k) % 8 = t at *
          have hj' : (j : Int) < n := by omega
          have hfz := hor.frozenAt j
          have hjc : j < cur.length := by rw [Hcl.out]; exact hin
          have hcj : wr.cell? ⟨g, j, none⟩ = some (.int .u8 (cur[j].toNat : Int)) := by
            rw [hor.cellAt j (by omega)]
            rw [bv_append, List.getElem?_append_left (by rw [bv_length]; exact hjc)]
            simp [bv]
            exact ⟨cur[j], List.getElem?_eq_getElem hjc, rfl⟩
          have hbl : cur[j].toNat < 256 := cur[j].toNat_lt
          have HN := hide (bu_num cur j t p k M (num l) hjc ht8 HJT.out hM Hnum.out)
          have HV := hide (bu_val cur[j].toNat t hbl ht8)
          have hst := hor.stored j (.int .u8 ((UInt8.ofNat (cur[j].toNat ^^^ 2 ^ t)).toNat : Int))
          rw [bv_set cur tl j _ hjc] at hst
          have hgB : w.heap.size ≤ g := (hor.lt g rfl).1
          generalize cur[j].toNat = bb at *
          generalize decide (M ≠ 0) = tb
          go_wp2_with fail
          rw [HV.out]
          refine ⟨⟨k + 1, M + 2 ^ k, _, by omega, by go_num, by rw [Nat.pow_succ]; omega, ?_, HN.out, ?_, hbr.setCell hgB _, hst.1⟩, by simp [intOf]; omega⟩
          · rw [List.length_set]; exact Hcl.out
          · have : 0 < 2 ^ k := Nat.two_pow_pos k
            simp
        · have hin' : ¬ ((p : Int) + k) / 8 < n := by omega
          generalize htb : decide (M ≠ 0) = tb
          have Htb := hide htb
          clear htb
          go_wp2_with fail
          exact ⟨⟨k + 1, M, cur, by omega, by go_num, Nat.lt_of_lt_of_le hM (Nat.pow_le_pow_right (by decide) (by omega)), Hcl.out, Hnum.out, by rw [Htb.out], hbr, hor⟩, by simp [intOf]; omega⟩
    · have hlt' : ¬ (k : Int) < 32 := by omega
      obtain rfl : k = 32 := by omega
      have hM32 : M < 4294967296 := hM
      have hiff := crc_burst l cur M p (by rw [hcl, Hn.out]) hM32 hnum (by rw [Hn.out]; omega)
      have hcc : n + 4 ≤ c' := by
        rcases hor.2 with ⟨hv, _⟩ | ⟨_, _, _, hv, _, _, h1, _⟩
        · cases hv
        · simp only [Value.slice.injEq] at hv; omega
      have hdt : cur = (cur ++ tl).take n := by rw [← hcl, List.take_left]
      have hdd : crc l = num ((cur ++ tl).drop n) := by rw [← hcl, List.drop_left, Htl.out]
      have hll : (cur ++ tl).length = n + 4 := by rw [List.length_append, hcl, Htl4.out]
      have cO := Open_any g 0 c' (cur ++ tl) cur n (crc l) wr (Bs.of_own hor) hll (by rw [hll]; exact hcc) (by rw [hll]; omega) hdt hdd
      clear hdt hdd hll
      by_cases hM0 : M = 0
      · subst hM0
        have he : crc cur = crc l := hiff.2 rfl
        rw [show decide ((0 : Nat) ≠ 0) = false from rfl]
        clear hiff hnum hcl hM hM32
        go_wp2_with (go_at_call 27; refine cO.mono ?_; rintro e w3 ⟨ho, -⟩; obtain ⟨ao3, c3, rfl, hf3⟩ := ho he)
        have hB3 := hbr.trans (hf3.below.mono hbr.size)
        refine (heads_any w3 (hT.below hB3)).mono ?_
        rintro e w4 ⟨rfl, hb4⟩
        have hB4 := hB3.trans (hb4.mono hB3.size)
        go_wp2_with fail
        go_ret
        exact ⟨rfl, hB4⟩
      · have he : ¬ crc cur = crc l := fun e => hM0 (hiff.1 e)
        rw [show decide (M ≠ 0) = true from decide_eq_true hM0]
        clear hiff hnum hcl hM hM32
        go_wp2_with (go_at_call 27; refine cO.mono ?_; rintro e w3 ⟨-, ho⟩; obtain ⟨rfl, hb3⟩ := ho he)
        have hB3 := hbr.trans (hb3.mono hbr.size)
        refine (heads_any w3 (hT.below hB3)).mono ?_
        rintro e w4 ⟨rfl, hb4⟩
        have hB4 := hB3.trans (hb4.mono hB3.size)
        go_wp2_with fail
        go_ret
        exact ⟨rfl, hB4⟩
end Go.Proofs.YtckcdgobgpjdkaaDoor.Oct
