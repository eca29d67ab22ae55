import Derived.Test.YtoickolhekhgmaaGreatDoorEn4231915e
import Derived.Test.YtoickolhekhgmaaGreatDoorEn15cb15cd
namespace Go.Proofs.YtoickolhekhgmaaGreatDoor.Gt
end Go.Proofs.YtoickolhekhgmaaGreatDoor.Gt
namespace Go.Proofs.YtoickolhekhgmaaGreatDoor.Oct
end Go.Proofs.YtoickolhekhgmaaGreatDoor.Oct
namespace Go.Proofs.YtoickolhekhgmaaGreatDoor.Tok
end Go.Proofs.YtoickolhekhgmaaGreatDoor.Tok
set_option maxRecDepth 100000
set_option maxHeartbeats 1000000
namespace Go.Proofs.YtoickolhekhgmaaGreatDoor.Cir
open Go.RowKit Go.Shelf Go.Proofs.YtoickolhekhgmaaGreatDoor.Oct Go.Proofs.YtoickolhekhgmaaGreatDoor.Tok Go.Proofs.YtoickolhekhgmaaGreatDoor.Gt
theorem eUnitary (c : Circ) (ao : Option Addr) (k : Nat) (w : World) (hC : Ci w c ao k) : Calls Tryz.prog 41 #[cV c ao k] w fun e w' => e = .returned (.bool (!c.ops.any unO)) /\ Below w.heap.size w w' := by
  have HC := hide hC
  obtain ⟨n, hn⟩ : ∃ n, c.ops.length = n := ⟨_, rfl⟩
  have HL := hide hn
  have hlen := hC.len
  obtain ⟨q, b, ops⟩ := c
  unfold cV
  simp only at hn hlen HL ⊢
  rw [hn] at hlen ⊢
  obtain ⟨R, hR⟩ : ∃ R, (!ops.any unO) = R := ⟨_, rfl⟩
  rw [hR]
  have HR := hide hR
  clear hn hC hR
  have HK : Hid (∀ V, Below (w.alloc (.cells #[.int .i64 q, .int .i64 b, .slice ao n k] 24)).heap.size (w.alloc (.cells #[.int .i64 q, .int .i64 b, .slice ao n k] 24)) V -> V.cell? ⟨w.heap.size, 2, none⟩ = some (.slice ao n k) /\ w.heap.size < V.heap.size) := hide (fun V hV => by
    obtain ⟨_, _, a, b⟩ := def_cells ((hV.block w.heap.size (by simp)).trans (heap_alloc_new w (.cells #[.int .i64 q, .int .i64 b, .slice ao n k] 24)))
    exact ⟨a, b⟩)
  have HB0 := hide (bnew w (.cells #[.int .i64 q, .int .i64 b, .slice ao n k] 24))
  go_enter Tryz.func41, Tryz.ntmps41
  go_wp2_with fail
  generalize (w.alloc (.cells #[.int .i64 q, .int .i64 b, .slice ao n k] 24)) = WW at *
  go_loopw [3] (fun vi wr => ∃ i : Nat, vi = .int .i64 (i : Int) /\ i <= n /\ Hid ((ops.take i).any unO = false) /\ Below WW.heap.size WW wr) (fun vi _ => n - (Go.RowKit.intOf vi).toNat)
  case atStart => exact ⟨0, rfl, Nat.zero_le _, hide rfl, Below.refl _ _⟩
  case round =>
    obtain ⟨i, rfl, hi, HA, hbW⟩ := hrel
    have hb := HB0.out.trans (hbW.mono HB0.out.size)
    obtain ⟨x2, xl⟩ := HK.out wr hbW
    by_cases h : i < n
    . have hd : decide ((i : Int) < (n : Int)) = true := decide_eq_true (by omega)
      obtain ⟨o, ho⟩ : ∃ o, ops[i]? = some o := ⟨_, List.getElem?_eq_getElem (by rw [HL.out]; exact h)⟩
      obtain ⟨g, off, aq, cq, rfl, hgl, hoc⟩ := (HC.out.below hb).ops.at (show (⟨q, b, ops⟩ : Circ).ops[i]? = some o from ho)
      have k0 := hoc.kind
      have k1 := hoc.gate
      have k2 := hoc.qs
      have k3 := hoc.bit
      have k4 := hoc.cond
      have k5 := hoc.whn
      have hi2 : (i : Int) < (n : Int) := by omega
      have HY : Hid (unO o = false -> (ops.take (i + 1)).any unO = false) := hide (fun e => by
        rw [List.take_add_one, ho, List.any_append, HA.out]
        simp [e])
      have HN : Hid (unO o = true -> R = false) := hide (fun e => by
        rw [← HR.out, Bool.not_eq_false', List.any_eq_true]
        exact ⟨o, List.mem_of_getElem? ho, e⟩)
      unfold unO at HY HN
      clear hoc ho
      obtain ⟨kind, gate, qs, bit, cond, whn⟩ := o
      simp only at k0 k1 k2 k3 k4 k5 HY HN
      by_cases h4 : kind = 4
      . subst h4
        have HY2 := hide (HY.out (by first | rfl | (simp; done) | (simp [*]; done)))
        clear HY HN
        go_wp2_with fail
        go_roundw
        case rel => exact ⟨i + 1, by go_num, by omega, HY2, hbW.trans ((bnew _ _).mono hbW.size)⟩
        case measure => simp [Go.RowKit.intOf]; omega
      . have e4 : (kind != 4) = true := by simpa using h4
        have e4' : (kind == 4) = false := by simpa using h4
        by_cases h1 : kind = 1
        . subst h1
          by_cases hc : cond = -1
          . subst hc
            have HY2 := hide (HY.out (by first | rfl | (simp; done) | (simp [*]; done)))
            clear HY HN
            go_wp2_with fail
            go_roundw
            case rel => exact ⟨i + 1, by go_num, by omega, HY2, hbW.trans ((bnew _ _).mono hbW.size)⟩
            case measure => simp [Go.RowKit.intOf]; omega
          . have ec : (cond != -1) = true := by simpa using hc
            have ec' : (cond == -1) = false := by simpa using hc
            have HN2 := hide (HN.out (by first | rfl | (simp; done) | (simp [*]; done)))
            clear HY HN
            go_wp2_with fail
            go_ret
            exact ⟨by rw [HN2.out]; rfl, HB0.out.trans ((hbW.trans ((bnew _ _).mono hbW.size)).mono HB0.out.size)⟩
        . have e1 : (kind != 1) = true := by simpa using h1
          have e1' : (kind == 1) = false := by simpa using h1
          have HN2 := hide (HN.out (by first | rfl | (simp; done) | (simp [*]; done)))
          clear HY HN
          go_wp2_with fail
          go_ret
          exact ⟨by rw [HN2.out]; rfl, HB0.out.trans ((hbW.trans ((bnew _ _).mono hbW.size)).mono HB0.out.size)⟩
    . obtain rfl : n = i := by omega
      have hz : R = true := by
        have := HA.out
        rw [List.take_of_length_le (by rw [HL.out]; exact Nat.le_refl _)] at this
        rw [← HR.out, this]
        rfl
      subst hz
      go_wp2_with fail
      go_ret
      exact ⟨rfl, hb⟩
theorem eClifford (c : Circ) (ao : Option Addr) (k : Nat) (w : World) (hC : Ci w c ao k) : Calls Tryz.prog 42 #[cV c ao k] w fun e w' => e = .returned (.bool (!c.ops.any clO)) /\ Below w.heap.size w w' := by
  have HC := hide hC
  obtain ⟨n, hn⟩ : ∃ n, c.ops.length = n := ⟨_, rfl⟩
  have HL := hide hn
  have hlen := hC.len
  obtain ⟨q, b, ops⟩ := c
  unfold cV
  simp only at hn hlen HL ⊢
  rw [hn] at hlen ⊢
  obtain ⟨R, hR⟩ : ∃ R, (!ops.any clO) = R := ⟨_, rfl⟩
  rw [hR]
  have HR := hide hR
  clear hn hC hR
  have HK : Hid (∀ V, Below (w.alloc (.cells #[.int .i64 q, .int .i64 b, .slice ao n k] 24)).heap.size (w.alloc (.cells #[.int .i64 q, .int .i64 b, .slice ao n k] 24)) V -> V.cell? ⟨w.heap.size, 2, none⟩ = some (.slice ao n k) /\ w.heap.size < V.heap.size) := hide (fun V hV => by
    obtain ⟨_, _, a, b⟩ := def_cells ((hV.block w.heap.size (by simp)).trans (heap_alloc_new w (.cells #[.int .i64 q, .int .i64 b, .slice ao n k] 24)))
    exact ⟨a, b⟩)
  have HB0 := hide (bnew w (.cells #[.int .i64 q, .int .i64 b, .slice ao n k] 24))
  go_enter Tryz.func42, Tryz.ntmps42
  go_wp2_with fail
  generalize (w.alloc (.cells #[.int .i64 q, .int .i64 b, .slice ao n k] 24)) = WW at *
  go_loopw [3] (fun vi wr => ∃ i : Nat, vi = .int .i64 (i : Int) /\ i <= n /\ Hid ((ops.take i).any clO = false) /\ Below WW.heap.size WW wr) (fun vi _ => n - (Go.RowKit.intOf vi).toNat)
  case atStart => exact ⟨0, rfl, Nat.zero_le _, hide rfl, Below.refl _ _⟩
  case round =>
    obtain ⟨i, rfl, hi, HA, hbW⟩ := hrel
    have hb := HB0.out.trans (hbW.mono HB0.out.size)
    obtain ⟨x2, xl⟩ := HK.out wr hbW
    by_cases h : i < n
    . have hd : decide ((i : Int) < (n : Int)) = true := decide_eq_true (by omega)
      obtain ⟨o, ho⟩ : ∃ o, ops[i]? = some o := ⟨_, List.getElem?_eq_getElem (by rw [HL.out]; exact h)⟩
      obtain ⟨g, off, aq, cq, rfl, hgl, hoc⟩ := (HC.out.below hb).ops.at (show (⟨q, b, ops⟩ : Circ).ops[i]? = some o from ho)
      have k0 := hoc.kind
      have k1 := hoc.gate
      have k2 := hoc.qs
      have k3 := hoc.bit
      have k4 := hoc.cond
      have k5 := hoc.whn
      have hi2 : (i : Int) < (n : Int) := by omega
      have HY : Hid (clO o = false -> (ops.take (i + 1)).any clO = false) := hide (fun e => by
        rw [List.take_add_one, ho, List.any_append, HA.out]
        simp [e])
      have HN : Hid (clO o = true -> R = false) := hide (fun e => by
        rw [← HR.out, Bool.not_eq_false', List.any_eq_true]
        exact ⟨o, List.mem_of_getElem? ho, e⟩)
      have c1 := hClifford o.gate wr
      unfold clO at HY HN
      clear hoc ho
      obtain ⟨kind, gate, qs, bit, cond, whn⟩ := o
      simp only at k0 k1 k2 k3 k4 k5 HY HN c1
      generalize clB (rw' gate) = cb at *
      by_cases hk : kind = 1
      . subst hk
        cases cb with
        | true =>
          have HY2 := hide (HY.out (by first | rfl | (simp; done) | (simp [*]; done)))
          clear HY HN
          go_wp2_with (first | (go_at_call 76; refine c1.mono ?_; rintro e w2 ⟨rfl, rfl⟩))
          go_roundw
          case rel => exact ⟨i + 1, by go_num, by omega, HY2, hbW⟩
          case measure => simp [Go.RowKit.intOf]; omega
        | false =>
          have HN2 := hide (HN.out (by first | rfl | (simp; done) | (simp [*]; done)))
          clear HY HN
          go_wp2_with (first | (go_at_call 76; refine c1.mono ?_; rintro e w2 ⟨rfl, rfl⟩))
          go_ret
          exact ⟨by rw [HN2.out]; rfl, HB0.out.trans ((hbW).mono HB0.out.size)⟩
      . have e1 : (kind == 1) = false := by simpa using hk
        have HY2 := hide (HY.out (by first | rfl | (simp; done) | (simp [*]; done)))
        clear HY HN
        go_wp2_with fail
        go_roundw
        case rel => exact ⟨i + 1, by go_num, by omega, HY2, hbW⟩
        case measure => simp [Go.RowKit.intOf]; omega
    . obtain rfl : n = i := by omega
      have hz : R = true := by
        have := HA.out
        rw [List.take_of_length_le (by rw [HL.out]; exact Nat.le_refl _)] at this
        rw [← HR.out, this]
        rfl
      subst hz
      go_wp2_with fail
      go_ret
      exact ⟨rfl, hb⟩
end Go.Proofs.YtoickolhekhgmaaGreatDoor.Cir
