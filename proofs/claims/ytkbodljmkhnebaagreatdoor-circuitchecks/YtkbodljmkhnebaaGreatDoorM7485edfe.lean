/- The document's Halves, Unitary, Clifford (gen_dl8.py). -/
import Derived.Test.YtkbodljmkhnebaaGreatDoorM52f8d2f4
import Derived.Test.YtkbodljmkhnebaaGreatDoorMc5d62d12
/- The document's Halves, Unitary, Clifford (gen_dl8.py). -/
namespace Go.Proofs.YtkbodljmkhnebaaGreatDoor.Cir
open Go.RowKit Go.Shelf Go.Proofs.YtkbodljmkhnebaaGreatDoor.Oct Go.Proofs.YtkbodljmkhnebaaGreatDoor.Tok Go.Proofs.YtkbodljmkhnebaaGreatDoor.Gt

set_option maxRecDepth 100000 in
set_option maxHeartbeats 1000000 in
theorem eHalves (c : Circ) (ao : Option Addr) (k : Nat) (w : World) (hC : Ci w c ao k) : Calls Tryz.prog 15 #[cV c ao k] w fun e w' => e = .returned (.int .i64 (hlvP c.ops : Int)) ∧ Below w.heap.size w w' := by
  have HC := hide hC
  obtain ⟨n, hn⟩ : ∃ n, c.ops.length = n := ⟨_, rfl⟩
  have HL := hide hn
  have hlen := hC.len
  obtain ⟨q, b, ops⟩ := c
  unfold cV
  simp only at hn hlen HL ⊢
  rw [hn] at hlen ⊢
  clear hn hC
  have HK : Hid (∀ V, Below (w.alloc (.cells #[.int .i64 q, .int .i64 b, .slice ao n k] 24)).heap.size (w.alloc (.cells #[.int .i64 q, .int .i64 b, .slice ao n k] 24)) V → V.cell? ⟨w.heap.size, 2, none⟩ = some (.slice ao n k) ∧ w.heap.size < V.heap.size) := hide (fun V hV => by
    obtain ⟨_, _, a, b⟩ := def_cells ((hV.block w.heap.size (by simp)).trans (heap_alloc_new w (.cells #[.int .i64 q, .int .i64 b, .slice ao n k] 24)))
    exact ⟨a, b⟩)
  have HB0 := hide (bnew w (.cells #[.int .i64 q, .int .i64 b, .slice ao n k] 24))
  go_enter Tryz.func15, Tryz.ntmps15
  go_wp2_with fail
  generalize (w.alloc (.cells #[.int .i64 q, .int .i64 b, .slice ao n k] 24)) = WW at *
  go_loopw [3, 4] (fun vn vi wr => ∃ i m : Nat, vn = .int .i64 (m : Int) ∧ vi = .int .i64 (i : Int) ∧ i ≤ n ∧ m ≤ i ∧ Hid (m = hlvP (ops.take i)) ∧ Below WW.heap.size WW wr) (fun _ vi _ => n - (Go.RowKit.intOf vi).toNat)
  case atStart => exact ⟨0, 0, rfl, rfl, Nat.zero_le _, Nat.le_refl _, hide rfl, Below.refl _ _⟩
  case round =>
    obtain ⟨i, m, rfl, rfl, hi, hmi, HA, hbW⟩ := hrel
    have hb := HB0.out.trans (hbW.mono HB0.out.size)
    obtain ⟨x2, xl⟩ := HK.out wr hbW
    by_cases h : i < n
    · have hd : decide ((i : Int) < (n : Int)) = true := decide_eq_true (by omega)
      obtain ⟨o, ho⟩ : ∃ o, ops[i]? = some o := ⟨_, List.getElem?_eq_getElem (by rw [HL.out]; exact h)⟩
      obtain ⟨g, off, aq, cq, rfl, hgl, hoc⟩ := (HC.out.below hb).ops.at (show (⟨q, b, ops⟩ : Circ).ops[i]? = some o from ho)
      have k0 := hoc.kind
      have k1 := hoc.gate
      have k2 := hoc.qs
      have k3 := hoc.bit
      have k4 := hoc.cond
      have k5 := hoc.whn
      have hi2 : (i : Int) < (n : Int) := by omega
      have HS := hide (hlv_succ ops i o ho)
      have c1 := hHalving o.gate wr
      unfold hvO at HS
      clear hoc ho
      obtain ⟨kind, gate, qs, bit, cond, whn⟩ := o
      simp only at k0 k1 k2 k3 k4 k5 HS c1
      generalize hvB (rw' gate) = hv at *
      by_cases hk : kind = 1
      · subst hk
        cases hv with
        | true =>
          have hw : IntKind.i64.wrap ((m : Int) + 1) = ((m + 1 : Nat) : Int) := by rw [wrapN _ (by omega) (by omega)]; omega
          have HS2 : Hid (m + 1 = hlvP (ops.take (i + 1))) := hide (by rw [HS.out, ← HA.out]; simp)
          clear HS
          go_wp2_with (first | (go_at_call 38; refine c1.mono ?_; rintro e w2 ⟨rfl, rfl⟩))
          go_roundw
          case rel => exact ⟨i + 1, m + 1, by go_num, by go_num, by omega, by omega, HS2, hbW⟩
          case measure => simp [Go.RowKit.intOf]; omega
        | false =>
          have HS2 : Hid (m = hlvP (ops.take (i + 1))) := hide (by rw [HS.out, ← HA.out]; simp)
          clear HS
          go_wp2_with (first | (go_at_call 38; refine c1.mono ?_; rintro e w2 ⟨rfl, rfl⟩))
          go_roundw
          case rel => exact ⟨i + 1, m, rfl, by go_num, by omega, by omega, HS2, hbW⟩
          case measure => simp [Go.RowKit.intOf]; omega
      · have e1 : (kind == 1) = false := by simpa using hk
        have HS2 : Hid (m = hlvP (ops.take (i + 1))) := hide (by rw [HS.out, ← HA.out]; simp [hk])
        clear HS
        go_wp2_with fail
        go_roundw
        case rel => exact ⟨i + 1, m, rfl, by go_num, by omega, by omega, HS2, hbW⟩
        case measure => simp [Go.RowKit.intOf]; omega
    · obtain rfl : n = i := by omega
      have hz : m = hlvP ops := by
        rw [HA.out, List.take_of_length_le (by rw [HL.out]; exact Nat.le_refl _)]
      subst hz
      go_wp2_with fail
      go_ret
      exact ⟨rfl, hb⟩
set_option maxRecDepth 100000 in
set_option maxHeartbeats 1000000 in
theorem eUnitary (c : Circ) (ao : Option Addr) (k : Nat) (w : World) (hC : Ci w c ao k) : Calls Tryz.prog 17 #[cV c ao k] w fun e w' => e = .returned (.bool (!c.ops.any unO)) ∧ Below w.heap.size w w' := by
  have HC := hide hC
  obtain ⟨n, hn⟩ : ∃ n, c.ops.length = n := ⟨_, rfl⟩
  have HL := hide hn
  have hlen := hC.len
  obtain ⟨q, b, ops⟩ := c
  unfold cV
  simp only at hn hlen HL ⊢
  rw [hn] at hlen ⊢
  obtain ⟨R, hR⟩ : ∃ R, (!ops.any unO) = R := ⟨_, rfl⟩
  rw [hR]
  have HR := hide hR
  clear hn hC hR
  have HK : Hid (∀ V, Below (w.alloc (.cells #[.int .i64 q, .int .i64 b, .slice ao n k] 24)).heap.size (w.alloc (.cells #[.int .i64 q, .int .i64 b, .slice ao n k] 24)) V → V.cell? ⟨w.heap.size, 2, none⟩ = some (.slice ao n k) ∧ w.heap.size < V.heap.size) := hide (fun V hV => by
    obtain ⟨_, _, a, b⟩ := def_cells ((hV.block w.heap.size (by simp)).trans (heap_alloc_new w (.cells #[.int .i64 q, .int .i64 b, .slice ao n k] 24)))
    exact ⟨a, b⟩)
  have HB0 := hide (bnew w (.cells #[.int .i64 q, .int .i64 b, .slice ao n k] 24))
  go_enter Tryz.func17, Tryz.ntmps17
  go_wp2_with fail
  generalize (w.alloc (.cells #[.int .i64 q, .int .i64 b, .slice ao n k] 24)) = WW at *
  go_loopw [3] (fun vi wr => ∃ i : Nat, vi = .int .i64 (i : Int) ∧ i ≤ n ∧ Hid ((ops.take i).any unO = false) ∧ Below WW.heap.size WW wr) (fun vi _ => n - (Go.RowKit.intOf vi).toNat)
  case atStart => exact ⟨0, rfl, Nat.zero_le _, hide rfl, Below.refl _ _⟩
  case round =>
    obtain ⟨i, rfl, hi, HA, hbW⟩ := hrel
    have hb := HB0.out.trans (hbW.mono HB0.out.size)
    obtain ⟨x2, xl⟩ := HK.out wr hbW
    by_cases h : i < n
    · have hd : decide ((i : Int) < (n : Int)) = true := decide_eq_true (by omega)
      obtain ⟨o, ho⟩ : ∃ o, ops[i]? = some o := ⟨_, List.getElem?_eq_getElem (by rw [HL.out]; exact h)⟩
      obtain ⟨g, off, aq, cq, rfl, hgl, hoc⟩ := (HC.out.below hb).ops.at (show (⟨q, b, ops⟩ : Circ).ops[i]? = some o from ho)
      have k0 := hoc.kind
      have k1 := hoc.gate
      have k2 := hoc.qs
      have k3 := hoc.bit
      have k4 := hoc.cond
      have k5 := hoc.whn
      have hi2 : (i : Int) < (n : Int) := by omega
      have HY : Hid (unO o = false → (ops.take (i + 1)).any unO = false) := hide (fun e => by
        rw [List.take_add_one, ho, List.any_append, HA.out]
        simp [e])
      have HN : Hid (unO o = true → R = false) := hide (fun e => by
        rw [← HR.out, Bool.not_eq_false', List.any_eq_true]
        exact ⟨o, List.mem_of_getElem? ho, e⟩)
      unfold unO at HY HN
      clear hoc ho
      obtain ⟨kind, gate, qs, bit, cond, whn⟩ := o
      simp only at k0 k1 k2 k3 k4 k5 HY HN
      by_cases h4 : kind = 4
      · subst h4
        have HY2 := hide (HY.out (by first | rfl | (simp; done) | (simp [*]; done)))
        clear HY HN
        go_wp2_with fail
        go_roundw
        case rel => exact ⟨i + 1, by go_num, by omega, HY2, hbW.trans ((bnew _ _).mono hbW.size)⟩
        case measure => simp [Go.RowKit.intOf]; omega
      · have e4 : (kind != 4) = true := by simpa using h4
        have e4' : (kind == 4) = false := by simpa using h4
        by_cases h1 : kind = 1
        · subst h1
          by_cases hc : cond = -1
          · subst hc
            have HY2 := hide (HY.out (by first | rfl | (simp; done) | (simp [*]; done)))
            clear HY HN
            go_wp2_with fail
            go_roundw
            case rel => exact ⟨i + 1, by go_num, by omega, HY2, hbW.trans ((bnew _ _).mono hbW.size)⟩
            case measure => simp [Go.RowKit.intOf]; omega
          · have ec : (cond != -1) = true := by simpa using hc
            have ec' : (cond == -1) = false := by simpa using hc
            have HN2 := hide (HN.out (by first | rfl | (simp; done) | (simp [*]; done)))
            clear HY HN
            go_wp2_with fail
            go_ret
            exact ⟨by rw [HN2.out]; rfl, HB0.out.trans ((hbW.trans ((bnew _ _).mono hbW.size)).mono HB0.out.size)⟩
        · have e1 : (kind != 1) = true := by simpa using h1
          have e1' : (kind == 1) = false := by simpa using h1
          have HN2 := hide (HN.out (by first | rfl | (simp; done) | (simp [*]; done)))
          clear HY HN
          go_wp2_with fail
          go_ret
          exact ⟨by rw [HN2.out]; rfl, HB0.out.trans ((hbW.trans ((bnew _ _).mono hbW.size)).mono HB0.out.size)⟩
    · obtain rfl : n = i := by omega
      have hz : R = true := by
        have := HA.out
        rw [List.take_of_length_le (by rw [HL.out]; exact Nat.le_refl _)] at this
        rw [← HR.out, this]
        rfl
      subst hz
      go_wp2_with fail
      go_ret
      exact ⟨rfl, hb⟩
set_option maxRecDepth 100000 in
set_option maxHeartbeats 1000000 in
theorem eClifford (c : Circ) (ao : Option Addr) (k : Nat) (w : World) (hC : Ci w c ao k) : Calls Tryz.prog 19 #[cV c ao k] w fun e w' => e = .returned (.bool (!c.ops.any clO)) ∧ Below w.heap.size w w' := by
  have HC := hide hC
  obtain ⟨n, hn⟩ : ∃ n, c.ops.length = n := ⟨_, rfl⟩
  have HL := hide hn
  have hlen := hC.len
  obtain ⟨q, b, ops⟩ := c
  unfold cV
  simp only at hn hlen HL ⊢
  rw [hn] at hlen ⊢
  obtain ⟨R, hR⟩ : ∃ R, (!ops.any clO) = R := ⟨_, rfl⟩
  rw [hR]
  have HR := hide hR
  clear hn hC hR
  have HK : Hid (∀ V, Below (w.alloc (.cells #[.int .i64 q, .int .i64 b, .slice ao n k] 24)).heap.size (w.alloc (.cells #[.int .i64 q, .int .i64 b, .slice ao n k] 24)) V → V.cell? ⟨w.heap.size, 2, none⟩ = some (.slice ao n k) ∧ w.heap.size < V.heap.size) := hide (fun V hV => by
    obtain ⟨_, _, a, b⟩ := def_cells ((hV.block w.heap.size (by simp)).trans (heap_alloc_new w (.cells #[.int .i64 q, .int .i64 b, .slice ao n k] 24)))
    exact ⟨a, b⟩)
  have HB0 := hide (bnew w (.cells #[.int .i64 q, .int .i64 b, .slice ao n k] 24))
  go_enter Tryz.func19, Tryz.ntmps19
  go_wp2_with fail
  generalize (w.alloc (.cells #[.int .i64 q, .int .i64 b, .slice ao n k] 24)) = WW at *
  go_loopw [3] (fun vi wr => ∃ i : Nat, vi = .int .i64 (i : Int) ∧ i ≤ n ∧ Hid ((ops.take i).any clO = false) ∧ Below WW.heap.size WW wr) (fun vi _ => n - (Go.RowKit.intOf vi).toNat)
  case atStart => exact ⟨0, rfl, Nat.zero_le _, hide rfl, Below.refl _ _⟩
  case round =>
    obtain ⟨i, rfl, hi, HA, hbW⟩ := hrel
    have hb := HB0.out.trans (hbW.mono HB0.out.size)
    obtain ⟨x2, xl⟩ := HK.out wr hbW
    by_cases h : i < n
    · have hd : decide ((i : Int) < (n : Int)) = true := decide_eq_true (by omega)
      obtain ⟨o, ho⟩ : ∃ o, ops[i]? = some o := ⟨_, List.getElem?_eq_getElem (by rw [HL.out]; exact h)⟩
      obtain ⟨g, off, aq, cq, rfl, hgl, hoc⟩ := (HC.out.below hb).ops.at (show (⟨q, b, ops⟩ : Circ).ops[i]? = some o from ho)
      have k0 := hoc.kind
      have k1 := hoc.gate
      have k2 := hoc.qs
      have k3 := hoc.bit
      have k4 := hoc.cond
      have k5 := hoc.whn
      have hi2 : (i : Int) < (n : Int) := by omega
      have HY : Hid (clO o = false → (ops.take (i + 1)).any clO = false) := hide (fun e => by
        rw [List.take_add_one, ho, List.any_append, HA.out]
        simp [e])
      have HN : Hid (clO o = true → R = false) := hide (fun e => by
        rw [← HR.out, Bool.not_eq_false', List.any_eq_true]
        exact ⟨o, List.mem_of_getElem? ho, e⟩)
      have c1 := hClifford o.gate wr
      unfold clO at HY HN
      clear hoc ho
      obtain ⟨kind, gate, qs, bit, cond, whn⟩ := o
      simp only at k0 k1 k2 k3 k4 k5 HY HN c1
      generalize clB (rw' gate) = cb at *
      by_cases hk : kind = 1
      · subst hk
        cases cb with
        | true =>
          have HY2 := hide (HY.out (by first | rfl | (simp; done) | (simp [*]; done)))
          clear HY HN
          go_wp2_with (first | (go_at_call 43; refine c1.mono ?_; rintro e w2 ⟨rfl, rfl⟩))
          go_roundw
          case rel => exact ⟨i + 1, by go_num, by omega, HY2, hbW⟩
          case measure => simp [Go.RowKit.intOf]; omega
        | false =>
          have HN2 := hide (HN.out (by first | rfl | (simp; done) | (simp [*]; done)))
          clear HY HN
          go_wp2_with (first | (go_at_call 43; refine c1.mono ?_; rintro e w2 ⟨rfl, rfl⟩))
          go_ret
          exact ⟨by rw [HN2.out]; rfl, HB0.out.trans ((hbW).mono HB0.out.size)⟩
      · have e1 : (kind == 1) = false := by simpa using hk
        have HY2 := hide (HY.out (by first | rfl | (simp; done) | (simp [*]; done)))
        clear HY HN
        go_wp2_with fail
        go_roundw
        case rel => exact ⟨i + 1, by go_num, by omega, HY2, hbW⟩
        case measure => simp [Go.RowKit.intOf]; omega
    · obtain rfl : n = i := by omega
      have hz : R = true := by
        have := HA.out
        rw [List.take_of_length_le (by rw [HL.out]; exact Nat.le_refl _)] at this
        rw [← HR.out, this]
        rfl
      subst hz
      go_wp2_with fail
      go_ret
      exact ⟨rfl, hb⟩
end Go.Proofs.YtkbodljmkhnebaaGreatDoor.Cir
/- The document's Counts. -/
namespace Go.Proofs.YtkbodljmkhnebaaGreatDoor.Cir
open Go.RowKit Go.Shelf Go.Proofs.YtkbodljmkhnebaaGreatDoor.Oct Go.Proofs.YtkbodljmkhnebaaGreatDoor.Tok Go.Proofs.YtkbodljmkhnebaaGreatDoor.Gt

set_option maxRecDepth 100000 in
set_option maxHeartbeats 2000000 in
theorem eCounts (c : Circ) (ao : Option Addr) (k : Nat) (w : World) (hC : Ci w c ao k) : Calls Tryz.prog 12 #[cV c ao k] w fun e w' => ∃ g, e = .returned (.slice (some ⟨g, 0, none⟩) 21 21) ∧ Rk w' g 3 21 (cntF c.ops) ∧ w.heap.size ≤ g ∧ Below w.heap.size w w' := by
  have HC := hide hC
  have hmk : ∀ W : World, (Instr.makeSlice 30 (.int .i64 21) (.int .i64 21)).run Tryz.prog W = .ok (.slice (some ⟨W.heap.size, 0, none⟩) 21 21) (W.alloc (.cells (madeCells #[.int .i64 0] 21) 3)) := fun W => make_in 21 (by omega) W
  obtain ⟨n, hn⟩ : ∃ n, c.ops.length = n := ⟨_, rfl⟩
  have HL := hide hn
  have hlen := hC.len
  obtain ⟨q, b, ops⟩ := c
  unfold cV
  simp only at hn hlen HL ⊢
  rw [hn] at hlen ⊢
  clear hn hC
  have HK : Hid (∀ V : World, V.heap[w.heap.size]? = some (.cells #[.int .i64 q, .int .i64 b, .slice ao n k] 24 (0, 0)) → V.cell? ⟨w.heap.size, 2, none⟩ = some (.slice ao n k) ∧ w.heap.size < V.heap.size) := hide (fun V hV => by
    obtain ⟨_, _, a, b⟩ := def_cells hV
    exact ⟨a, b⟩)
  go_enter Tryz.func12, Tryz.ntmps12
  go_wp2_with fail
  have hR0 := (rk_mk (w.alloc (.cells #[.int .i64 q, .int .i64 b, .slice ao n k] 24)) 21 3 (.int .i64 0)).congr (f' := cntF (ops.take 0)) (fun j _ => rfl)
  rw [World.size_alloc] at hR0
  have hbx : ((w.alloc (.cells #[.int .i64 q, .int .i64 b, .slice ao n k] 24)).alloc (.cells (madeCells #[.int .i64 0] 21) 3)).heap[w.heap.size]? = some (.cells #[.int .i64 q, .int .i64 b, .slice ao n k] 24 (0, 0)) := (Below.heap_alloc _ _ _ (by simp)).trans (heap_alloc_new _ _)
  have hw0 : Below w.heap.size w ((w.alloc (.cells #[.int .i64 q, .int .i64 b, .slice ao n k] 24)).alloc (.cells (madeCells #[.int .i64 0] 21) 3)) := (bnew _ _).trans ((bnew _ _).mono (by simp))
  have HR0 := hide hR0
  have HBX := hide hbx
  have HW0 := hide hw0
  clear hR0 hbx hw0
  go_loopw [4] (fun vi wr => ∃ i : Nat, vi = .int .i64 (i : Int) ∧ i ≤ n ∧ Rk wr (w.heap.size + 1) 3 21 (cntF (ops.take i)) ∧ wr.heap[w.heap.size]? = some (.cells #[.int .i64 q, .int .i64 b, .slice ao n k] 24 (0, 0)) ∧ Below w.heap.size w wr) (fun vi _ => n - (Go.RowKit.intOf vi).toNat)
  case atStart => exact ⟨0, rfl, Nat.zero_le _, HR0.out, HBX.out, HW0.out⟩
  case round =>
    obtain ⟨i, rfl, hi, hRk, hbx, hb⟩ := hrel
    obtain ⟨x2, xl⟩ := HK.out wr hbx
    by_cases h : i < n
    · have hd : decide ((i : Int) < (n : Int)) = true := decide_eq_true (by omega)
      obtain ⟨o, ho⟩ : ∃ o, ops[i]? = some o := ⟨_, List.getElem?_eq_getElem (by rw [HL.out]; exact h)⟩
      obtain ⟨g, off, aq, cq, rfl, hgl, hoc⟩ := (HC.out.below hb).ops.at (show (⟨q, b, ops⟩ : Circ).ops[i]? = some o from ho)
      have k0 := hoc.kind
      have k1 := hoc.gate
      have hi2 : (i : Int) < (n : Int) := by omega
      have HS := hide (fun j => cnt_succ ops i j o ho)
      have c2 := hIs o.gate wr
      have hlr := hRk.lt
      have HRK := hide hRk
      have HBX2 := hide hbx
      unfold cnO at HS
      clear hoc ho hRk hbx
      obtain ⟨kind, gate, qs, bit, cond, whn⟩ := o
      simp only at k0 k1 HS c2
      by_cases hk : kind = 1
      · subst hk
        by_cases hq : knB (rw' gate) = true
        · obtain ⟨m, rfl, hm⟩ := kn_range gate hq
          have hle := cnt_le ops i m
          have v0 : wr.cell? ⟨w.heap.size + 1, m, none⟩ = some (.int .i64 (cntL (ops.take i) m : Int)) := HRK.out.cell m hm
          have vf := HRK.out.frozen m
          have HSet : Hid (Rk (wr.setCell ⟨w.heap.size + 1, m, none⟩ (.int .i64 ((cntL (ops.take i) m + 1 : Nat) : Int))) (w.heap.size + 1) 3 21 (cntF (ops.take (i + 1)))) := hide ((HRK.out.set m _).congr fun j hj => by
            unfold cntF
            rw [HS.out j]
            by_cases e : j = m
            · subst e
              simp [hq]
            · rw [if_neg e, if_neg (by simp; intro _; omega)]
              simp)
          have hwr : IntKind.i64.wrap ((cntL (ops.take i) m : Int) + 1) = ((cntL (ops.take i) m + 1 : Nat) : Int) := by rw [wrapN _ (by omega) (by omega)]; omega
          have hm1 : (m : Int) < 21 := by omega
          generalize cntL (ops.take i) m = cm at *
          rw [hq] at c2
          clear hq HS
          go_wp2_with (first | (go_at_call 36; refine c2.mono ?_; rintro e w2 ⟨rfl, rfl⟩))
          go_roundw
          case rel => exact ⟨i + 1, by go_num, by omega, by simpa using HSet.out, (Below.heap_setCell _ _ _ _ (by simp)).trans HBX2.out, hb.setCell (p := ⟨w.heap.size + 1, m, none⟩) (by simp) _⟩
          case measure => simp [Go.RowKit.intOf]; omega
        · have hq' : knB (rw' gate) = false := by simpa using hq
          have HSame : Hid (∀ j, cntF (ops.take i) j = cntF (ops.take (i + 1)) j) := hide (fun j => by unfold cntF; rw [HS.out j]; simp [hq])
          rw [hq'] at c2
          clear hq hq' HS
          go_wp2_with (first | (go_at_call 36; refine c2.mono ?_; rintro e w2 ⟨rfl, rfl⟩))
          go_roundw
          case rel => exact ⟨i + 1, by go_num, by omega, HRK.out.congr (fun j _ => HSame.out j), HBX2.out, hb⟩
          case measure => simp [Go.RowKit.intOf]; omega
      · have e1 : (kind == 1) = false := by simpa using hk
        have HSame : Hid (∀ j, cntF (ops.take i) j = cntF (ops.take (i + 1)) j) := hide (fun j => by unfold cntF; rw [HS.out j]; simp [hk])
        clear HS
        go_wp2_with fail
        go_roundw
        case rel => exact ⟨i + 1, by go_num, by omega, HRK.out.congr (fun j _ => HSame.out j), HBX2.out, hb⟩
        case measure => simp [Go.RowKit.intOf]; omega
    · obtain rfl : n = i := by omega
      have hz : Rk wr (w.heap.size + 1) 3 21 (cntF ops) := by
        rw [List.take_of_length_le (by rw [HL.out]; exact Nat.le_refl _)] at hRk
        exact hRk
      have HZ := hide hz
      clear hz hRk
      go_wp2_with fail
      go_ret
      exact ⟨w.heap.size + 1, rfl, HZ.out, by omega, hb⟩
end Go.Proofs.YtkbodljmkhnebaaGreatDoor.Cir
