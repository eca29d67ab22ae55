import Derived.Test.YtbdphifecjigmaaGreatDoorRn6202cd74
namespace Go.Proofs.YtbdphifecjigmaaGreatDoor.Gt
end Go.Proofs.YtbdphifecjigmaaGreatDoor.Gt
namespace Go.Proofs.YtbdphifecjigmaaGreatDoor.Oct
end Go.Proofs.YtbdphifecjigmaaGreatDoor.Oct
namespace Go.Proofs.YtbdphifecjigmaaGreatDoor.Tok
end Go.Proofs.YtbdphifecjigmaaGreatDoor.Tok
set_option maxRecDepth 100000
set_option maxHeartbeats 4000000
namespace Go.Proofs.YtbdphifecjigmaaGreatDoor.Cir
open Go.RowKit Go.Shelf Go.Proofs.YtbdphifecjigmaaGreatDoor.Oct Go.Proofs.YtbdphifecjigmaaGreatDoor.Tok Go.Proofs.YtbdphifecjigmaaGreatDoor.Gt
theorem eCheck (c : Circ) (ao : Option Addr) (k : Nat) (w : World) (hC : Ci w c ao k) : Calls Tryz.prog 29 #[cV c ao k] w fun e w' => e = .returned (.tuple #[.int .i64 (chkC c).1, .int .i64 (chkC c).2]) /\ Below w.heap.size w w' := by
  obtain ⟨R, hR⟩ : ∃ R, chkC c = R := ⟨_, rfl⟩
  rw [hR]
  unfold chkC cntP wiP at hR
  have HC := hide hC
  obtain ⟨n, hn⟩ : ∃ n, c.ops.length = n := ⟨_, rfl⟩
  have HL := hide hn
  have hlen := hC.len
  have HM := hide (fun V (o : COp) (ho : o ∈ c.ops) (aq : Option Addr) (cq : Nat) (hn : Ns V aq o.qs) => eOp o aq cq c.q c.b (hC.qs o ho) V hn)
  obtain ⟨q, b, ops⟩ := c
  simp only at hR hn hlen HL HM
  unfold cV
  simp only
  rw [hn] at hlen hR ⊢
  clear hn hC
  by_cases q0 : q < 0
  . have HR0 : Hid (((-1 : Int), (80 : Int)) = R) := hide (by rw [← hR]; simp; try omega)
    have q0b0 : decide (q < 0) = true := decide_eq_true (by omega)
    have q0b1 : decide (0 > q) = true := decide_eq_true (by omega)
    clear hR
    go_enter Tryz.func29, Tryz.ntmps29
    go_wp2_with fail
    go_ret2
    exact ⟨by rw [← HR0.out]; rfl, bnew _ _⟩
  have q0b0 : decide (q < 0) = false := decide_eq_false (by omega)
  have q0b1 : decide (0 > q) = false := decide_eq_false (by omega)
  by_cases q1 : 64 < q
  . have HR0 : Hid (((-1 : Int), (80 : Int)) = R) := hide (by rw [← hR]; simp; try omega)
    have q1b0 : decide (q > 64) = true := decide_eq_true (by omega)
    have q1b1 : decide (64 < q) = true := decide_eq_true (by omega)
    clear hR
    go_enter Tryz.func29, Tryz.ntmps29
    go_wp2_with fail
    go_ret2
    exact ⟨by rw [← HR0.out]; rfl, bnew _ _⟩
  have q1b0 : decide (q > 64) = false := decide_eq_false (by omega)
  have q1b1 : decide (64 < q) = false := decide_eq_false (by omega)
  by_cases b0 : b < 0
  . have HR0 : Hid (((-1 : Int), (80 : Int)) = R) := hide (by rw [← hR]; simp; try omega)
    have b0b0 : decide (b < 0) = true := decide_eq_true (by omega)
    have b0b1 : decide (0 > b) = true := decide_eq_true (by omega)
    clear hR
    go_enter Tryz.func29, Tryz.ntmps29
    go_wp2_with fail
    go_ret2
    exact ⟨by rw [← HR0.out]; rfl, bnew _ _⟩
  have b0b0 : decide (b < 0) = false := decide_eq_false (by omega)
  have b0b1 : decide (0 > b) = false := decide_eq_false (by omega)
  by_cases b1 : 64 < b
  . have HR0 : Hid (((-1 : Int), (80 : Int)) = R) := hide (by rw [← hR]; simp; try omega)
    have b1b0 : decide (b > 64) = true := decide_eq_true (by omega)
    have b1b1 : decide (64 < b) = true := decide_eq_true (by omega)
    clear hR
    go_enter Tryz.func29, Tryz.ntmps29
    go_wp2_with fail
    go_ret2
    exact ⟨by rw [← HR0.out]; rfl, bnew _ _⟩
  have b1b0 : decide (b > 64) = false := decide_eq_false (by omega)
  have b1b1 : decide (64 < b) = false := decide_eq_false (by omega)
  by_cases n1 : 4096 < n
  . have HR0 : Hid (((-1 : Int), (80 : Int)) = R) := hide (by rw [← hR]; simp; try omega)
    have n1b0 : decide ((n : Int) > 4096) = true := decide_eq_true (by omega)
    have n1b1 : decide ((4096 : Int) < (n : Int)) = true := decide_eq_true (by omega)
    have n1b2 : decide (4096 < n) = true := decide_eq_true (by omega)
    clear hR
    go_enter Tryz.func29, Tryz.ntmps29
    go_wp2_with fail
    go_ret2
    exact ⟨by rw [← HR0.out]; rfl, bnew _ _⟩
  have n1b0 : decide ((n : Int) > 4096) = false := decide_eq_false (by omega)
  have n1b1 : decide ((4096 : Int) < (n : Int)) = false := decide_eq_false (by omega)
  have n1b2 : decide (4096 < n) = false := decide_eq_false (by omega)
  have HR : Hid ((match badI q b 0 ops with | some i => ((i : Int), (80 : Int)) | none => (0, 0)) = R) := hide (by
    rw [← hR, if_neg (by simp only [Bool.or_eq_true, Bool.not_eq_true', Bool.and_eq_false_iff, decide_eq_true_eq, decide_eq_false_iff_not]; omega)]
    cases badI q b 0 ops <;> rfl)
  clear hR
  have HK : Hid (∀ V, Below (w.alloc (.cells #[.int .i64 q, .int .i64 b, .slice ao n k] 24)).heap.size (w.alloc (.cells #[.int .i64 q, .int .i64 b, .slice ao n k] 24)) V -> V.cell? ⟨w.heap.size, 0, none⟩ = some (.int .i64 q) /\ V.cell? ⟨w.heap.size, 1, none⟩ = some (.int .i64 b) /\ V.cell? ⟨w.heap.size, 2, none⟩ = some (.slice ao n k) /\ w.heap.size < V.heap.size) := hide (fun V hV => def_cells ((hV.block w.heap.size (by simp)).trans (heap_alloc_new w _)))
  have HB0 := hide (bnew w (.cells #[.int .i64 q, .int .i64 b, .slice ao n k] 24))
  go_enter Tryz.func29, Tryz.ntmps29
  go_wp2_with fail
  generalize hWW : (w.alloc (.cells #[.int .i64 q, .int .i64 b, .slice ao n k] 24)) = WW at *
  clear hWW q0 q1 b0 b1
  go_loopw [4] (fun vi wr => ∃ i : Nat, vi = .int .i64 (i : Int) /\ i <= n /\ Hid (∀ x ∈ ops.take i, mayP q b x = true) /\ Below WW.heap.size WW wr) (fun vi _ => n - (Go.RowKit.intOf vi).toNat)
  case atStart => exact ⟨0, rfl, Nat.zero_le _, hide (fun x hx => by simp at hx), Below.refl _ _⟩
  case round =>
    obtain ⟨i, rfl, hi, HA, hbW⟩ := hrel
    have hb := HB0.out.trans (hbW.mono HB0.out.size)
    obtain ⟨x0, x1, x2, xl⟩ := HK.out wr hbW
    by_cases h : i < n
    . have hd : decide ((i : Int) < (n : Int)) = true := decide_eq_true (by omega)
      obtain ⟨o, ho⟩ : ∃ o, ops[i]? = some o := ⟨_, List.getElem?_eq_getElem (by rw [HL.out]; exact h)⟩
      have hom := List.mem_of_getElem? ho
      obtain ⟨g, off, aq, cq, rfl, hgl, hoc⟩ := (HC.out.below hb).ops.at (show (⟨q, b, ops⟩ : Circ).ops[i]? = some o from ho)
      have HCo := hide (fun V (h : Below wr.heap.size wr V) => HM.out V o hom aq cq (hoc.ns.below h))
      have HO1 := hide hoc
      have HSt : Hid (mayP q b o = true -> ∀ x ∈ ops.take (i + 1), mayP q b x = true) := hide (fun e x hx => by
        rw [List.take_add_one, ho] at hx
        rcases List.mem_append.1 hx with hx | hx
        . exact HA.out x hx
        . simp at hx; rw [hx]; exact e)
      have HNo : Hid (mayP q b o = false -> R = ((i : Int), 80)) := hide (fun e => by
        rw [← HR.out, badI_some q b 0 ops i o HA.out ho e, Nat.zero_add])
      have HXY : Hid (∀ V, Below wr.heap.size wr V -> (V.cell? ⟨w.heap.size, 0, none⟩ = some (.int .i64 q) /\ V.cell? ⟨w.heap.size, 1, none⟩ = some (.int .i64 b) /\ V.cell? ⟨w.heap.size, 2, none⟩ = some (.slice (some ⟨g, off, none⟩) n k) /\ w.heap.size < V.heap.size) /\ g < V.heap.size /\ (V.cell? ⟨g, off + i * 6, none⟩ = some (.int .i64 o.kind) /\ V.cell? ⟨g, off + i * 6 + 1, none⟩ = some (.int .i64 o.gate) /\ V.cell? ⟨g, off + i * 6 + 2, none⟩ = some (.slice aq o.qs.length cq) /\ V.cell? ⟨g, off + i * 6 + 3, none⟩ = some (.int .i64 o.bit) /\ V.cell? ⟨g, off + i * 6 + 4, none⟩ = some (.int .i64 o.cond) /\ V.cell? ⟨g, off + i * 6 + 5, none⟩ = some (.int .i64 o.whn))) := hide (fun V hV => by
        have a1 := HO1.out.below hV
        exact ⟨HK.out V (hbW.trans (hV.mono hbW.size)), Nat.lt_of_lt_of_le hgl hV.size, ⟨a1.kind, a1.gate, a1.qs, a1.bit, a1.cond, a1.whn⟩⟩)
      clear hoc ho hom HO1
      unfold opV at HCo
      generalize mayP q b o = mb at *
      have hi1 : (0 : Int) <= (i : Int) := by omega
      have hi2 : (i : Int) < (n : Int) := by omega
      obtain ⟨kk1, g1, q1', b1', i1, n1'⟩ := o
      simp only at *
      generalize q1'.length = ql1 at *
      go_wp2_with fail
      clear x0 x1 x2
      refine wp_region_quiet (C := fun W => Below wr.heap.size wr W) (by kernel_rfl) (by kernel_rfl) (below_drewN (Below.refl _ _) 1) ?_
      repeat
        refine wpQuiet_step (fun K hK => ?_)
        go_simp
        first
          | (refine hK _ ?_; clear hK K)
          | (apply Exists.intro
             refine ⟨fun W hW => ?_, hK _ ?_⟩
             first
               | ((with_reducible refine Calls.mono (HCo.out _ hW) ?_); rintro e x ⟨rfl, q⟩; exact ⟨rfl, hW.trans (q.mono hW.size)⟩)
               | (obtain ⟨⟨v0, v1, v2, v2'⟩, v3, ⟨r0, r1, r2, r3, r4, r5⟩⟩ := HXY.out W hW; go_simp; rfl)
             clear hK K)
      refine wpQuiet_nil ?_
      intro W hW
      have hbF := hbW.trans (hW.mono hbW.size)
      obtain ⟨⟨v0, v1, v2, v2'⟩, -⟩ := HXY.out W hW
      clear HXY
      cases mb with
      | true =>
        have HY2 := hide (HSt.out rfl)
        clear HSt HNo
        go_wp2_with fail
        go_roundw
        case rel => exact ⟨i + 1, by go_num, by omega, HY2, hbF⟩
        case measure => simp [Go.RowKit.intOf]; omega
      | false =>
        have HN2 := hide (HNo.out rfl)
        clear HSt HNo
        go_wp2_with fail
        go_ret2
        exact ⟨by rw [HN2.out]; rfl, HB0.out.trans (hbF.mono HB0.out.size)⟩
    . obtain rfl : n = i := by omega
      have hz : R = (0, 0) := by
        have hA := HA.out
        rw [List.take_of_length_le (by rw [HL.out]; exact Nat.le_refl _)] at hA
        rw [← HR.out, badI_none q b 0 ops hA]
      subst hz
      go_wp2_with fail
      go_ret2
      exact ⟨rfl, hb⟩
theorem eMay (c : Circ) (ao : Option Addr) (k : Nat) (w : World) (hC : Ci w c ao k) : Calls Tryz.prog 13 #[cV c ao k] w fun e w' => e = .returned (.bool ((chkC c).2 == 0)) /\ Below w.heap.size w w' := by
  have c1 := fun V (h : Below w.heap.size w V) => eCheck c ao k V (hC.below h)
  obtain ⟨q, b, ops⟩ := c
  unfold cV at *
  simp only at *
  generalize (chkC ⟨q, b, ops⟩).1 = z1 at *
  generalize (chkC ⟨q, b, ops⟩).2 = z2 at *
  generalize ops.length = n at *
  clear hC
  go_enter Tryz.func13, Tryz.ntmps13
  go_wp2_with (first | (go_at_call 29; refine (c1 _ (bnew _ _)).mono ?_; rintro e w1 ⟨rfl, hb1⟩))
  go_ret
  exact ⟨rfl, (bnew _ _).trans (hb1.mono (by simp))⟩
end Go.Proofs.YtbdphifecjigmaaGreatDoor.Cir
