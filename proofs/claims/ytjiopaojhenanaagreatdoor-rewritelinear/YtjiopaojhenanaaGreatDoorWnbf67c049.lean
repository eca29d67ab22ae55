import Derived.Test.YtjiopaojhenanaaGreatDoorWn0e32bc97
namespace Go.Proofs.YtjiopaojhenanaaGreatDoor.Gt
end Go.Proofs.YtjiopaojhenanaaGreatDoor.Gt
namespace Go.Proofs.YtjiopaojhenanaaGreatDoor.Oct
end Go.Proofs.YtjiopaojhenanaaGreatDoor.Oct
namespace Go.Proofs.YtjiopaojhenanaaGreatDoor.Tok
end Go.Proofs.YtjiopaojhenanaaGreatDoor.Tok
set_option maxRecDepth 100000
set_option maxHeartbeats 1000000
namespace Go.Proofs.YtjiopaojhenanaaGreatDoor.Cir
open Go.RowKit Go.Shelf Go.Proofs.YtjiopaojhenanaaGreatDoor.Oct Go.Proofs.YtjiopaojhenanaaGreatDoor.Tok Go.Proofs.YtjiopaojhenanaaGreatDoor.Gt
structure Ci (w : World) (c : Circ) (ao : Option Addr) (k : Nat) : Prop where
  ops : OpsIn w ao c.ops
  room : c.ops.length <= k
  len : c.ops.length <= 1000000000000000
  qs : ∀ o ∈ c.ops, o.qs.length <= 1000000000000000
theorem Ci.below {w w' : World} {c : Circ} {ao : Option Addr} {k : Nat} (h : Ci w c ao k) (hb : Below w.heap.size w w') : Ci w' c ao k := ⟨h.ops.below hb, h.room, h.len, h.qs⟩
theorem cCheck (c : Circ) (ao : Option Addr) (k : Nat) (w : World) (hT : Tb w) (hC : Ci w c ao k) : Calls Tryz.prog 12 #[cV c ao k] w fun e w' => e = .returned (.tuple #[.int .i64 (chkC c).1, .int .i64 (chkC c).2]) /\ Below w.heap.size w w' := by
  have c1 := fun W => cCountsMay c.q c.b W
  obtain ⟨R, hR⟩ : ∃ R, chkC c = R := ⟨_, rfl⟩
  rw [hR]
  have hR' := hR
  unfold chkC at hR
  have HT := hide hT
  have HC := hide hC
  obtain ⟨n, hn⟩ : ∃ n, c.ops.length = n := ⟨_, rfl⟩
  have HL := hide hn
  have hlen := hC.len
  have HM := hide (fun V (h : Below w.heap.size w V) (o : COp) (ho : o ∈ c.ops) (aq : Option Addr) (cq : Nat) (hc : o.qs.length <= cq) (hn : Ns V aq o.qs) => cMayBe c ao k o aq cq (hC.qs o ho) hc V (hT.below h) hn)
  obtain ⟨q, b, ops⟩ := c
  simp only at c1 hR hn hlen HL
  unfold cV at *
  simp only at *
  rw [hn] at HM hlen hR ⊢
  clear hn hR' hT hC
  generalize cntP q b = cb at *
  cases cb with
  | false =>
    simp only [Bool.not_false, Bool.true_or, if_true] at hR
    subst hR
    go_enter Tryz.func12, Tryz.ntmps12
    go_wp2_with (first | (go_at_call 32; refine (c1 _).mono ?_; rintro e w1 ⟨rfl, rfl⟩))
    go_ret2
    exact ⟨rfl, bnew _ _⟩
  | true =>
  by_cases h4 : 4096 < n
  . rw [decide_eq_true h4] at hR
    simp only [Bool.not_true, Bool.false_or, if_true] at hR
    subst hR
    have d1 : decide ((n : Int) > 4096) = true := decide_eq_true (by omega)
    have d2 : decide ((4096 : Int) < (n : Int)) = true := decide_eq_true (by omega)
    go_enter Tryz.func12, Tryz.ntmps12
    go_wp2_with (first | (go_at_call 32; refine (c1 _).mono ?_; rintro e w1 ⟨rfl, rfl⟩))
    go_ret2
    exact ⟨rfl, bnew _ _⟩
  . rw [decide_eq_false h4] at hR
    simp only [Bool.not_true, Bool.false_or, Bool.false_eq_true, if_false] at hR
    have d1 : decide ((n : Int) > 4096) = false := decide_eq_false (by omega)
    have d2 : decide ((4096 : Int) < (n : Int)) = false := decide_eq_false (by omega)
    have HR := hide hR
    clear hR
    go_enter Tryz.func12, Tryz.ntmps12
    go_wp2_with (first | (go_at_call 32; refine (c1 _).mono ?_; rintro e w1 ⟨rfl, rfl⟩))
    go_loopw [21] (fun vi wr => ∃ i : Nat, vi = .int .i64 (i : Int) /\ i <= n /\ Hid (∀ x ∈ ops.take i, mayP q b x = true) /\ Below w.heap.size w wr /\ wr.heap[w.heap.size]? = some (.cells #[.int .i64 q, .int .i64 b, .slice ao n k] 24 (0, 0))) (fun vi _ => n - (Go.RowKit.intOf vi).toNat)
    case atStart => exact ⟨0, rfl, Nat.zero_le _, hide (fun x hx => by simp at hx), bnew _ _, heap_alloc_new _ _⟩
    case round =>
      obtain ⟨i, rfl, hi, HA, hb, hc0⟩ := hrel
      by_cases h : i < n
      . have hd : decide ((i : Int) < (n : Int)) = true := decide_eq_true (by omega)
        obtain ⟨o, ho⟩ : ∃ o, ops[i]? = some o := ⟨_, List.getElem?_eq_getElem (by rw [HL.out]; exact h)⟩
        have hom := List.mem_of_getElem? ho
        obtain ⟨g, off, aq, cq, rfl, hgl, hoc⟩ := (HC.out.below hb).ops.at (show (⟨q, b, ops⟩ : Circ).ops[i]? = some o from ho)
        have HMy := HM.out
        have k0 := hoc.kind
        have k1 := hoc.gate
        have k2 := hoc.qs
        have k3 := hoc.bit
        have k4 := hoc.cond
        have k5 := hoc.whn
        obtain ⟨p0, p1, p2, p3⟩ := def_cells hc0
        have HM2 := hide (HM.out (wr.alloc (.cells #[.int .i64 o.kind, .int .i64 o.gate, .slice aq o.qs.length cq, .int .i64 o.bit, .int .i64 o.cond, .int .i64 o.whn] 49)) (hb.trans ((bnew _ _).mono hb.size)) o hom aq cq hoc.room (hoc.ns.below (bnew _ _)))
        have HSt : Hid (mayP q b o = true -> ∀ x ∈ ops.take (i + 1), mayP q b x = true) := hide (fun e x hx => by
          rw [List.take_add_one, ho] at hx
          rcases List.mem_append.1 hx with hx | hx
          . exact HA.out x hx
          . simp at hx; rw [hx]; exact e)
        have HNo : Hid (mayP q b o = false -> R = ((i : Int), 80)) := hide (fun e => by
          rw [← HR.out, badI_some q b 0 ops i o HA.out ho e, Nat.zero_add])
        unfold opV at HM2
        clear HMy hoc hom ho HM
        generalize mayP q b o = mb at *
        obtain ⟨kind, gate, qs, bit, cond, whn⟩ := o
        simp only at *
        have hzr := hb.size
        cases mb with
        | false =>
          have HRR := hide (HNo.out rfl)
          clear HNo HSt
          go_wp2_with (first | (go_at_call 33; refine HM2.out.mono ?_; rintro e w2 ⟨rfl, hb2⟩))
          go_ret2
          exact ⟨by rw [HRR.out]; rfl, (hb.trans ((bnew _ _).mono hb.size)).trans (hb2.mono (by simp; omega))⟩
        | true =>
          have HA2 := hide (HSt.out rfl)
          clear HNo HSt
          go_wp2_with (first | (go_at_call 33; refine HM2.out.mono ?_; rintro e w2 ⟨rfl, hb2⟩))
          go_roundw
          case rel => exact ⟨i + 1, by go_num, by omega, HA2, (hb.trans ((bnew _ _).mono hb.size)).trans (hb2.mono (by simp; omega)), (hb2.block _ (by simp; omega)).trans ((Below.heap_alloc _ _ _ p3).trans hc0)⟩
          case measure => simp [Go.RowKit.intOf]; omega
      . obtain rfl : n = i := by omega
        have hz : R = (0, 0) := by
          have hA := HA.out
          rw [List.take_of_length_le (by rw [HL.out]; exact Nat.le_refl _)] at hA
          rw [← HR.out, badI_none q b 0 ops hA]
        subst hz
        go_wp2_with fail
        go_ret2
        exact ⟨rfl, hb⟩
theorem eq_of_take {α : Type} {l m : List α} (hl : l.length = m.length) (h : l.take l.length = m.take l.length) : l = m := by
  rw [List.take_of_length_le (Nat.le_refl _), List.take_of_length_le (by omega)] at h
  exact h
theorem take_eq_succ {α : Type} {l m : List α} {i : Nat} {x : α} (h : l.take i = m.take i) (hl : l[i]? = some x) (hm : m[i]? = some x) : l.take (i + 1) = m.take (i + 1) := by
  rw [List.take_add_one, List.take_add_one, h, hl, hm]
end Go.Proofs.YtjiopaojhenanaaGreatDoor.Cir
