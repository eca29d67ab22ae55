import Derived.Test.YtoickolhekhgmaaGreatDoorEn1a983509
import Derived.Deep.RegionHeld3
import Derived.Lib.AppendIntMem
import Derived.Lib.ItoaLen
namespace Go.Proofs.YtoickolhekhgmaaGreatDoor.Gt
end Go.Proofs.YtoickolhekhgmaaGreatDoor.Gt
namespace Go.Proofs.YtoickolhekhgmaaGreatDoor.Oct
end Go.Proofs.YtoickolhekhgmaaGreatDoor.Oct
namespace Go.Proofs.YtoickolhekhgmaaGreatDoor.Tok
end Go.Proofs.YtoickolhekhgmaaGreatDoor.Tok
set_option maxRecDepth 100000
set_option maxHeartbeats 1000000
namespace Go.Proofs.YtoickolhekhgmaaGreatDoor.Cir
open Go.RowKit Go.Shelf Go.Proofs.YtoickolhekhgmaaGreatDoor.Oct Go.Proofs.YtoickolhekhgmaaGreatDoor.Tok Go.Proofs.YtoickolhekhgmaaGreatDoor.Gt
structure Ci (w : World) (c : Circ) (ao : Option Addr) (k : Nat) : Prop where
  ops : OpsIn w ao c.ops
  room : c.ops.length <= k
  len : c.ops.length <= 1000000000000000
  qs : ∀ o ∈ c.ops, o.qs.length <= 1000000000000000
theorem Ci.below {w w' : World} {c : Circ} {ao : Option Addr} {k : Nat} (h : Ci w c ao k) (hb : Below w.heap.size w w') : Ci w' c ao k := ⟨h.ops.below hb, h.room, h.len, h.qs⟩
theorem cCheck (c : Circ) (ao : Option Addr) (k : Nat) (w : World) (hT : Tb w) (hC : Ci w c ao k) : Calls Tryz.prog 30 #[cV c ao k] w fun e w' => e = .returned (.tuple #[.int .i64 (chkC c).1, .int .i64 (chkC c).2]) /\ Below w.heap.size w w' := by
  have c1 := fun W => cCountsMay c.q c.b W
  obtain ⟨R, hR⟩ : ∃ R, chkC c = R := ⟨_, rfl⟩
  rw [hR]
  have hR' := hR
  unfold chkC at hR
  have HT := hide hT
  have HC := hide hC
  obtain ⟨n, hn⟩ : ∃ n, c.ops.length = n := ⟨_, rfl⟩
  have HL := hide hn
  have hlen := hC.len
  have HM := hide (fun V (h : Below w.heap.size w V) (o : COp) (ho : o ∈ c.ops) (aq : Option Addr) (cq : Nat) (hc : o.qs.length <= cq) (hn : Ns V aq o.qs) => cMayBe c ao k o aq cq (hC.qs o ho) hc V (hT.below h) hn)
  obtain ⟨q, b, ops⟩ := c
  simp only at c1 hR hn hlen HL
  unfold cV at *
  simp only at *
  rw [hn] at HM hlen hR ⊢
  clear hn hR' hT hC
  generalize cntP q b = cb at *
  cases cb with
  | false =>
    simp only [Bool.not_false, Bool.true_or, if_true] at hR
    subst hR
    go_enter Tryz.func30, Tryz.ntmps30
    go_wp2_with (first | (go_at_call 62; refine (c1 _).mono ?_; rintro e w1 ⟨rfl, rfl⟩))
    go_ret2
    exact ⟨rfl, bnew _ _⟩
  | true =>
  by_cases h4 : 4096 < n
  . rw [decide_eq_true h4] at hR
    simp only [Bool.not_true, Bool.false_or, if_true] at hR
    subst hR
    have d1 : decide ((n : Int) > 4096) = true := decide_eq_true (by omega)
    have d2 : decide ((4096 : Int) < (n : Int)) = true := decide_eq_true (by omega)
    go_enter Tryz.func30, Tryz.ntmps30
    go_wp2_with (first | (go_at_call 62; refine (c1 _).mono ?_; rintro e w1 ⟨rfl, rfl⟩))
    go_ret2
    exact ⟨rfl, bnew _ _⟩
  . rw [decide_eq_false h4] at hR
    simp only [Bool.not_true, Bool.false_or, Bool.false_eq_true, if_false] at hR
    have d1 : decide ((n : Int) > 4096) = false := decide_eq_false (by omega)
    have d2 : decide ((4096 : Int) < (n : Int)) = false := decide_eq_false (by omega)
    have HR := hide hR
    clear hR
    go_enter Tryz.func30, Tryz.ntmps30
    go_wp2_with (first | (go_at_call 62; refine (c1 _).mono ?_; rintro e w1 ⟨rfl, rfl⟩))
    go_loopw [21] (fun vi wr => ∃ i : Nat, vi = .int .i64 (i : Int) /\ i <= n /\ Hid (∀ x ∈ ops.take i, mayP q b x = true) /\ Below w.heap.size w wr /\ wr.heap[w.heap.size]? = some (.cells #[.int .i64 q, .int .i64 b, .slice ao n k] 24 (0, 0))) (fun vi _ => n - (Go.RowKit.intOf vi).toNat)
    case atStart => exact ⟨0, rfl, Nat.zero_le _, hide (fun x hx => by simp at hx), bnew _ _, heap_alloc_new _ _⟩
    case round =>
      obtain ⟨i, rfl, hi, HA, hb, hc0⟩ := hrel
      by_cases h : i < n
      . have hd : decide ((i : Int) < (n : Int)) = true := decide_eq_true (by omega)
        obtain ⟨o, ho⟩ : ∃ o, ops[i]? = some o := ⟨_, List.getElem?_eq_getElem (by rw [HL.out]; exact h)⟩
        have hom := List.mem_of_getElem? ho
        obtain ⟨g, off, aq, cq, rfl, hgl, hoc⟩ := (HC.out.below hb).ops.at (show (⟨q, b, ops⟩ : Circ).ops[i]? = some o from ho)
        have HMy := HM.out
        have k0 := hoc.kind
        have k1 := hoc.gate
        have k2 := hoc.qs
        have k3 := hoc.bit
        have k4 := hoc.cond
        have k5 := hoc.whn
        obtain ⟨p0, p1, p2, p3⟩ := def_cells hc0
        have HM2 := hide (HM.out (wr.alloc (.cells #[.int .i64 o.kind, .int .i64 o.gate, .slice aq o.qs.length cq, .int .i64 o.bit, .int .i64 o.cond, .int .i64 o.whn] 48)) (hb.trans ((bnew _ _).mono hb.size)) o hom aq cq hoc.room (hoc.ns.below (bnew _ _)))
        have HSt : Hid (mayP q b o = true -> ∀ x ∈ ops.take (i + 1), mayP q b x = true) := hide (fun e x hx => by
          rw [List.take_add_one, ho] at hx
          rcases List.mem_append.1 hx with hx | hx
          . exact HA.out x hx
          . simp at hx; rw [hx]; exact e)
        have HNo : Hid (mayP q b o = false -> R = ((i : Int), 80)) := hide (fun e => by
          rw [← HR.out, badI_some q b 0 ops i o HA.out ho e, Nat.zero_add])
        unfold opV at HM2
        clear HMy hoc hom ho HM
        generalize mayP q b o = mb at *
        obtain ⟨kind, gate, qs, bit, cond, whn⟩ := o
        simp only at *
        have hzr := hb.size
        cases mb with
        | false =>
          have HRR := hide (HNo.out rfl)
          clear HNo HSt
          go_wp2_with (first | (go_at_call 63; refine HM2.out.mono ?_; rintro e w2 ⟨rfl, hb2⟩))
          go_ret2
          exact ⟨by rw [HRR.out]; rfl, (hb.trans ((bnew _ _).mono hb.size)).trans (hb2.mono (by simp; omega))⟩
        | true =>
          have HA2 := hide (HSt.out rfl)
          clear HNo HSt
          go_wp2_with (first | (go_at_call 63; refine HM2.out.mono ?_; rintro e w2 ⟨rfl, hb2⟩))
          go_roundw
          case rel => exact ⟨i + 1, by go_num, by omega, HA2, (hb.trans ((bnew _ _).mono hb.size)).trans (hb2.mono (by simp; omega)), (hb2.block _ (by simp; omega)).trans ((Below.heap_alloc _ _ _ p3).trans hc0)⟩
          case measure => simp [Go.RowKit.intOf]; omega
      . obtain rfl : n = i := by omega
        have hz : R = (0, 0) := by
          have hA := HA.out
          rw [List.take_of_length_le (by rw [HL.out]; exact Nat.le_refl _)] at hA
          rw [← HR.out, badI_none q b 0 ops hA]
        subst hz
        go_wp2_with fail
        go_ret2
        exact ⟨rfl, hb⟩
theorem cIndexF (f : Nat) (he : ∀ args w, (callFunc f args).run Tryz.prog w = .ok (.enter f args) w) (P : COp -> Bool) (ops : List COp) (ao : Option Addr) (k : Nat) (hn : ops.length <= 1000000000000000) (w : World) (hO : OpsIn w ao ops)
    (hf : ∀ V, Below w.heap.size w V -> ∀ o aq cq, Calls Tryz.prog f #[opV o aq cq] V fun e w' => e = .returned (.bool (P o)) /\ Below V.heap.size V w') :
    Calls Tryz.prog 102 #[.slice ao ops.length k, .func (.func f) #[] #[]] w fun e w' => (∃ r : Int, e = .returned (.int .i64 r) /\ decide (0 <= r) = ops.any P) /\ Below w.heap.size w w' := by
  have HO := hide hO
  obtain ⟨n, hn'⟩ : ∃ n, ops.length = n := ⟨_, rfl⟩
  have HL := hide hn'
  rw [hn'] at hn ⊢
  clear hn' hO
  go_enter Tryz.func102, Tryz.ntmps102
  go_wp2_with fail
  go_loopw [5, 8] (fun _ vi wr => ∃ i : Nat, vi = .int .i64 (i : Int) /\ i <= n /\ Hid ((ops.take i).any P = false) /\ Below w.heap.size w wr) (fun _ vi _ => n - (Go.RowKit.intOf vi).toNat)
  case atStart => exact ⟨0, rfl, Nat.zero_le _, hide rfl, Below.refl _ _⟩
  case round =>
    obtain ⟨i, rfl, hi, HA, hb⟩ := hrel
    by_cases h : i < n
    . have hd : decide ((i : Int) < (n : Int)) = true := decide_eq_true (by omega)
      obtain ⟨o, ho⟩ : ∃ o, ops[i]? = some o := ⟨_, List.getElem?_eq_getElem (by rw [HL.out]; exact h)⟩
      obtain ⟨g, off, aq, cq, rfl, hgl, hoc⟩ := (HO.out.below hb).at ho
      have k0 := hoc.kind
      have k1 := hoc.gate
      have k2 := hoc.qs
      have k3 := hoc.bit
      have k4 := hoc.cond
      have k5 := hoc.whn
      have c1 := hf wr hb o aq cq
      have HS : Hid (P o = false -> (ops.take (i + 1)).any P = false) := hide (fun e => by
        rw [List.take_add_one, ho, List.any_append, HA.out]
        simp [e])
      have HY : Hid (P o = true -> ops.any P = true) := hide (fun e => List.any_eq_true.2 ⟨o, List.mem_of_getElem? ho, e⟩)
      unfold opV at c1
      generalize P o = po at *
      clear hoc ho
      obtain ⟨kind, gate, qs, bit, cond, whn⟩ := o
      simp only at k0 k1 k2 k3 k4 k5 c1
      cases po with
      | true =>
        have HY2 := hide (HY.out rfl)
        clear HS HY
        go_wp2_with fail
        refine c1.mono ?_
        rintro e w2 ⟨rfl, hb2⟩
        go_wp2_with fail
        go_ret
        refine ⟨⟨(i : Int), rfl, ?_⟩, hb.trans (hb2.mono hb.size)⟩
        rw [HY2.out]
        exact decide_eq_true (by omega)
      | false =>
        have HS2 := hide (HS.out rfl)
        clear HS HY
        go_wp2_with fail
        refine c1.mono ?_
        rintro e w2 ⟨rfl, hb2⟩
        go_wp2_with fail
        go_roundw
        case rel => exact ⟨i + 1, by go_num, by omega, HS2, hb.trans (hb2.mono hb.size)⟩
        case measure => simp [Go.RowKit.intOf]; omega
    . obtain rfl : n = i := by omega
      have hz := HA.out
      rw [List.take_of_length_le (by rw [HL.out]; exact Nat.le_refl _)] at hz
      have HZ := hide hz
      clear hz HA
      go_wp2_with fail
      go_ret
      exact ⟨⟨-1, rfl, by rw [HZ.out]; rfl⟩, hb⟩
theorem cContainsF (f : Nat) (he : ∀ args w, (callFunc f args).run Tryz.prog w = .ok (.enter f args) w) (P : COp -> Bool) (ops : List COp) (ao : Option Addr) (k : Nat) (hn : ops.length <= 1000000000000000) (w : World) (hO : OpsIn w ao ops)
    (hf : ∀ V, Below w.heap.size w V -> ∀ o aq cq, Calls Tryz.prog f #[opV o aq cq] V fun e w' => e = .returned (.bool (P o)) /\ Below V.heap.size V w') :
    Calls Tryz.prog 64 #[.slice ao ops.length k, .func (.func f) #[] #[]] w fun e w' => e = .returned (.bool (ops.any P)) /\ Below w.heap.size w w' := by
  have c1 := cIndexF f he P ops ao k hn w hO hf
  generalize ops.any P = R at *
  generalize ops.length = n at *
  clear hf hO he
  go_enter Tryz.func64, Tryz.ntmps64
  go_wp2_with (first | (go_at_call 102; refine c1.mono ?_; rintro e w2 ⟨⟨r, rfl, hr⟩, hb2⟩))
  go_ret
  exact ⟨by rw [← hr]; rfl, hb2⟩
def unO (o : COp) : Bool := decide (o.kind ≠ 4) && (decide (o.kind ≠ 1) || decide (o.cond ≠ -1))
theorem cUnitary1 (o : COp) (aq : Option Addr) (cq : Nat) (w : World) : Calls Tryz.prog 65 #[opV o aq cq] w fun e w' => e = .returned (.bool (unO o)) /\ Below w.heap.size w w' := by
  obtain ⟨kind, gate, qs, bit, cond, whn⟩ := o
  unfold opV unO
  simp only
  by_cases h4 : kind = 4
  . subst h4
    go_enter Tryz.func65, Tryz.ntmps65
    go_wp2_with fail
    go_ret
    exact ⟨by simp, bnew _ _⟩
  . have e4 : (kind == 4) = false := by simpa using h4
    have e4' : (kind != 4) = true := by simpa using h4
    by_cases h1 : kind = 1
    . subst h1
      by_cases hc : cond = -1
      . subst hc
        go_enter Tryz.func65, Tryz.ntmps65
        go_wp2_with fail
        go_ret
        exact ⟨by simp, bnew _ _⟩
      . have ec : (cond == -1) = false := by simpa using hc
        have ec' : (cond != -1) = true := by simpa using hc
        go_enter Tryz.func65, Tryz.ntmps65
        go_wp2_with fail
        go_ret
        exact ⟨by simp [hc], bnew _ _⟩
    . have e1 : (kind == 1) = false := by simpa using h1
      have e1' : (kind != 1) = true := by simpa using h1
      go_enter Tryz.func65, Tryz.ntmps65
      go_wp2_with fail
      go_ret
      exact ⟨by simp [h1, h4], bnew _ _⟩
theorem eUni1 : ∀ args w, (callFunc 65 args).run Tryz.prog w = .ok (.enter 65 args) w := enters_of Tryz.func65 (by kernel_rfl) rfl
theorem cUnitary (c : Circ) (ao : Option Addr) (k : Nat) (w : World) (hC : Ci w c ao k) : Calls Tryz.prog 31 #[cV c ao k] w fun e w' => e = .returned (.bool (!c.ops.any unO)) /\ Below w.heap.size w w' := by
  have c1 := fun V (h : Below w.heap.size w V) => cContainsF 65 eUni1 unO c.ops ao k hC.len V (hC.ops.below h) (fun V _ o aq cq => cUnitary1 o aq cq V)
  obtain ⟨q, b, ops⟩ := c
  unfold cV
  simp only at c1 ⊢
  generalize ops.any unO = R at *
  generalize ops.length = n at *
  clear hC
  go_enter Tryz.func31, Tryz.ntmps31
  go_wp2_with (first | (go_at_call 64; refine (c1 _ (bnew _ _)).mono ?_; rintro e w2 ⟨rfl, hb2⟩))
  go_ret
  exact ⟨rfl, (bnew _ _).trans (hb2.mono (by simp))⟩
def clO (o : COp) : Bool := decide (o.kind = 1) && !clB (rw' o.gate)
theorem cClifford1 (o : COp) (aq : Option Addr) (cq : Nat) (w : World) (hT : Tb w) : Calls Tryz.prog 66 #[opV o aq cq] w fun e w' => e = .returned (.bool (clO o)) /\ Below w.heap.size w w' := by
  have c1 := fun V (h : Below w.heap.size w V) => gClifford o.gate V (hT.below h)
  unfold opV clO
  obtain ⟨kind, gate, qs, bit, cond, whn⟩ := o
  simp only at c1 ⊢
  generalize clB (rw' gate) = cb at *
  by_cases h1 : kind = 1
  . subst h1
    go_enter Tryz.func66, Tryz.ntmps66
    go_wp2_with (first | (go_at_call 34; refine (c1 _ (bnew _ _)).mono ?_; rintro e w2 ⟨rfl, hb2⟩))
    go_ret
    exact ⟨by simp, (bnew _ _).trans (hb2.mono (by simp))⟩
  . have e1 : (kind == 1) = false := by simpa using h1
    go_enter Tryz.func66, Tryz.ntmps66
    go_wp2_with fail
    go_ret
    exact ⟨by simp [h1], bnew _ _⟩
theorem eCli1 : ∀ args w, (callFunc 66 args).run Tryz.prog w = .ok (.enter 66 args) w := enters_of Tryz.func66 (by kernel_rfl) rfl
theorem cClifford (c : Circ) (ao : Option Addr) (k : Nat) (w : World) (hT : Tb w) (hC : Ci w c ao k) : Calls Tryz.prog 32 #[cV c ao k] w fun e w' => e = .returned (.bool (!c.ops.any clO)) /\ Below w.heap.size w w' := by
  have c1 := fun V (h : Below w.heap.size w V) => cContainsF 66 eCli1 clO c.ops ao k hC.len V (hC.ops.below h) (fun V' h' o aq cq => cClifford1 o aq cq V' ((hT.below h).below h'))
  obtain ⟨q, b, ops⟩ := c
  unfold cV
  simp only at c1 ⊢
  generalize ops.any clO = R at *
  generalize ops.length = n at *
  clear hC
  go_enter Tryz.func32, Tryz.ntmps32
  go_wp2_with (first | (go_at_call 64; refine (c1 _ (bnew _ _)).mono ?_; rintro e w2 ⟨rfl, hb2⟩))
  go_ret
  exact ⟨rfl, (bnew _ _).trans (hb2.mono (by simp))⟩
theorem wi_in {x n : Int} (h : wiP x n = true) : 0 <= x /\ x < n := by
  unfold wiP at h
  simpa using h
theorem badI_may (q b : Int) : ∀ (i : Nat) (l : List COp), badI q b i l = none -> ∀ o ∈ l, mayP q b o = true
  | _, [], _, o, ho => by cases ho
  | i, a :: r, h, o, ho => by
    rw [badI] at h
    split at h
    . rename_i ha
      rcases List.mem_cons.1 ho with rfl | ho
      . exact ha
      . exact badI_may q b (i + 1) r h o ho
    . cases h
theorem chkC_ok {c : Circ} (h : (chkC c).2 = 0) : 0 <= c.q /\ c.q <= 64 /\ 0 <= c.b /\ c.b <= 64 /\ c.ops.length <= 4096 /\ ∀ o ∈ c.ops, mayP c.q c.b o = true := by
  unfold chkC at h
  split at h
  . cases h
  . rename_i hn
    simp only [Bool.or_eq_true, Bool.not_eq_eq_eq_not, Bool.not_true, decide_eq_true_eq, not_or, Bool.not_eq_false] at hn
    unfold cntP at hn
    rw [Bool.and_eq_true] at hn
    have h1 := wi_in hn.1.1
    have h2 := wi_in hn.1.2
    split at h
    . cases h
    . rename_i hb
      exact ⟨h1.1, by omega, h2.1, by omega, by omega, badI_may _ _ _ _ hb⟩
end Go.Proofs.YtoickolhekhgmaaGreatDoor.Cir
