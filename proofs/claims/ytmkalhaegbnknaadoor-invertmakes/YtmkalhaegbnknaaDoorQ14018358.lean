import Derived.Test.YtmkalhaegbnknaaDoorQ7329726a
import Derived.Test.YtmkalhaegbnknaaDoorQ9dde1cc2
set_option maxRecDepth 100000
set_option maxHeartbeats 4000000
namespace Go.Proofs.YtmkalhaegbnknaaDoor.Cir
open Go.RowKit Go.Shelf Go.Proofs.YtmkalhaegbnknaaDoor.Oct Go.Proofs.YtmkalhaegbnknaaDoor.Tok Go.Proofs.YtmkalhaegbnknaaDoor.Gt Go.Proofs.YtmkalhaegbnknaaDoor.Rf
theorem cjK_len (k : Int) : (cjK k).length <= 5 := by
  unfold cjK
  refine Nat.le_trans (List.length_filter_le _ _) ?_
  have h : ∀ l ∈ cjT, l.length = 5 := by decide +kernel
  cases hc : cjT[k.toNat]? with
  | none => simp
  | some l =>
    simp only [Option.getD_some]
    exact Nat.le_of_eq (h l (List.mem_of_getElem? hc))
theorem cjO_len (o : COp) : (cjO o).length <= 5 := by
  unfold cjO
  split
  . rw [List.length_map]
    exact cjK_len _
  . simp
theorem chk_len {k : Int} {l : List Int} {n : Int} (h : chkP k l n = 0) : l.length = arN k := by
  unfold chkP at h
  cases h1 : knB (rw' k) with
  | false => rw [h1] at h; simp at h
  | true =>
    cases h2 : apP (rw' k).q l with
    | false => rw [h1, h2] at h; simp at h
    | true =>
      unfold apP at h2
      simp only [Bool.and_eq_true, decide_eq_true_eq] at h2
      unfold arN
      omega
theorem iConjugate (o : COp) (aq : Option Addr) (cq : Nat) {q b : Int} (hm : mayP q b o = true) (hl : o.qs.length <= 64) (hc : o.qs.length <= cq) (w : World) (hT : Ti w) (hN : Ns w aq o.qs) : Calls Tryd.prog 27 #[opV o aq cq] w fun e w' => ∃ bo j, e = .returned (.slice bo (cjO o).length j) /\ OpsOwn w' w.heap.size bo (cjO o).length j (cjO o) /\ Below w.heap.size w w' := by
  rcases may_gt hm with ⟨hk, h1, h2, h3⟩ | ⟨hk, -⟩
  . obtain ⟨x, hx⟩ : ∃ x : Nat, o.gate = (x : Int) := ⟨o.gate.toNat, by omega⟩
    exact iConj_yes o aq cq x hk hx (by omega) (chk_len h3) (may_pos hm) hl hc w hT hN
  . have e : cjO o = [o] := by unfold cjO; rw [if_neg hk]
    rw [e]
    exact iConj_no o aq cq hk hl w hN
theorem iConj_80 (c : Circ) (ao : Option Addr) (k : Nat) (hk : (chkC c).2 = 80) (w : World) (hT : Ti w) (hC : Ci w c ao k) : Calls Tryd.prog 8 #[cV c ao k] w fun e w' => e = .returned (.tuple #[cV nulC none 0, .int .i64 80]) /\ Below w.heap.size w w' := by
  have c1 := fun V (h : Below w.heap.size w V) => cCheck c ao k V (hT.below h).tb (hC.below h)
  rw [hk] at c1
  obtain ⟨q, b, l⟩ := c
  unfold cV nulC at *
  simp only [List.length_nil] at *
  generalize (chkC ⟨q, b, l⟩).1 = z at *
  generalize l.length = n at *
  clear hT hC hk
  have HB0 := hide (show Below w.heap.size w ((w.alloc (.cells #[.int .i64 q, .int .i64 b, .slice ao n k] 24)).alloc (.cells #[.int .i64 0, .int .i64 0, .slice none 0 0] 24)) from (bnew _ _).trans ((bnew _ _).mono (by simp)))
  go_enter Tryd.func8, Tryd.ntmps8
  go_wp2_with (first
    | (go_at_call 18; refine (c1 _ HB0.out).mono ?_; rintro e w1 ⟨rfl, hb1⟩; obtain ⟨m1, m2⟩ := may_keep hb1; obtain ⟨x0, x1, x2, x3⟩ := def_cells m1; have HB1 := hide (HB0.out.trans (hb1.mono HB0.out.size)); have HM1 := hide m1; have HM2 := hide m2; clear hb1 m1 m2)
    | refine wpList_store_row rfl _ _ _ rfl (w.heap.size + 1) _ rfl rfl _ _ HM2.out (by exact infoCi) (by rfl) (by simp [Value.oneCell']) ?_)
  refine bodyPost_ret (results_ct rfl _ _ (w.heap.size + 1) _ _ _ _ rfl (setRow_heap _ _ _ _ _ _ HM2.out) Tryd.underlying24 rfl (by exact infoCi)) rfl ?_
  exact ⟨rfl, Below.row HB1.out _ _ (by omega)⟩
theorem iConj_go (c : Circ) (ao : Option Addr) (k : Nat) (hk : (chkC c).2 = 0) (w : World) (hT : Ti w) (hC : Ci w c ao k) : Calls Tryd.prog 8 #[cV c ao k] w fun e w' => ∃ bo j, e = .returned (.tuple #[cV (cjP c).1 bo j, .int .i64 (cjP c).2]) /\ OpsOwn w' w.heap.size bo (cjP c).1.ops.length j (cjP c).1.ops /\ Below w.heap.size w w' := by
  have c1 := fun V (h : Below w.heap.size w V) => cCheck c ao k V (hT.below h).tb (hC.below h)
  have HRE : Hid (cjP c = if 4096 < (c.ops.flatMap cjO).length then (nulC, 170) else (⟨c.q, c.b, c.ops.flatMap cjO⟩, 0)) := hide (by
    unfold cjP
    rw [if_neg (by simp [hk])])
  generalize cjP c = R at *
  obtain ⟨⟨rq, rb, rl⟩, re⟩ := R
  have hck := chkC_ok hk
  have HC4 := hide (fun V (h : Below w.heap.size w V) o (ho : o ∈ c.ops) aq cq (hc : o.qs.length <= cq) (hN : Ns V aq o.qs) => iConjugate o aq cq (hck.2.2.2.2.2 o ho) (may_in hck.1 hck.2.1 hck.2.2.2.1 (hck.2.2.2.2.2 o ho)).1 hc V (hT.below h) hN)
  have hlen := hck.2.2.2.2.1
  have HOI := hide hC.ops
  rw [hk] at c1
  obtain ⟨q, b, l⟩ := c
  unfold cV at *
  simp only at *
  generalize (chkC ⟨q, b, l⟩).1 = z at *
  obtain ⟨n, hnn⟩ : ∃ n, l.length = n := ⟨_, rfl⟩
  have HL := hide hnn
  rw [hnn] at c1 hlen ⊢
  obtain ⟨rn, hrn⟩ : ∃ rn, rl.length = rn := ⟨_, rfl⟩
  have HRN := hide hrn
  rw [hrn]
  clear hT hC hk hck hnn hrn
  have HB0 := hide (show Below w.heap.size w ((w.alloc (.cells #[.int .i64 q, .int .i64 b, .slice ao n k] 24)).alloc (.cells #[.int .i64 0, .int .i64 0, .slice none 0 0] 24)) from (bnew _ _).trans ((bnew _ _).mono (by simp)))
  go_enter Tryd.func8, Tryd.ntmps8
  go_wp2_with (first
    | (go_at_call 18; refine (c1 _ HB0.out).mono ?_; rintro e w1 ⟨rfl, hb1⟩; obtain ⟨m1, m2⟩ := may_keep hb1; obtain ⟨x0, x1, x2, x3⟩ := def_cells m1; have HB1 := hide (HB0.out.trans (hb1.mono HB0.out.size)); have HM1 := hide m1; have HM2 := hide m2; clear hb1 m1 m2))
  have HD0 : Hid (Below w.heap.size w (w1.alloc (.cells #[.int .i64 q, .int .i64 b, .slice none 0 0] 24)) /\ (w1.alloc (.cells #[.int .i64 q, .int .i64 b, .slice none 0 0] 24)).heap[w.heap.size]? = some (.cells #[.int .i64 q, .int .i64 b, .slice ao n k] 24 (0, 0)) /\ (w1.alloc (.cells #[.int .i64 q, .int .i64 b, .slice none 0 0] 24)).heap[w.heap.size + 1]? = some (.cells #[.int .i64 0, .int .i64 0, .slice none 0 0] 24 (0, 0)) /\ (w1.alloc (.cells #[.int .i64 q, .int .i64 b, .slice none 0 0] 24)).heap[w1.heap.size]? = some (.cells #[.int .i64 q, .int .i64 b, .slice none 0 0] 24) /\ w.heap.size + 1 < w1.heap.size) := hide ⟨HB1.out.trans ((bnew _ _).mono HB1.out.size), (Below.heap_alloc _ _ _ (Array.getElem?_eq_some_iff.1 HM1.out).1).trans HM1.out, (Below.heap_alloc _ _ _ (Array.getElem?_eq_some_iff.1 HM2.out).1).trans HM2.out, heap_alloc_new _ _, (Array.getElem?_eq_some_iff.1 HM2.out).1⟩
  clear x0 x1 x2 x3 HB1 HM1 HM2 HB0 c1
  generalize (w1.alloc (.cells #[.int .i64 q, .int .i64 b, .slice none 0 0] 24)) = w4 at *
  generalize w1.heap.size = D at *
  have hDw := HD0.out.2.2.2.2
  go_loopw [8, 26] (fun _ vi wr => ∃ i : Nat, vi = .int .i64 (i : Int) /\ i <= n /\ Below w.heap.size w wr /\ wr.heap[w.heap.size]? = some (.cells #[.int .i64 q, .int .i64 b, .slice ao n k] 24 (0, 0)) /\ wr.heap[w.heap.size + 1]? = some (.cells #[.int .i64 0, .int .i64 0, .slice none 0 0] 24 (0, 0)) /\ ∃ (bo : Option Addr) (m2 j : Nat), wr.heap[D]? = some (.cells #[.int .i64 q, .int .i64 b, .slice bo m2 j] 24 (0, 0)) /\ m2 = ((l.take i).flatMap cjO).length /\ m2 <= 5 * i /\ OpsOwn wr w.heap.size bo m2 j ((l.take i).flatMap cjO)) (fun _ vi _ => n - (Go.RowKit.intOf vi).toNat)
  case atStart => exact ⟨0, rfl, Nat.zero_le _, HD0.out.1, HD0.out.2.1, HD0.out.2.2.1, none, 0, 0, HD0.out.2.2.2.1, by simp, by omega, OpsOwn.nil _ _⟩
  case round =>
    obtain ⟨i, rfl, hi, hb, hm0, hm1, bo, m2, j, hm2, hml, hm5, hO⟩ := hrel
    have HML := hide hml
    clear hml
    by_cases h : i < n
    . have hd : decide ((i : Int) < (n : Int)) = true := decide_eq_true (by omega)
      have hkk : (i : Int) < (n : Int) := by omega
      obtain ⟨o, ho⟩ : ∃ o, l[i]? = some o := ⟨_, List.getElem?_eq_getElem (by rw [HL.out]; exact h)⟩
      obtain ⟨g, off, aq, cq, rfl, hgl, hoc0⟩ := (HOI.out.below hb).at ho
      have k0 := hoc0.kind
      have k1 := hoc0.gate
      have k2 := hoc0.qs
      have k3 := hoc0.bit
      have k4 := hoc0.cond
      have k5 := hoc0.whn
      have HC4' := hide (fun V (h : Below w.heap.size w V) (hN : Ns V aq o.qs) => HC4.out V h o (List.mem_of_getElem? ho) aq cq hoc0.room hN)
      have HTK : Hid ((l.take (i + 1)).flatMap cjO = (l.take i).flatMap cjO ++ cjO o) := hide (by rw [List.take_add_one, ho, List.flatMap_append]; simp)
      have HCL := hide (cjO_len o)
      have HNS := hide hoc0.ns
      have HNO := hide hO
      have HBr := hide hb
      have HM0 := hide hm0
      have HM1 := hide hm1
      have HM2 := hide hm2
      obtain ⟨kind, gate, qs, bit, cond, whn⟩ := o
      unfold opV at HC4'
      simp only at k0 k1 k2 k3 k4 k5 HC4' HNS
      generalize cjO ⟨kind, gate, qs, bit, cond, whn⟩ = cl0 at *
      obtain ⟨cl, hcl⟩ : ∃ cl, cl0.length = cl := ⟨_, rfl⟩
      have HCE := hide hcl
      rw [hcl] at HC4' HCL
      generalize qs.length = m at *
      clear hoc0 ho hb hm0 hm1 hm2 hO HC4 HOI HD0 hcl
      have hcl5 := HCL.out
      go_wp2_with fail
      have HB1 : Hid (Below w.heap.size w (wr.alloc (.cells #[.int .i64 kind, .int .i64 gate, .slice aq m cq, .int .i64 bit, .int .i64 cond, .int .i64 whn] 41))) := hide (HBr.out.trans ((bnew _ _).mono HBr.out.size))
      have hal : Below wr.heap.size wr (wr.alloc (.cells #[.int .i64 kind, .int .i64 gate, .slice aq m cq, .int .i64 bit, .int .i64 cond, .int .i64 whn] 41)) := bnew _ _
      have HS1 : Hid ((wr.alloc (.cells #[.int .i64 kind, .int .i64 gate, .slice aq m cq, .int .i64 bit, .int .i64 cond, .int .i64 whn] 41)).heap[w.heap.size]? = some (.cells #[.int .i64 q, .int .i64 b, .slice (some ⟨g, off, none⟩) n k] 24 (0, 0)) /\ (wr.alloc (.cells #[.int .i64 kind, .int .i64 gate, .slice aq m cq, .int .i64 bit, .int .i64 cond, .int .i64 whn] 41)).heap[D]? = some (.cells #[.int .i64 q, .int .i64 b, .slice bo m2 j] 24 (0, 0)) /\ (wr.alloc (.cells #[.int .i64 kind, .int .i64 gate, .slice aq m cq, .int .i64 bit, .int .i64 cond, .int .i64 whn] 41)).heap[wr.heap.size]? = some (.cells #[.int .i64 kind, .int .i64 gate, .slice aq m cq, .int .i64 bit, .int .i64 cond, .int .i64 whn] 41)) := hide ⟨(hal.block _ (Array.getElem?_eq_some_iff.1 HM0.out).1).trans HM0.out, (hal.block _ (Array.getElem?_eq_some_iff.1 HM2.out).1).trans HM2.out, heap_alloc_new _ _⟩
      have HZ1 : Hid ((wr.alloc (.cells #[.int .i64 kind, .int .i64 gate, .slice aq m cq, .int .i64 bit, .int .i64 cond, .int .i64 whn] 41)).heap[w.heap.size + 1]? = some (.cells #[.int .i64 0, .int .i64 0, .slice none 0 0] 24 (0, 0))) := hide ((hal.block _ (Array.getElem?_eq_some_iff.1 HM1.out).1).trans HM1.out)
      have HO1 := hide (HNO.out.below hal)
      have HNP : Hid (ob bo ≠ some wr.heap.size) := hide (fun e => by
        obtain ⟨xs, _, _, h3, _⟩ := HNO.out
        have := (own_lt h3 _ e).2
        omega)
      have HC4 := hide (fun (V : World) (h : Below w.heap.size w V) (hb : Below (wr.alloc (.cells #[.int .i64 kind, .int .i64 gate, .slice aq m cq, .int .i64 bit, .int .i64 cond, .int .i64 whn] 41)).heap.size (wr.alloc (.cells #[.int .i64 kind, .int .i64 gate, .slice aq m cq, .int .i64 bit, .int .i64 cond, .int .i64 whn] 41)) V) => HC4'.out V h ((HNS.out.below hal).below hb))
      clear hal k0 k1 k2 k3 k4 k5 HC4'
      generalize (wr.alloc (.cells #[.int .i64 kind, .int .i64 gate, .slice aq m cq, .int .i64 bit, .int .i64 cond, .int .i64 whn] 41)) = W1 at *
      generalize wr.heap.size = P at *
      refine region_front (S := (fun V : World => V.heap[w.heap.size]? = some (.cells #[.int .i64 q, .int .i64 b, .slice (some ⟨g, off, none⟩) n k] 24 (0, 0)) /\ V.heap[D]? = some (.cells #[.int .i64 q, .int .i64 b, .slice bo m2 j] 24 (0, 0)) /\ V.heap[P]? = some (.cells #[.int .i64 kind, .int .i64 gate, .slice aq m cq, .int .i64 bit, .int .i64 cond, .int .i64 whn] 41))) (by kernel_rfl) 6 (by kernel_rfl) HS1.out (fun hHeld => ?_)
      simp only [List.take_succ_cons, List.take_zero]
      refine take_to (i := 0) (d := 30) (v := ?_) rfl rfl (by kernel_rfl) (by kernel_rfl) (by kernel_rfl) (fun _ _ _ h => h) (Or.inl ⟨by rfl, ?_⟩) (by assumption) ?_
      rotate_left 1
      . intro W hSw
        obtain ⟨hc1, hc2, hc3⟩ := hSw
        obtain ⟨s0, s1, s2, s3⟩ := def_cells hc1
        obtain ⟨t0, t1, t2, t3⟩ := def_cells hc2
        obtain ⟨u0, u1, u2, u3, u4, u5, u6, u7⟩ := six_cells hc3
        go_simp
        with_reducible rfl
      simp only [Act.put, List.setIfInBounds_toArray, List.set_cons_zero, List.set_cons_succ]
      refine take_to (i := 1) (d := 31) (v := ?_) rfl rfl (by kernel_rfl) (by kernel_rfl) (by kernel_rfl) (fun _ _ _ h => h) (Or.inl ⟨by rfl, ?_⟩) (by assumption) ?_
      rotate_left 1
      . intro W hSw
        obtain ⟨hc1, hc2, hc3⟩ := hSw
        obtain ⟨s0, s1, s2, s3⟩ := def_cells hc1
        obtain ⟨t0, t1, t2, t3⟩ := def_cells hc2
        obtain ⟨u0, u1, u2, u3, u4, u5, u6, u7⟩ := six_cells hc3
        go_simp
        with_reducible rfl
      simp only [Act.put, List.setIfInBounds_toArray, List.set_cons_zero, List.set_cons_succ]
      refine take_to (i := 2) (d := 32) (v := ?_) rfl rfl (by kernel_rfl) (by kernel_rfl) (by kernel_rfl) (fun _ _ _ h => h) (Or.inl ⟨by rfl, ?_⟩) (by assumption) ?_
      rotate_left 1
      . intro W hSw
        obtain ⟨hc1, hc2, hc3⟩ := hSw
        obtain ⟨s0, s1, s2, s3⟩ := def_cells hc1
        obtain ⟨t0, t1, t2, t3⟩ := def_cells hc2
        obtain ⟨u0, u1, u2, u3, u4, u5, u6, u7⟩ := six_cells hc3
        go_simp
        with_reducible rfl
      simp only [Act.put, List.setIfInBounds_toArray, List.set_cons_zero, List.set_cons_succ]
      refine wpAnyH_ready (rs := [3]) (by kernel_rfl) (by simp) ?_
      refine AllReadyH.cons (o := { dst := some 33, op := Op.call { callee := Callee.value (Operand.func 27), args := #[Operand.tmp 32], argTypes := #[41] }, type := 22, pos := "invert.go:36", after := #[{ on := 2, ground := Ground.data }], guard := none }) rfl (fun K hK => ?_) AllReadyH.nil
      go_simp
      go_at_call 27
      refine Calls.mono (HC4.out W1.drew HB1.out.drew (Below.refl _ _).drew) ?_
      rintro e w5 ⟨b5, j5, rfl, hO5, hb5⟩
      have hS5 : (fun V : World => V.heap[w.heap.size]? = some (.cells #[.int .i64 q, .int .i64 b, .slice (some ⟨g, off, none⟩) n k] 24 (0, 0)) /\ V.heap[D]? = some (.cells #[.int .i64 q, .int .i64 b, .slice bo m2 j] 24 (0, 0)) /\ V.heap[P]? = some (.cells #[.int .i64 kind, .int .i64 gate, .slice aq m cq, .int .i64 bit, .int .i64 cond, .int .i64 whn] 41)) w5 := ⟨(hb5.block _ (Array.getElem?_eq_some_iff.1 HS1.out.1).1).trans HS1.out.1, (hb5.block _ (Array.getElem?_eq_some_iff.1 HS1.out.2.1).1).trans HS1.out.2.1, (hb5.block _ (Array.getElem?_eq_some_iff.1 HS1.out.2.2).1).trans HS1.out.2.2⟩
      have n1 : w5.heap[w.heap.size + 1]? = some (.cells #[.int .i64 0, .int .i64 0, .slice none 0 0] 24 (0, 0)) := (hb5.block _ (Array.getElem?_eq_some_iff.1 HZ1.out).1).trans HZ1.out
      have hbw5 : Below w.heap.size w w5 := HB1.out.drew.trans (hb5.mono HB1.out.size)
      go_wp2_with fail
      refine hK.out _ _ hS5 (fun hHeld => ?_)
      clear hK K
      refine wpAnyH_ready (rs := [4]) (by kernel_rfl) (by simp) ?_
      refine AllReadyH.cons (o := { dst := some 34, op := Op.call { callee := Callee.builtin Builtin.append, args := #[Operand.tmp 31, Operand.tmp 33], argTypes := #[22, 22] }, type := 22, pos := "invert.go:36", after := #[{ on := 1, ground := Ground.data }, { on := 3, ground := Ground.data }, { on := 3, ground := Ground.chain }], guard := none }) rfl (fun K hK => ?_) AllReadyH.nil
      refine step_app_ops (w1 := W1.drew) rfl (.tmp 31) (.tmp 33) rfl (by rfl) (by rfl) (show OpsOwn W1.drew w.heap.size bo m2 j ((l.take i).flatMap cjO) from HO1.out) hb5 hO5 HB1.out.size (by omega) ?_
      intro g6 c6 w6 hO6 hg6
      have hOb := (show OpsOwn W1.drew w.heap.size bo m2 j ((l.take i).flatMap cjO) from HO1.out).below hb5
      have hkp : ∀ (x : Nat) (cs : Array Value), w5.heap[x]? = some (.cells cs 24 (0, 0)) -> w6.heap[x]? = some (.cells cs 24 (0, 0)) := fun x cs hx => (hg6.block x (Array.getElem?_eq_some_iff.1 hx).1 (hOb.ne hx (by decide)).symm).trans hx
      have hb6 : Below w.heap.size w w6 := hbw5.grown hg6 hbw5.size hOb.blt
      have m6 := hkp _ _ hS5.1
      have d6 := hkp _ _ hS5.2.1
      have z6 := hkp _ _ n1
      have hS7 : (fun V : World => V.heap[w.heap.size]? = some (.cells #[.int .i64 q, .int .i64 b, .slice (some ⟨g, off, none⟩) n k] 24 (0, 0)) /\ V.heap[D]? = some (.cells #[.int .i64 q, .int .i64 b, .slice bo m2 j] 24 (0, 0)) /\ V.heap[P]? = some (.cells #[.int .i64 kind, .int .i64 gate, .slice aq m cq, .int .i64 bit, .int .i64 cond, .int .i64 whn] 41)) w6 := ⟨m6, d6, (hg6.block _ (Array.getElem?_eq_some_iff.1 hS5.2.2).1 HNP.out.symm).trans hS5.2.2⟩
      refine hK.out _ _ hS7 (fun hHeld => ?_)
      clear hK K
      try simp only [Act.put, List.setIfInBounds_toArray, List.set_cons_zero, List.set_cons_succ]
      refine take_to (i := 5) (d := 35) (v := ?_) rfl rfl (by kernel_rfl) (by kernel_rfl) (by kernel_rfl) (fun _ _ _ h => h) (Or.inl ⟨by rfl, ?_⟩) (by assumption) ?_
      rotate_left 1
      . intro W hSw
        obtain ⟨hc1, hc2, hc3⟩ := hSw
        obtain ⟨s0, s1, s2, s3⟩ := def_cells hc1
        obtain ⟨t0, t1, t2, t3⟩ := def_cells hc2
        obtain ⟨u0, u1, u2, u3, u4, u5, u6, u7⟩ := six_cells hc3
        go_simp
        with_reducible rfl
      simp only [Act.put, List.setIfInBounds_toArray, List.set_cons_zero, List.set_cons_succ]
      refine wpAnyH_done (by kernel_rfl) ?_ _
      refine ql_last17 (o := { dst := none, op := Op.store 22 (Operand.tmp 35) (Operand.tmp 34), type := 0, pos := "invert.go:36", after := #[{ on := 5, ground := Ground.data }, { on := 4, ground := Ground.data }, { on := 4, ground := Ground.chain }, { on := 0, ground := Ground.phase }, { on := 1, ground := Ground.phase }, { on := 2, ground := Ground.phase }, { on := 3, ground := Ground.phase }, { on := 4, ground := Ground.phase }], guard := none }) rfl (fun K hK => ?_)
      obtain ⟨v0, v1, v2, v3⟩ := def_cells d6
      have vf : ∀ x, w6.frozen? ⟨D, x, none⟩ = false := fun x => by simp [World.frozen?, d6]
      have e6 : w6.setCell ⟨D, 2, none⟩ (.slice g6 (m2 + cl) c6) = w6.setRow D #[.int .i64 q, .int .i64 b, .slice g6 (m2 + cl) c6] := by
        rw [setCell_eq_setRow _ _ 2 _ _ _ _ d6]
        rfl
      have HE6 := hide e6
      have HF : Hid (Below w.heap.size w (w6.setRow D #[.int .i64 q, .int .i64 b, .slice g6 (m2 + cl) c6]) /\ (w6.setRow D #[.int .i64 q, .int .i64 b, .slice g6 (m2 + cl) c6]).heap[w.heap.size]? = some (.cells #[.int .i64 q, .int .i64 b, .slice (some ⟨g, off, none⟩) n k] 24 (0, 0)) /\ (w6.setRow D #[.int .i64 q, .int .i64 b, .slice g6 (m2 + cl) c6]).heap[w.heap.size + 1]? = some (.cells #[.int .i64 0, .int .i64 0, .slice none 0 0] 24 (0, 0)) /\ ∃ (bo : Option Addr) (m3 j : Nat), (w6.setRow D #[.int .i64 q, .int .i64 b, .slice g6 (m2 + cl) c6]).heap[D]? = some (.cells #[.int .i64 q, .int .i64 b, .slice bo m3 j] 24 (0, 0)) /\ m3 = ((l.take (i + 1)).flatMap cjO).length /\ m3 <= 5 * (i + 1) /\ OpsOwn (w6.setRow D #[.int .i64 q, .int .i64 b, .slice g6 (m2 + cl) c6]) w.heap.size bo m3 j ((l.take (i + 1)).flatMap cjO)) := hide (by
        have hrow := hO6.row d6 (by decide) (by decide) #[.int .i64 q, .int .i64 b, .slice g6 (m2 + cl) c6]
        refine ⟨Below.row hb6 _ _ (by omega), (setRow_other _ _ _ _ (by omega)).trans m6, (setRow_other _ _ _ _ (by omega)).trans z6, g6, m2 + cl, c6, setRow_heap _ _ _ _ _ _ d6, ?_, by have := HCL.out; omega, ?_⟩
        . rw [HTK.out, List.length_append, ← HML.out, HCE.out]
        . rw [HTK.out]
          exact hrow)
      clear hS5 hS7 hO5 hO6 hOb hb5 hg6 hb6 hkp n1 m6 d6 z6 e6 hHeld hbw5
      go_simp
      refine hK.out _ _ ?_
      clear hK K
      rw [HE6.out]
      go_wp2_with fail
      go_roundw
      case rel => exact ⟨i + 1, by go_num, by omega, HF.out⟩
      case measure => simp [Go.RowKit.intOf]; omega
    . obtain rfl : n = i := by omega
      have hd : decide ((n : Int) < (n : Int)) = false := decide_eq_false (by omega)
      obtain ⟨r0, r1, r2, r3⟩ := def_cells hm2
      have HM1 := hide hm1
      have HBr := hide hb
      have htk : l.take n = l := List.take_of_length_le (by rw [HL.out]; exact Nat.le_refl _)
      rw [htk] at hO
      have HO := hide hO
      have hML := HML.out
      rw [htk] at hML
      have HME := hide hML
      clear hb hm0 hm1 hm2 hO htk hML HML
      by_cases h4 : 4096 < m2
      . have d4 : decide ((m2 : Int) > 4096) = true := decide_eq_true (by omega)
        have d5 : decide ((4096 : Int) < (m2 : Int)) = true := decide_eq_true (by omega)
        go_wp2_with (refine wpList_store_row rfl _ _ _ rfl (w.heap.size + 1) _ rfl rfl _ _ HM1.out (by exact infoCi) (by rfl) (by simp [Value.oneCell']) ?_)
        refine bodyPost_ret (results_ct rfl _ _ (w.heap.size + 1) _ _ _ _ rfl (setRow_heap _ _ _ _ _ _ HM1.out) Tryd.underlying24 rfl (by exact infoCi)) rfl ?_
        have h5 : 4096 < (l.flatMap cjO).length := by rw [← HME.out]; exact h4
        have hre := HRE.out
        rw [if_pos h5] at hre
        simp only [nulC, Prod.mk.injEq, Circ.mk.injEq] at hre
        obtain ⟨⟨rfl, rfl, rfl⟩, rfl⟩ := hre
        obtain rfl := HRN.out
        exact ⟨none, 0, rfl, OpsOwn.nil _ _, Below.row HBr.out _ _ (by omega)⟩
      . have d4 : decide ((m2 : Int) > 4096) = false := decide_eq_false (by omega)
        have d5 : decide ((4096 : Int) < (m2 : Int)) = false := decide_eq_false (by omega)
        go_wp2_with (refine wpList_store_row rfl _ _ _ rfl (w.heap.size + 1) _ rfl rfl _ _ HM1.out (by exact infoCi) (by rfl) (by simp [Value.oneCell']) ?_)
        refine bodyPost_ret (results_ct rfl _ _ (w.heap.size + 1) _ _ _ _ rfl (setRow_heap _ _ _ _ _ _ HM1.out) Tryd.underlying24 rfl (by exact infoCi)) rfl ?_
        have h5 : ¬ 4096 < (l.flatMap cjO).length := by rw [← HME.out]; exact h4
        have hre := HRE.out
        rw [if_neg h5] at hre
        simp only [Prod.mk.injEq, Circ.mk.injEq] at hre
        obtain ⟨⟨rfl, rfl, rfl⟩, rfl⟩ := hre
        obtain rfl := HRN.out
        rw [← HME.out]
        exact ⟨bo, j, rfl, HO.out.row HM1.out (by decide) (by decide) _, Below.row HBr.out _ _ (by omega)⟩
theorem iConj (c : Circ) (ao : Option Addr) (k : Nat) (w : World) (hT : Ti w) (hC : Ci w c ao k) : Calls Tryd.prog 8 #[cV c ao k] w fun e w' => ∃ bo j, e = .returned (.tuple #[cV (cjP c).1 bo j, .int .i64 (cjP c).2]) /\ OpsOwn w' w.heap.size bo (cjP c).1.ops.length j (cjP c).1.ops /\ Below w.heap.size w w' := by
  rcases chk_two c with hk | hk
  . exact iConj_go c ao k hk w hT hC
  . have e : cjP c = (nulC, 80) := by unfold cjP; rw [if_pos (by rw [hk]; decide)]
    rw [e]
    refine (iConj_80 c ao k hk w hT hC).mono ?_
    rintro e w' ⟨rfl, hb⟩
    exact ⟨none, 0, rfl, OpsOwn.nil _ _, hb⟩
end Go.Proofs.YtmkalhaegbnknaaDoor.Cir
