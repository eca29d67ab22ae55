import Derived.Test.YtnghfdnlcnocjaaGreatDoorE151706a9
set_option maxRecDepth 100000
set_option maxHeartbeats 8000000
namespace Go.Proofs.YtnghfdnlcnocjaaGreatDoor.Cir
open Go.RowKit Go.Shelf Go.Proofs.YtnghfdnlcnocjaaGreatDoor.Oct Go.Proofs.YtnghfdnlcnocjaaGreatDoor.Tok Go.Proofs.YtnghfdnlcnocjaaGreatDoor.Gt
structure Dj (w V : World) (D q : Nat) (b : Int) (ao : Option Addr) (n k : Nat) (bo : Option Addr) (m j : Nat) (l : List COp) : Prop where
  bel : Below w.heap.size w V
  bx : V.heap[w.heap.size]? = some (.cells #[.int .i64 (q : Int), .int .i64 b, .slice ao n k] 24 (0, 0))
  dx : V.heap[D]? = some (.cells #[.int .i64 (q : Int), .int .i64 0, .slice bo m j] 24 (0, 0))
  row : DR w V bo m j l
theorem Dj.next {w V V' : World} {D q : Nat} {b : Int} {ao : Option Addr} {n k : Nat} {bo : Option Addr} {m j : Nat} {l : List COp} (h : Dj w V D q b ao n k bo m j l) (hb : Below V.heap.size V V') : Dj w V' D q b ao n k bo m j l :=
  ⟨bkp h.bel hb, (hb.block _ (Array.getElem?_eq_some_iff.1 h.bx).1).trans h.bx, (hb.block _ (Array.getElem?_eq_some_iff.1 h.dx).1).trans h.dx, h.row.below hb⟩
theorem xDefines_no (c : Circ) (ao : Option Addr) (k : Nat) (hk : (chkC c).2 ≠ 0 ∨ c.q = 0) (w : World) (hA : AlOk) (hT : Tq w) (hC : Ci w c ao k) :
    Calls Tryz.prog 3 #[cV c ao k] w fun e w' => e = .returned (.bool true) /\ Below w.heap.size w w' := by
  have c1 := fun V (h : Below w.heap.size w V) => cCheck c ao k V (hT.below h).tb (hC.below h)
  have A1 := fun V (h : Below w.heap.size w V) => hA V (hT.below h)
  obtain ⟨q, b, ops⟩ := c
  unfold cV at *
  simp only at *
  generalize ops.length = n at *
  have HK : Hid (∀ V, Below (w.alloc (.cells #[.int .i64 q, .int .i64 b, .slice ao n k] 24)).heap.size (w.alloc (.cells #[.int .i64 q, .int .i64 b, .slice ao n k] 24)) V -> V.cell? ⟨w.heap.size, 0, none⟩ = some (.int .i64 q) /\ V.cell? ⟨w.heap.size, 1, none⟩ = some (.int .i64 b) /\ V.cell? ⟨w.heap.size, 2, none⟩ = some (.slice ao n k) /\ w.heap.size < V.heap.size) := hide (fun V hV => def_cells ((hV.block w.heap.size (by simp)).trans (heap_alloc_new w _)))
  have HB0 := hide (bnew w (.cells #[.int .i64 q, .int .i64 b, .slice ao n k] 24))
  by_cases h0 : (chkC ⟨q, b, ops⟩).2 = 0
  . rw [h0] at c1
    have hq : q = 0 := by rcases hk with h | h; exact absurd h0 h; exact h
    subst hq
    generalize (chkC ⟨0, b, ops⟩).1 = z1 at *
    clear hk h0 hC hT
    go_enter Tryz.func3, Tryz.ntmps3
    go_wp2_with fail
    refine (c1 _ HB0.out).mono ?_
    rintro e w1 ⟨rfl, hb1⟩
    obtain ⟨x0, x1, x2, x3⟩ := HK.out w1 hb1
    have hw1 := bkp HB0.out hb1
    go_wp2_with (first
      | (go_at_call 5; (with_reducible refine Calls.mono (bNum _ _) ?_); rintro e v ⟨rfl, hv⟩; obtain rfl := hv.symm)
      | (go_at_call 6; (with_reducible refine Calls.mono (A1 _ hw1) ?_); rintro e w8 ⟨rfl, hb8⟩))
    go_ret
    exact ⟨rfl, bkp hw1 hb8⟩
  . rw [back_80 _ h0] at c1
    generalize (chkC ⟨q, b, ops⟩).1 = z1 at *
    clear hk h0 hC hT
    go_enter Tryz.func3, Tryz.ntmps3
    go_wp2_with fail
    refine (c1 _ HB0.out).mono ?_
    rintro e w1 ⟨rfl, hb1⟩
    obtain ⟨x0, x1, x2, x3⟩ := HK.out w1 hb1
    have hw1 := bkp HB0.out hb1
    go_wp2_with (first
      | (go_at_call 5; (with_reducible refine Calls.mono (bNum _ _) ?_); rintro e v ⟨rfl, hv⟩; obtain rfl := hv.symm)
      | (go_at_call 6; (with_reducible refine Calls.mono (A1 _ hw1) ?_); rintro e w8 ⟨rfl, hb8⟩))
    go_ret
    exact ⟨rfl, bkp hw1 hb8⟩
theorem xDefines_ok (q : Nat) (b : Int) (ops : List COp) (ao : Option Addr) (k : Nat) (hq0 : 0 < q) (hk : (chkC ⟨(q : Int), b, ops⟩).2 = 0) (w : World) (hA : AlOk) (hT : Tq w) (hC : Ci w ⟨(q : Int), b, ops⟩ ao k) :
    Calls Tryz.prog 3 #[cV ⟨(q : Int), b, ops⟩ ao k] w fun e w' => e = .returned (.bool true) /\ Below w.heap.size w w' := by
  obtain ⟨-, q64, -, -, hn, hm⟩ := chkC_ok hk
  simp only at q64 hn hm
  replace q64 : q <= 64 := by omega
  have c1 := fun V (h : Below w.heap.size w V) => cCheck ⟨(q : Int), b, ops⟩ ao k V (hT.below h).tb (hC.below h)
  rw [hk] at c1
  have A1 := fun V (h : Below w.heap.size w V) => hA V (hT.below h)
  -- the circuit that is made
  obtain ⟨dl, hdl⟩ : ∃ dl, ops.filter keepB = dl := ⟨_, rfl⟩
  have hdm : ∀ o ∈ dl, mayP (q : Int) 0 o = true /\ Pl o := fun o ho => by
    rw [← hdl] at ho
    obtain ⟨h1, h2⟩ := List.mem_filter.1 ho
    exact keep_may (hm o h1) h2
  have hdn : dl.length <= 4096 := by rw [← hdl]; exact Nat.le_trans (List.length_filter_le _ _) hn
  have hdk : (chkC ⟨(q : Int), 0, dl⟩).2 = 0 := chk_def q64 hdn (fun o ho => (hdm o ho).1)
  have hek : (chkC ⟨(q : Int), 0, []⟩).2 = 0 := chk_def q64 (by simp) (fun _ h => nomatch h)
  have hdq : ∀ o ∈ dl, o.qs.length <= 1000000000000000 := fun o ho => by
    rw [← hdl] at ho
    exact hC.qs o (List.mem_filter.1 ho).1
  have cD : Hid (∀ V bo m j, DR w V bo m j dl -> Below w.heap.size w V -> Ci V ⟨(q : Int), 0, dl⟩ bo j) := hide (fun V bo m j h hb => ⟨(h.rd hb).1, (h.rd hb).2, by show dl.length <= _; omega, hdq⟩)
  obtain ⟨B3, hB3⟩ : ∃ B3, (dl.map wrP).flatMap (· ++ [59, 10]) = B3 := ⟨_, rfl⟩
  have R3 : Hid (∀ V bo m j, Below w.heap.size w V -> DR w V bo m j dl -> Calls Tryz.prog 7 #[.agg #[.int .i64 (q : Int), .int .i64 0, .slice bo m j], .int .i64 3] V fun e w' => e = .returned (.tuple #[str B3, .bool true]) /\ Below V.heap.size V w') := hide (fun V bo m j hb h => by
    have h1 := bRow ⟨(q : Int), 0, dl⟩ bo j hdk 3 (hd3 q) B3 (by rw [pr_split q hq0, hB3]) (hd3_cnt q q64).1 (hd3_cnt q q64).2 V (hT.below hb).tb (hT.below hb).tx.ten (cD.out V bo m j h hb)
    have e := h.len
    unfold cV at h1
    simp only at h1
    rw [← e] at h1
    exact h1)
  obtain ⟨HD, hHD⟩ : ∃ HD, prP ⟨(q : Int), 0, []⟩ = HD := ⟨_, rfl⟩
  have R0 : Hid (∀ V, Below w.heap.size w V -> Calls Tryz.prog 7 #[.agg #[.int .i64 (q : Int), .int .i64 0, .slice none 0 0], .int .i64 0] V fun e w' => e = .returned (.tuple #[str HD, .bool true]) /\ Below V.heap.size V w') := hide (fun V hb => bRow ⟨(q : Int), 0, []⟩ none 0 hek 0 [] HD (by rw [hHD]; rfl) rfl (fun i hi => absurd hi (by simp)) V (hT.below hb).tb (hT.below hb).tx.ten ⟨.inl rfl, Nat.le_refl _, Nat.zero_le _, fun _ h => nomatch h⟩)
  have hlD : HD.length <= 10000002 := by rw [← hHD]; exact prP_len hek
  have hlB : B3.length <= 10000002 := by
    have h1 := prP_len hdk
    rw [pr_split q hq0, hB3, List.length_append] at h1
    omega
  obtain ⟨N3, hN3⟩ : ∃ N3, nmdP B3 = N3 := ⟨_, rfl⟩
  have NM : Hid (∀ V, Calls Tryz.prog 10 #[str B3] V fun e w' => e = .returned (str N3) /\ w' = V) := hide (fun V => by rw [← hN3]; exact bNamed B3 (by omega) V)
  have hlN : N3.length <= 10000002 := by rw [← hN3]; exact Nat.le_trans (nmd_len _) hlB
  have hN4 : N3 = dl.flatMap dwrP := by rw [← hN3, ← hB3]; exact nmd_ops q64 dl hdm
  obtain ⟨TX, hTX⟩ : ∃ TX, HD ++ [103, 97, 116, 101, 32, 98, 108, 111, 99, 107, 32] ++ nmsX q ++ [32, 123, 32] ++ N3 ++ [125, 10, 98, 108, 111, 99, 107, 32] ++ agsX q ++ [59, 10] = TX := ⟨_, rfl⟩
  have hTd : TX = dfP q dl := by rw [← hTX, ← hHD, hN4]; rfl
  obtain ⟨hn4, ha4⟩ := nms_len q q64
  have hlT : TX.length <= 30000000 := by
    rw [← hTX]
    simp only [List.length_append, List.length_cons, List.length_nil]
    omega
  have PR : Hid (∀ V, Below w.heap.size w V -> Calls Tryz.prog 9 #[str TX] V fun e w' => ∃ ao' k', e = .returned (.tuple #[.agg #[.int .i64 (q : Int), .int .i64 0, .slice ao' dl.length k'], .agg #[.int .i64 0, .int .i64 0, .int .i64 0, .int .i64 0]]) /\ Ci w' ⟨(q : Int), 0, dl⟩ ao' k' /\ Below V.heap.size V w') := hide (fun V hb => cParC (l := TX) (by omega) (by rw [hTd]; exact par_def q hq0 q64 dl hdm hdn) V (hT.below hb))
  have SM : Hid (∀ V ao' k' bo j, Ci V ⟨(q : Int), 0, dl⟩ ao' k' -> Ci V ⟨(q : Int), 0, dl⟩ bo j -> Calls Tryz.prog 11 #[.agg #[.int .i64 (q : Int), .int .i64 0, .slice ao' dl.length k'], .agg #[.int .i64 (q : Int), .int .i64 0, .slice bo dl.length j]] V fun e w' => e = .returned (.bool true) /\ Below V.heap.size V w') := hide (fun V ao' k' bo j h1 h2 => by
    have h := cSame ⟨(q : Int), 0, dl⟩ ⟨(q : Int), 0, dl⟩ ao' bo k' j V h1 h2
    rw [decide_eq_true (rfl : (⟨(q : Int), 0, dl⟩ : Circ) = ⟨(q : Int), 0, dl⟩)] at h
    exact h)
  have DG : Hid (∀ (i : Nat) (V : World), i < 64 -> Calls Tryz.prog 8 #[.int .i64 (i : Int)] V fun e w' => e = .returned (.string ⟨(Lib.itoa (i : Int)).toArray⟩) /\ w' = V) := hide (fun i V h => bDigits i (by omega) V)
  have hzD := size_str HD
  have hzN := size_str N3
  have HTX := hide hTX
  have HDL := hide hdl
  have HCO : Hid (∀ i o, ops[i]? = some o -> ∃ g off aq cq, ao = some ⟨g, off, none⟩ /\ g < w.heap.size /\ Oc w g (off + i * 6) o aq cq) := hide (fun i o h => hC.ops.at h)
  have HLQ : Hid (∀ o ∈ ops, o.qs.length <= 1000000000000000) := hide hC.qs
  have hroom := hC.room
  simp only at hroom
  clear hTX hTd hN3 hN4 hB3 hdl hdm hdk hek hHD hm hk hdq hC hT hlT
  unfold cV str at *
  simp only at *
  obtain ⟨n, hnl⟩ : ∃ n, ops.length = n := ⟨_, rfl⟩
  have HNL := hide hnl
  rw [hnl] at hn hroom c1 ⊢
  clear hnl
  generalize (chkC ⟨(q : Int), b, ops⟩).1 = z1 at *
  have HB0 := hide (bnew w (.cells #[.int .i64 (q : Int), .int .i64 b, .slice ao n k] 24))
  go_enter Tryz.func3, Tryz.ntmps3
  go_wp2_with fail
  refine (c1 _ HB0.out).mono ?_
  rintro e w1 ⟨rfl, hb1⟩
  have m1 : w1.heap[w.heap.size]? = some (.cells #[.int .i64 (q : Int), .int .i64 b, .slice ao n k] 24 (0, 0)) := (hb1.block w.heap.size (by simp)).trans (heap_alloc_new w _)
  have hw1 := bkp HB0.out hb1
  obtain ⟨x0, x1, x2, x3⟩ := def_cells m1
  have HJ0 : Hid (Dj w (w1.alloc (.cells #[.int .i64 (q : Int), .int .i64 0, .slice none 0 0] 24)) w1.heap.size q b ao n k none 0 0 []) := hide ⟨bkp hw1 (bnew _ _), (Below.heap_alloc _ _ _ x3).trans m1, heap_alloc_new _ _, DR.nil _ _⟩
  have hqb : ((q : Int) == 0) = false := beq_eq_false_iff_ne.2 (by omega)
  have HD1 : Hid (w.heap.size < w1.heap.size) := hide x3
  clear hb1 m1 hw1 c1
  go_wp2_with (first
    | (go_at_call 5; (with_reducible refine Calls.mono (bNum _ _) ?_); rintro e v ⟨rfl, hv⟩; obtain rfl := hv.symm))
  generalize hDg : w1.heap.size = D at *
  clear x0 x1 x2 x3
  go_loopw [6] (fun vi wr => ∃ (i : Nat) (bo : Option Addr) (m j : Nat), vi = .int .i64 (i : Int) /\ i <= n /\ Dj w wr D q b ao n k bo m j ((ops.take i).filter keepB)) (fun vi _ => n - (Go.RowKit.intOf vi).toNat)
  case atStart => exact ⟨0, none, 0, 0, rfl, Nat.zero_le _, by simpa using HJ0.out⟩
  case round =>
    obtain ⟨i, bo, m, j, rfl, hi, hJ⟩ := hrel
    have HB := hide hJ.bel
    have HM1 := hide hJ.bx
    have HM2 := hide hJ.dx
    have HR := hide hJ.row
    have hml : m <= i := by
      have h1 := hJ.row.len
      have h2 := List.length_filter_le keepB (ops.take i)
      rw [List.length_take] at h2
      omega
    obtain ⟨r0, r1, r2, r3⟩ := def_cells hJ.bx
    by_cases h : i < n
    . obtain ⟨o, ho⟩ : ∃ o, ops[i]? = some o := ⟨_, List.getElem?_eq_getElem (by rw [HNL.out]; exact h)⟩
      obtain ⟨g, off, aq, cq, hao, hg, hOc⟩ := HCO.out i o ho
      subst hao
      have HFT := hide (filter_take ops i o ho)
      have hql := HLQ.out o (List.mem_of_getElem? ho)
      obtain ⟨kind, gate, qs, bit, cond, whn⟩ := o
      have HNS := hide hOc.ns
      have HRM := hide hOc.room
      have HOC : Hid (∀ V, Below w.heap.size w V -> V.cell? ⟨g, off + i * 6, none⟩ = some (.int .i64 kind) /\ V.cell? ⟨g, off + i * 6 + 1, none⟩ = some (.int .i64 gate) /\ V.cell? ⟨g, off + i * 6 + 2, none⟩ = some (.slice aq qs.length cq) /\ V.cell? ⟨g, off + i * 6 + 3, none⟩ = some (.int .i64 bit) /\ V.cell? ⟨g, off + i * 6 + 4, none⟩ = some (.int .i64 cond) /\ V.cell? ⟨g, off + i * 6 + 5, none⟩ = some (.int .i64 whn)) := hide (fun V hb => by
        have h := hOc.below hb
        exact ⟨h.kind, h.gate, h.qs, h.bit, h.cond, h.whn⟩)
      obtain ⟨k0, k1, k2, k3, k4, k5⟩ := HOC.out wr hJ.bel
      obtain ⟨xs, hx1, hx2, hx3, hx4⟩ := hJ.row
      have HX3 : Hid (wr.ownsRow w.heap.size 34 6 (.slice bo m j) m (xs.flatMap opC)) := hide hx3
      have HS6 : Hid ((fun V : World => Below w.heap.size w V /\ V.heap[w.heap.size]? = some (.cells #[.int .i64 (q : Int), .int .i64 b, .slice (some ⟨g, off, none⟩) n k] 24 (0, 0)) /\ V.heap[D]? = some (.cells #[.int .i64 (q : Int), .int .i64 0, .slice bo m j] 24 (0, 0))) (wr.drew.alloc (.cells #[.int .i64 kind, .int .i64 gate, .slice aq qs.length cq, .int .i64 bit, .int .i64 cond, .int .i64 whn] 34))) := hide (by
        have hb := bnew wr (.cells #[.int .i64 kind, .int .i64 gate, .slice aq qs.length cq, .int .i64 bit, .int .i64 cond, .int .i64 whn] 34)
        exact ⟨(bkp hJ.bel hb).drew, (hb.block _ (Array.getElem?_eq_some_iff.1 hJ.bx).1).trans hJ.bx, (hb.block _ (Array.getElem?_eq_some_iff.1 hJ.dx).1).trans hJ.dx⟩)
      have HST : Hid (keepB ⟨kind, gate, qs, bit, cond, whn⟩ = true -> ∀ g6 c6 w6, w6.ownsRow w.heap.size 34 6 (.slice (some ⟨g6, 0, none⟩) (m + 1) c6) (m + 1) (xs.flatMap opC ++ [.int .i64 kind, .int .i64 gate, .slice aq qs.length cq, .int .i64 bit, .int .i64 cond, .int .i64 whn]) -> wr.grownBy w6 (ob bo) -> (fun V : World => Below w.heap.size w V /\ V.heap[w.heap.size]? = some (.cells #[.int .i64 (q : Int), .int .i64 b, .slice (some ⟨g, off, none⟩) n k] 24 (0, 0)) /\ V.heap[D]? = some (.cells #[.int .i64 (q : Int), .int .i64 0, .slice bo m j] 24 (0, 0))) w6 /\ Dj w (w6.setRow D #[.int .i64 (q : Int), .int .i64 0, .slice (some ⟨g6, 0, none⟩) (m + 1) c6]) D q b (some ⟨g, off, none⟩) n k (some ⟨g6, 0, none⟩) (m + 1) c6 ((ops.take (i + 1)).filter keepB) /\ ∀ x, w6.frozen? ⟨D, x, none⟩ = false) := hide (fun hkp g6 c6 w6 hown hgr => by
        have hne : ∀ (x : Nat) (cs : Array Value) (fr : Nat × Nat), wr.heap[x]? = some (.cells cs 24 fr) -> ob bo ≠ some x := fun x cs fr hx e => by
          obtain ⟨-, cs', fr', e2⟩ := hJ.row.ob e
          rw [hx] at e2
          simp at e2
        have kx := (hgr.block w.heap.size (Array.getElem?_eq_some_iff.1 hJ.bx).1 (hne _ _ _ hJ.bx).symm).trans hJ.bx
        have kd := (hgr.block D (Array.getElem?_eq_some_iff.1 hJ.dx).1 (hne _ _ _ hJ.dx).symm).trans hJ.dx
        have hb6 : Below w.heap.size w w6 := hJ.bel.grown hgr hJ.bel.size (fun x hx => (hJ.row.ob hx).1)
        have hDR : DR w w6 (some ⟨g6, 0, none⟩) (m + 1) c6 ((ops.take (i + 1)).filter keepB) := by
          rw [HFT.out, if_pos hkp]
          exact hJ.row.push ⟨kind, gate, qs, bit, cond, whn⟩ aq cq HRM.out HNS.out xs hx1 hx2 hx4 hown
        refine ⟨⟨hb6, kx, kd⟩, ⟨Below.row hb6 _ _ (by have := HD1.out; omega), (setRow_other _ _ _ _ (by have := HD1.out; omega)).trans kx, setRow_heap _ _ _ _ _ _ kd, hDR.keep fun g' cs fr hg' => setRow_other _ _ _ _ (fun e => ?_)⟩, fun x => by simp [World.frozen?, kd]⟩
        subst e
        rw [kd] at hg'
        simp at hg')
      have HNK : Hid (keepB ⟨kind, gate, qs, bit, cond, whn⟩ = false -> (ops.take (i + 1)).filter keepB = (ops.take i).filter keepB) := hide (fun hkp => by rw [HFT.out, hkp]; simp)
      clear hOc hx1 hx2 hx3 hx4 ho hJ
      generalize qs.length = ql at *
      by_cases h4 : kind = 4
      . have y4 : (kind == 4) = true := by rw [h4]; rfl
        have HST := hide (HST.out (by simp [keepB, h4]))
        clear h4
        go_wp2_with fail
        refine region_front (S := (fun V : World => Below w.heap.size w V /\ V.heap[w.heap.size]? = some (.cells #[.int .i64 (q : Int), .int .i64 b, .slice (some ⟨g, off, none⟩) n k] 24 (0, 0)) /\ V.heap[D]? = some (.cells #[.int .i64 (q : Int), .int .i64 0, .slice bo m j] 24 (0, 0)))) (by kernel_rfl) 10 (by kernel_rfl) ⟨HB.out.drew, HM1.out, HM2.out⟩ (fun hHeld => ?_)
        simp only [List.take_succ_cons, List.take_zero]
        refine take_to (i := 0) (d := 65) (v := ?_) rfl rfl (by kernel_rfl) (by kernel_rfl) (by kernel_rfl) (fun _ _ _ h => h) (Or.inl ⟨by rfl, ?_⟩) (by assumption) ?_
        rotate_left 1
        . intro W hSw
          obtain ⟨hc0, hc1, hc2⟩ := hSw
          obtain ⟨s0, s1, s2, s3⟩ := def_cells hc1
          obtain ⟨t0, t1, t2, t3⟩ := def_cells hc2
          obtain ⟨o0, o1, o2, o3, o4, o5⟩ := HOC.out W hc0
          go_simp
          with_reducible rfl
        simp only [Act.put, List.setIfInBounds_toArray, List.set_cons_zero, List.set_cons_succ]
        refine take_to (i := 1) (d := 66) (v := ?_) rfl rfl (by kernel_rfl) (by kernel_rfl) (by kernel_rfl) (fun _ _ _ h => h) (Or.inl ⟨by rfl, ?_⟩) (by assumption) ?_
        rotate_left 1
        . intro W hSw
          obtain ⟨hc0, hc1, hc2⟩ := hSw
          obtain ⟨s0, s1, s2, s3⟩ := def_cells hc1
          obtain ⟨t0, t1, t2, t3⟩ := def_cells hc2
          obtain ⟨o0, o1, o2, o3, o4, o5⟩ := HOC.out W hc0
          go_simp
          with_reducible rfl
        simp only [Act.put, List.setIfInBounds_toArray, List.set_cons_zero, List.set_cons_succ]
        refine take_to (i := 2) (d := 67) (v := ?_) rfl rfl (by kernel_rfl) (by kernel_rfl) (by kernel_rfl) (fun _ _ _ h => h) (Or.inl ⟨by rfl, ?_⟩) (by assumption) ?_
        rotate_left 1
        . intro W hSw
          obtain ⟨hc0, hc1, hc2⟩ := hSw
          obtain ⟨s0, s1, s2, s3⟩ := def_cells hc1
          obtain ⟨t0, t1, t2, t3⟩ := def_cells hc2
          obtain ⟨o0, o1, o2, o3, o4, o5⟩ := HOC.out W hc0
          go_simp
          with_reducible rfl
        simp only [Act.put, List.setIfInBounds_toArray, List.set_cons_zero, List.set_cons_succ]
        refine take_to (i := 3) (d := 68) (v := ?_) rfl rfl (by kernel_rfl) (by kernel_rfl) (by kernel_rfl) (fun _ _ _ h => h) (Or.inl ⟨by rfl, ?_⟩) (by assumption) ?_
        rotate_left 1
        . intro W hSw
          obtain ⟨hc0, hc1, hc2⟩ := hSw
          obtain ⟨s0, s1, s2, s3⟩ := def_cells hc1
          obtain ⟨t0, t1, t2, t3⟩ := def_cells hc2
          obtain ⟨o0, o1, o2, o3, o4, o5⟩ := HOC.out W hc0
          go_simp
          with_reducible rfl
        simp only [Act.put, List.setIfInBounds_toArray, List.set_cons_zero, List.set_cons_succ]
        refine take_to (i := 4) (d := 69) (v := ?_) rfl rfl (by kernel_rfl) (by kernel_rfl) (by kernel_rfl) (fun _ _ _ h => h) (Or.inl ⟨by rfl, ?_⟩) (by assumption) ?_
        rotate_left 1
        . intro W hSw
          obtain ⟨hc0, hc1, hc2⟩ := hSw
          obtain ⟨s0, s1, s2, s3⟩ := def_cells hc1
          obtain ⟨t0, t1, t2, t3⟩ := def_cells hc2
          obtain ⟨o0, o1, o2, o3, o4, o5⟩ := HOC.out W hc0
          go_simp
          with_reducible rfl
        simp only [Act.put, List.setIfInBounds_toArray, List.set_cons_zero, List.set_cons_succ]
        refine take_to (i := 5) (d := 70) (v := ?_) rfl rfl (by kernel_rfl) (by kernel_rfl) (by kernel_rfl) (fun _ _ _ h => h) (Or.inl ⟨by rfl, ?_⟩) (by assumption) ?_
        rotate_left 1
        . intro W hSw
          obtain ⟨hc0, hc1, hc2⟩ := hSw
          obtain ⟨s0, s1, s2, s3⟩ := def_cells hc1
          obtain ⟨t0, t1, t2, t3⟩ := def_cells hc2
          obtain ⟨o0, o1, o2, o3, o4, o5⟩ := HOC.out W hc0
          go_simp
          with_reducible rfl
        simp only [Act.put, List.setIfInBounds_toArray, List.set_cons_zero, List.set_cons_succ]
        refine take_to (i := 6) (d := 71) (v := ?_) rfl rfl (by kernel_rfl) (by kernel_rfl) (by kernel_rfl) (fun _ _ _ h => h) (Or.inl ⟨by rfl, ?_⟩) (by assumption) ?_
        rotate_left 1
        . intro W hSw
          obtain ⟨hc0, hc1, hc2⟩ := hSw
          obtain ⟨s0, s1, s2, s3⟩ := def_cells hc1
          obtain ⟨t0, t1, t2, t3⟩ := def_cells hc2
          obtain ⟨o0, o1, o2, o3, o4, o5⟩ := HOC.out W hc0
          go_simp
          with_reducible rfl
        simp only [Act.put, List.setIfInBounds_toArray, List.set_cons_zero, List.set_cons_succ]
        refine wpAnyH_ready (rs := [7]) (by kernel_rfl) (by simp) ?_
        refine AllReadyH.cons (o := { dst := some 72, op := Op.buildSlice 22 1 #[(0, Operand.tmp 71)], type := 22, pos := "law.go:174", after := #[{ on := 6, ground := Ground.data }], guard := none }) rfl (fun K hK => ?_) AllReadyH.nil
        go_simp
        refine hK.out _ _ (show (fun V : World => Below w.heap.size w V /\ V.heap[w.heap.size]? = some (.cells #[.int .i64 (q : Int), .int .i64 b, .slice (some ⟨g, off, none⟩) n k] 24 (0, 0)) /\ V.heap[D]? = some (.cells #[.int .i64 (q : Int), .int .i64 0, .slice bo m j] 24 (0, 0))) (wr.drew.alloc (.cells #[.int .i64 kind, .int .i64 gate, .slice aq ql cq, .int .i64 bit, .int .i64 cond, .int .i64 whn] 34)) from HS6.out) (fun hHeld => ?_)
        clear hK K
        try simp only [Act.put, List.setIfInBounds_toArray, List.set_cons_zero, List.set_cons_succ]
        refine wpAnyH_ready (rs := [8]) (by kernel_rfl) (by simp) ?_
        refine AllReadyH.cons (o := { dst := some 73, op := Op.call { callee := Callee.builtin Builtin.append, args := #[Operand.tmp 66, Operand.tmp 72], argTypes := #[22, 22] }, type := 22, pos := "law.go:174", after := #[{ on := 1, ground := Ground.data }, { on := 7, ground := Ground.data }], guard := none }) rfl (fun K hK => ?_) AllReadyH.nil
        first
          | refine step_pushD (w := wr) rfl (.tmp 66) (.tmp 72) 22 rfl 34 Tryz.underlying22 _ 6 64 infoOp rfl (by decide) w.heap.size bo m j _ (by rfl) HX3.out [.int .i64 kind, .int .i64 gate, .slice aq ql cq, .int .i64 bit, .int .i64 cond, .int .i64 whn] _ rfl rfl (by simp [Value.oneCell']) wr.heap.size rfl (by rfl) (by omega) (by omega) HB.out.size ?_
          | refine step_push (w := wr.drew) rfl (.tmp 66) (.tmp 72) 22 rfl 34 Tryz.underlying22 _ 6 64 infoOp rfl (by decide) w.heap.size bo m j _ (by rfl) HX3.out [.int .i64 kind, .int .i64 gate, .slice aq ql cq, .int .i64 bit, .int .i64 cond, .int .i64 whn] _ rfl rfl (by simp [Value.oneCell']) wr.heap.size rfl (by rfl) (by omega) (by omega) HB.out.size ?_
        intro g6 c6 w6 hown6 hg6 hat6
        obtain ⟨hS7, hF6, hfz⟩ := HST.out g6 c6 w6 hown6 ⟨hg6.os, hg6.tape, hg6.output, hg6.size, hg6.block⟩
        refine hK.out _ _ (show (fun V : World => Below w.heap.size w V /\ V.heap[w.heap.size]? = some (.cells #[.int .i64 (q : Int), .int .i64 b, .slice (some ⟨g, off, none⟩) n k] 24 (0, 0)) /\ V.heap[D]? = some (.cells #[.int .i64 (q : Int), .int .i64 0, .slice bo m j] 24 (0, 0))) w6 from hS7) (fun hHeld => ?_)
        clear hK K
        try simp only [Act.put, List.setIfInBounds_toArray, List.set_cons_zero, List.set_cons_succ]
        refine take_to (i := 9) (d := 74) (v := ?_) rfl rfl (by kernel_rfl) (by kernel_rfl) (by kernel_rfl) (fun _ _ _ h => h) (Or.inl ⟨by rfl, ?_⟩) (by assumption) ?_
        rotate_left 1
        . intro W hSw
          obtain ⟨hc0, hc1, hc2⟩ := hSw
          obtain ⟨s0, s1, s2, s3⟩ := def_cells hc1
          obtain ⟨t0, t1, t2, t3⟩ := def_cells hc2
          obtain ⟨o0, o1, o2, o3, o4, o5⟩ := HOC.out W hc0
          go_simp
          with_reducible rfl
        simp only [Act.put, List.setIfInBounds_toArray, List.set_cons_zero, List.set_cons_succ]
        refine wpAnyH_done (by kernel_rfl) ?_ _
        refine ql_last (o := { dst := none, op := Op.store 22 (Operand.tmp 74) (Operand.tmp 73), type := 0, pos := "law.go:174", after := #[{ on := 9, ground := Ground.data }, { on := 8, ground := Ground.data }, { on := 8, ground := Ground.chain }, { on := 0, ground := Ground.phase }, { on := 1, ground := Ground.phase }, { on := 2, ground := Ground.phase }, { on := 3, ground := Ground.phase }, { on := 4, ground := Ground.phase }, { on := 5, ground := Ground.phase }, { on := 6, ground := Ground.phase }, { on := 7, ground := Ground.phase }, { on := 8, ground := Ground.phase }], guard := none }) rfl (fun K hK => ?_)
        have HF6 := hide hF6
        obtain ⟨-, -, d6⟩ := hS7
        obtain ⟨v0, v1, v2, v3⟩ := def_cells d6
        have e6 : w6.setCell ⟨D, 2, none⟩ (.slice (some ⟨g6, 0, none⟩) (m + 1) c6) = w6.setRow D #[.int .i64 (q : Int), .int .i64 0, .slice (some ⟨g6, 0, none⟩) (m + 1) c6] := by
          rw [setCell_eq_setRow _ _ 2 _ _ _ _ d6]
          rfl
        have HE6 := hide e6
        have HFZ := hide hfz
        have vf := hfz 2
        clear hF6 d6 e6 hfz hown6 hg6 hat6 hHeld
        go_simp
        refine hK.out _ _ ?_
        clear hK K
        rw [HE6.out]
        go_wp2_with fail
        go_roundw
        case rel => exact ⟨i + 1, _, _, _, by go_num, by omega, HF6.out⟩
        case measure => simp [Go.RowKit.intOf]; omega
      . have n4 : (kind == 4) = false := beq_eq_false_iff_ne.2 h4
        by_cases h1 : kind = 1
        . have y1 : (kind == 1) = true := by rw [h1]; rfl
          by_cases hcd : cond = -1
          . have ycd : (cond == -1) = true := by rw [hcd]; rfl
            have HST := hide (HST.out (by simp [keepB, h1, hcd]))
            clear hcd h1 h4
            go_wp2_with fail
            refine region_front (S := (fun V : World => Below w.heap.size w V /\ V.heap[w.heap.size]? = some (.cells #[.int .i64 (q : Int), .int .i64 b, .slice (some ⟨g, off, none⟩) n k] 24 (0, 0)) /\ V.heap[D]? = some (.cells #[.int .i64 (q : Int), .int .i64 0, .slice bo m j] 24 (0, 0)))) (by kernel_rfl) 10 (by kernel_rfl) ⟨HB.out.drew, HM1.out, HM2.out⟩ (fun hHeld => ?_)
            simp only [List.take_succ_cons, List.take_zero]
            refine take_to (i := 0) (d := 65) (v := ?_) rfl rfl (by kernel_rfl) (by kernel_rfl) (by kernel_rfl) (fun _ _ _ h => h) (Or.inl ⟨by rfl, ?_⟩) (by assumption) ?_
            rotate_left 1
            . intro W hSw
              obtain ⟨hc0, hc1, hc2⟩ := hSw
              obtain ⟨s0, s1, s2, s3⟩ := def_cells hc1
              obtain ⟨t0, t1, t2, t3⟩ := def_cells hc2
              obtain ⟨o0, o1, o2, o3, o4, o5⟩ := HOC.out W hc0
              go_simp
              with_reducible rfl
            simp only [Act.put, List.setIfInBounds_toArray, List.set_cons_zero, List.set_cons_succ]
            refine take_to (i := 1) (d := 66) (v := ?_) rfl rfl (by kernel_rfl) (by kernel_rfl) (by kernel_rfl) (fun _ _ _ h => h) (Or.inl ⟨by rfl, ?_⟩) (by assumption) ?_
            rotate_left 1
            . intro W hSw
              obtain ⟨hc0, hc1, hc2⟩ := hSw
              obtain ⟨s0, s1, s2, s3⟩ := def_cells hc1
              obtain ⟨t0, t1, t2, t3⟩ := def_cells hc2
              obtain ⟨o0, o1, o2, o3, o4, o5⟩ := HOC.out W hc0
              go_simp
              with_reducible rfl
            simp only [Act.put, List.setIfInBounds_toArray, List.set_cons_zero, List.set_cons_succ]
            refine take_to (i := 2) (d := 67) (v := ?_) rfl rfl (by kernel_rfl) (by kernel_rfl) (by kernel_rfl) (fun _ _ _ h => h) (Or.inl ⟨by rfl, ?_⟩) (by assumption) ?_
            rotate_left 1
            . intro W hSw
              obtain ⟨hc0, hc1, hc2⟩ := hSw
              obtain ⟨s0, s1, s2, s3⟩ := def_cells hc1
              obtain ⟨t0, t1, t2, t3⟩ := def_cells hc2
              obtain ⟨o0, o1, o2, o3, o4, o5⟩ := HOC.out W hc0
              go_simp
              with_reducible rfl
            simp only [Act.put, List.setIfInBounds_toArray, List.set_cons_zero, List.set_cons_succ]
            refine take_to (i := 3) (d := 68) (v := ?_) rfl rfl (by kernel_rfl) (by kernel_rfl) (by kernel_rfl) (fun _ _ _ h => h) (Or.inl ⟨by rfl, ?_⟩) (by assumption) ?_
            rotate_left 1
            . intro W hSw
              obtain ⟨hc0, hc1, hc2⟩ := hSw
              obtain ⟨s0, s1, s2, s3⟩ := def_cells hc1
              obtain ⟨t0, t1, t2, t3⟩ := def_cells hc2
              obtain ⟨o0, o1, o2, o3, o4, o5⟩ := HOC.out W hc0
              go_simp
              with_reducible rfl
            simp only [Act.put, List.setIfInBounds_toArray, List.set_cons_zero, List.set_cons_succ]
            refine take_to (i := 4) (d := 69) (v := ?_) rfl rfl (by kernel_rfl) (by kernel_rfl) (by kernel_rfl) (fun _ _ _ h => h) (Or.inl ⟨by rfl, ?_⟩) (by assumption) ?_
            rotate_left 1
            . intro W hSw
              obtain ⟨hc0, hc1, hc2⟩ := hSw
              obtain ⟨s0, s1, s2, s3⟩ := def_cells hc1
              obtain ⟨t0, t1, t2, t3⟩ := def_cells hc2
              obtain ⟨o0, o1, o2, o3, o4, o5⟩ := HOC.out W hc0
              go_simp
              with_reducible rfl
            simp only [Act.put, List.setIfInBounds_toArray, List.set_cons_zero, List.set_cons_succ]
            refine take_to (i := 5) (d := 70) (v := ?_) rfl rfl (by kernel_rfl) (by kernel_rfl) (by kernel_rfl) (fun _ _ _ h => h) (Or.inl ⟨by rfl, ?_⟩) (by assumption) ?_
            rotate_left 1
            . intro W hSw
              obtain ⟨hc0, hc1, hc2⟩ := hSw
              obtain ⟨s0, s1, s2, s3⟩ := def_cells hc1
              obtain ⟨t0, t1, t2, t3⟩ := def_cells hc2
              obtain ⟨o0, o1, o2, o3, o4, o5⟩ := HOC.out W hc0
              go_simp
              with_reducible rfl
            simp only [Act.put, List.setIfInBounds_toArray, List.set_cons_zero, List.set_cons_succ]
            refine take_to (i := 6) (d := 71) (v := ?_) rfl rfl (by kernel_rfl) (by kernel_rfl) (by kernel_rfl) (fun _ _ _ h => h) (Or.inl ⟨by rfl, ?_⟩) (by assumption) ?_
            rotate_left 1
            . intro W hSw
              obtain ⟨hc0, hc1, hc2⟩ := hSw
              obtain ⟨s0, s1, s2, s3⟩ := def_cells hc1
              obtain ⟨t0, t1, t2, t3⟩ := def_cells hc2
              obtain ⟨o0, o1, o2, o3, o4, o5⟩ := HOC.out W hc0
              go_simp
              with_reducible rfl
            simp only [Act.put, List.setIfInBounds_toArray, List.set_cons_zero, List.set_cons_succ]
            refine wpAnyH_ready (rs := [7]) (by kernel_rfl) (by simp) ?_
            refine AllReadyH.cons (o := { dst := some 72, op := Op.buildSlice 22 1 #[(0, Operand.tmp 71)], type := 22, pos := "law.go:174", after := #[{ on := 6, ground := Ground.data }], guard := none }) rfl (fun K hK => ?_) AllReadyH.nil
            go_simp
            refine hK.out _ _ (show (fun V : World => Below w.heap.size w V /\ V.heap[w.heap.size]? = some (.cells #[.int .i64 (q : Int), .int .i64 b, .slice (some ⟨g, off, none⟩) n k] 24 (0, 0)) /\ V.heap[D]? = some (.cells #[.int .i64 (q : Int), .int .i64 0, .slice bo m j] 24 (0, 0))) (wr.drew.alloc (.cells #[.int .i64 kind, .int .i64 gate, .slice aq ql cq, .int .i64 bit, .int .i64 cond, .int .i64 whn] 34)) from HS6.out) (fun hHeld => ?_)
            clear hK K
            try simp only [Act.put, List.setIfInBounds_toArray, List.set_cons_zero, List.set_cons_succ]
            refine wpAnyH_ready (rs := [8]) (by kernel_rfl) (by simp) ?_
            refine AllReadyH.cons (o := { dst := some 73, op := Op.call { callee := Callee.builtin Builtin.append, args := #[Operand.tmp 66, Operand.tmp 72], argTypes := #[22, 22] }, type := 22, pos := "law.go:174", after := #[{ on := 1, ground := Ground.data }, { on := 7, ground := Ground.data }], guard := none }) rfl (fun K hK => ?_) AllReadyH.nil
            first
              | refine step_pushD (w := wr) rfl (.tmp 66) (.tmp 72) 22 rfl 34 Tryz.underlying22 _ 6 64 infoOp rfl (by decide) w.heap.size bo m j _ (by rfl) HX3.out [.int .i64 kind, .int .i64 gate, .slice aq ql cq, .int .i64 bit, .int .i64 cond, .int .i64 whn] _ rfl rfl (by simp [Value.oneCell']) wr.heap.size rfl (by rfl) (by omega) (by omega) HB.out.size ?_
              | refine step_push (w := wr.drew) rfl (.tmp 66) (.tmp 72) 22 rfl 34 Tryz.underlying22 _ 6 64 infoOp rfl (by decide) w.heap.size bo m j _ (by rfl) HX3.out [.int .i64 kind, .int .i64 gate, .slice aq ql cq, .int .i64 bit, .int .i64 cond, .int .i64 whn] _ rfl rfl (by simp [Value.oneCell']) wr.heap.size rfl (by rfl) (by omega) (by omega) HB.out.size ?_
            intro g6 c6 w6 hown6 hg6 hat6
            obtain ⟨hS7, hF6, hfz⟩ := HST.out g6 c6 w6 hown6 ⟨hg6.os, hg6.tape, hg6.output, hg6.size, hg6.block⟩
            refine hK.out _ _ (show (fun V : World => Below w.heap.size w V /\ V.heap[w.heap.size]? = some (.cells #[.int .i64 (q : Int), .int .i64 b, .slice (some ⟨g, off, none⟩) n k] 24 (0, 0)) /\ V.heap[D]? = some (.cells #[.int .i64 (q : Int), .int .i64 0, .slice bo m j] 24 (0, 0))) w6 from hS7) (fun hHeld => ?_)
            clear hK K
            try simp only [Act.put, List.setIfInBounds_toArray, List.set_cons_zero, List.set_cons_succ]
            refine take_to (i := 9) (d := 74) (v := ?_) rfl rfl (by kernel_rfl) (by kernel_rfl) (by kernel_rfl) (fun _ _ _ h => h) (Or.inl ⟨by rfl, ?_⟩) (by assumption) ?_
            rotate_left 1
            . intro W hSw
              obtain ⟨hc0, hc1, hc2⟩ := hSw
              obtain ⟨s0, s1, s2, s3⟩ := def_cells hc1
              obtain ⟨t0, t1, t2, t3⟩ := def_cells hc2
              obtain ⟨o0, o1, o2, o3, o4, o5⟩ := HOC.out W hc0
              go_simp
              with_reducible rfl
            simp only [Act.put, List.setIfInBounds_toArray, List.set_cons_zero, List.set_cons_succ]
            refine wpAnyH_done (by kernel_rfl) ?_ _
            refine ql_last (o := { dst := none, op := Op.store 22 (Operand.tmp 74) (Operand.tmp 73), type := 0, pos := "law.go:174", after := #[{ on := 9, ground := Ground.data }, { on := 8, ground := Ground.data }, { on := 8, ground := Ground.chain }, { on := 0, ground := Ground.phase }, { on := 1, ground := Ground.phase }, { on := 2, ground := Ground.phase }, { on := 3, ground := Ground.phase }, { on := 4, ground := Ground.phase }, { on := 5, ground := Ground.phase }, { on := 6, ground := Ground.phase }, { on := 7, ground := Ground.phase }, { on := 8, ground := Ground.phase }], guard := none }) rfl (fun K hK => ?_)
            have HF6 := hide hF6
            obtain ⟨-, -, d6⟩ := hS7
            obtain ⟨v0, v1, v2, v3⟩ := def_cells d6
            have e6 : w6.setCell ⟨D, 2, none⟩ (.slice (some ⟨g6, 0, none⟩) (m + 1) c6) = w6.setRow D #[.int .i64 (q : Int), .int .i64 0, .slice (some ⟨g6, 0, none⟩) (m + 1) c6] := by
              rw [setCell_eq_setRow _ _ 2 _ _ _ _ d6]
              rfl
            have HE6 := hide e6
            have HFZ := hide hfz
            have vf := hfz 2
            clear hF6 d6 e6 hfz hown6 hg6 hat6 hHeld
            go_simp
            refine hK.out _ _ ?_
            clear hK K
            rw [HE6.out]
            go_wp2_with fail
            go_roundw
            case rel => exact ⟨i + 1, _, _, _, by go_num, by omega, HF6.out⟩
            case measure => simp [Go.RowKit.intOf]; omega
          . have ncd : (cond == -1) = false := beq_eq_false_iff_ne.2 hcd
            have HE := hide (HNK.out (by simp [keepB, h1, hcd]))
            clear hcd h1 h4
            go_wp2_with fail
            go_roundw
            case rel => exact ⟨i + 1, bo, m, j, by go_num, by omega, by rw [HE.out]; exact ⟨HB.out, HM1.out, HM2.out, HR.out⟩⟩
            case measure => simp [Go.RowKit.intOf]; omega
        . have n1 : (kind == 1) = false := beq_eq_false_iff_ne.2 h1
          have HE := hide (HNK.out (by simp [keepB, h1, h4]))
          clear h1 h4
          go_wp2_with fail
          go_roundw
          case rel => exact ⟨i + 1, bo, m, j, by go_num, by omega, by rw [HE.out]; exact ⟨HB.out, HM1.out, HM2.out, HR.out⟩⟩
          case measure => simp [Go.RowKit.intOf]; omega
    . obtain rfl : n = i := by omega
      have hfin : (ops.take n).filter keepB = dl := by rw [← HNL.out, List.take_length]; exact HDL.out
      rw [hfin] at hJ
      have hmd : m = dl.length := hJ.row.len
      obtain rfl := hmd
      have HR3 := hide (R3.out wr bo dl.length j hJ.bel hJ.row)
      obtain ⟨d0, d1, d2, d3⟩ := def_cells hJ.dx
      have HJ := hide hJ
      clear hJ hfin hml HB HM1 HM2 HR HCO HLQ HJ0 HB0 R3
      go_wp2_with fail
      refine (HR3.out).mono ?_
      rintro e w2 ⟨rfl, hb2⟩
      have hJ2 := HJ.out.next hb2
      have HR0 := hide (R0.out w2 hJ2.bel)
      have HJ2 := hide hJ2
      obtain ⟨y0, y1, y2, y3⟩ := def_cells hJ2.bx
      clear hb2 r0 r1 r2 r3 d0 d1 d2 d3 HR3 HJ R0 hJ2
      go_wp2_with fail
      refine (HR0.out).mono ?_
      rintro e w3 ⟨rfl, hb3⟩
      have hJ3 := HJ2.out.next hb3
      have HJ3 := hide hJ3
      obtain ⟨z0, -, -, z3⟩ := def_cells hJ3.bx
      clear hb3 y0 y1 y2 y3 HR0 HJ2 hJ3
      go_wp2_with fail
      go_loopw [11, 12, 13] (fun vn va vi wr => wr = w3 /\ ∃ i : Nat, i <= q /\ vn = .string ⟨(nmsX i).toArray⟩ /\ va = .string ⟨(agsX i).toArray⟩ /\ vi = .int .i64 (i : Int)) (fun _ _ vi _ => q - (Go.RowKit.intOf vi).toNat)
      case atStart => exact ⟨rfl, 0, Nat.zero_le _, rfl, rfl, rfl⟩
      case round =>
        obtain ⟨rfl, i, hi2, rfl, rfl, rfl⟩ := hrel
        by_cases h2 : i < q
        . have HDG := hide (fun V => DG.out i V (by omega))
          have g1 := size_str (nmsX i)
          have g2 := size_str (agsX i)
          have g3 := size_str (Lib.itoa (i : Int))
          have g4 := (nms_len i (by omega))
          have g5 := (dg_size ⟨i, by omega⟩)
          simp only at g5
          by_cases h0 : 0 < i
          . have E1 := cat_str (nmsX i) [44, 32]
            have E2 := cat_str (nmsX i ++ [44, 32]) [110]
            have E3 := cat_str (nmsX i ++ [44, 32] ++ [110]) (Lib.itoa (i : Int))
            rw [← nms_succ i h0] at E3
            have F1 := cat_str (agsX i) [44, 32]
            have F2 := cat_str (agsX i ++ [44, 32]) [113, 91]
            have F3 := cat_str (agsX i ++ [44, 32] ++ [113, 91]) (Lib.itoa (i : Int))
            have F4 := cat_str (agsX i ++ [44, 32] ++ [113, 91] ++ Lib.itoa (i : Int)) [93]
            rw [← ags_succ i h0] at F4
            have e1 := size_str (nmsX i ++ [44, 32])
            have e2 := size_str (nmsX i ++ [44, 32] ++ [110])
            have f1 := size_str (agsX i ++ [44, 32])
            have f2 := size_str (agsX i ++ [44, 32] ++ [113, 91])
            have f3 := size_str (agsX i ++ [44, 32] ++ [113, 91] ++ Lib.itoa (i : Int))
            simp only [List.length_append, List.length_cons, List.length_nil] at e1 e2 f1 f2 f3
            have u0 : decide (0 < (i : Int)) = true := decide_eq_true (by omega)
            have u1 : decide (0 < i) = true := decide_eq_true h0
            generalize (⟨(nmsX i ++ [44, 32] ++ [110]).toArray⟩ : ByteArray) = NB2 at *
            generalize (⟨(nmsX i ++ [44, 32]).toArray⟩ : ByteArray) = NB1 at *
            generalize (⟨(nmsX i).toArray⟩ : ByteArray) = NB0 at *
            obtain ⟨NB3, hN3⟩ : ∃ x, (⟨(nmsX (i + 1)).toArray⟩ : ByteArray) = x := ⟨_, rfl⟩
            have HN3 := hide hN3
            rw [hN3] at E3
            clear hN3
            generalize (⟨(agsX i ++ [44, 32] ++ [113, 91] ++ Lib.itoa (i : Int)).toArray⟩ : ByteArray) = AB3 at *
            generalize (⟨(agsX i ++ [44, 32] ++ [113, 91]).toArray⟩ : ByteArray) = AB2 at *
            generalize (⟨(agsX i ++ [44, 32]).toArray⟩ : ByteArray) = AB1 at *
            generalize (⟨(agsX i).toArray⟩ : ByteArray) = AB0 at *
            obtain ⟨AB4, hA4⟩ : ∃ x, (⟨(agsX (i + 1)).toArray⟩ : ByteArray) = x := ⟨_, rfl⟩
            have HA4 := hide hA4
            rw [hA4] at F4
            clear hA4
            generalize (⟨(Lib.itoa (i : Int)).toArray⟩ : ByteArray) = DB at *
            generalize (nmsX i).length = ln at *
            generalize (agsX i).length = la at *
            generalize (Lib.itoa (i : Int)).length = li at *
            go_wp2_with (first | (go_at_call 8; (with_reducible refine Calls.mono (HDG.out _) ?_); rintro e v ⟨rfl, hv⟩; obtain rfl := hv.symm))
            exact ⟨⟨trivial, i + 1, by omega, by rw [HN3.out], by rw [HA4.out], by go_num⟩, by simp [Go.RowKit.intOf]; omega⟩
          . obtain rfl : i = 0 := by omega
            have E2 := cat_str (nmsX 0) [110]
            have E3 := cat_str (nmsX 0 ++ [110]) (Lib.itoa ((0 : Nat) : Int))
            rw [show nmsX 0 ++ [110] ++ Lib.itoa ((0 : Nat) : Int) = nmsX (0 + 1) from nms_one.symm] at E3
            have F2 := cat_str (agsX 0) [113, 91]
            have F3 := cat_str (agsX 0 ++ [113, 91]) (Lib.itoa ((0 : Nat) : Int))
            have F4 := cat_str (agsX 0 ++ [113, 91] ++ Lib.itoa ((0 : Nat) : Int)) [93]
            rw [show agsX 0 ++ [113, 91] ++ Lib.itoa ((0 : Nat) : Int) ++ [93] = agsX (0 + 1) from ags_one.symm] at F4
            have e2 := size_str (nmsX 0 ++ [110])
            have f2 := size_str (agsX 0 ++ [113, 91])
            have f3 := size_str (agsX 0 ++ [113, 91] ++ Lib.itoa ((0 : Nat) : Int))
            simp only [List.length_append, List.length_cons, List.length_nil] at e2 f2 f3
            generalize (⟨(nmsX 0 ++ [110]).toArray⟩ : ByteArray) = NB2 at *
            generalize (⟨(nmsX 0).toArray⟩ : ByteArray) = NB0 at *
            obtain ⟨NB3, hN3⟩ : ∃ x, (⟨(nmsX (0 + 1)).toArray⟩ : ByteArray) = x := ⟨_, rfl⟩
            have HN3 := hide hN3
            rw [hN3] at E3
            clear hN3
            generalize (⟨(agsX 0 ++ [113, 91] ++ Lib.itoa ((0 : Nat) : Int)).toArray⟩ : ByteArray) = AB3 at *
            generalize (⟨(agsX 0 ++ [113, 91]).toArray⟩ : ByteArray) = AB2 at *
            generalize (⟨(agsX 0).toArray⟩ : ByteArray) = AB0 at *
            obtain ⟨AB4, hA4⟩ : ∃ x, (⟨(agsX (0 + 1)).toArray⟩ : ByteArray) = x := ⟨_, rfl⟩
            have HA4 := hide hA4
            rw [hA4] at F4
            clear hA4
            generalize (⟨(Lib.itoa ((0 : Nat) : Int)).toArray⟩ : ByteArray) = DB at *
            generalize (nmsX 0).length = ln at *
            generalize (agsX 0).length = la at *
            generalize (Lib.itoa ((0 : Nat) : Int)).length = li at *
            go_wp2_with (first | (go_at_call 8; refine Calls.mono (HDG.out _) ?_; rintro e v ⟨rfl, hv⟩; obtain rfl := hv.symm))
            exact ⟨⟨trivial, 0 + 1, by omega, by rw [HN3.out], by rw [HA4.out], by go_num⟩, by simp [Go.RowKit.intOf]; omega⟩
        . obtain rfl : q = i := by omega
          have E1 := cat_str HD [103, 97, 116, 101, 32, 98, 108, 111, 99, 107, 32]
          have E2 := cat_str (HD ++ [103, 97, 116, 101, 32, 98, 108, 111, 99, 107, 32]) (nmsX q)
          have E3 := cat_str (HD ++ [103, 97, 116, 101, 32, 98, 108, 111, 99, 107, 32] ++ nmsX q) [32, 123, 32]
          have E4 := cat_str (HD ++ [103, 97, 116, 101, 32, 98, 108, 111, 99, 107, 32] ++ nmsX q ++ [32, 123, 32]) N3
          have E5 := cat_str (HD ++ [103, 97, 116, 101, 32, 98, 108, 111, 99, 107, 32] ++ nmsX q ++ [32, 123, 32] ++ N3) [125, 10, 98, 108, 111, 99, 107, 32]
          have E6 := cat_str (HD ++ [103, 97, 116, 101, 32, 98, 108, 111, 99, 107, 32] ++ nmsX q ++ [32, 123, 32] ++ N3 ++ [125, 10, 98, 108, 111, 99, 107, 32]) (agsX q)
          have E7 := cat_str (HD ++ [103, 97, 116, 101, 32, 98, 108, 111, 99, 107, 32] ++ nmsX q ++ [32, 123, 32] ++ N3 ++ [125, 10, 98, 108, 111, 99, 107, 32] ++ agsX q) [59, 10]
          rw [HTX.out] at E7
          have e1 := size_str (HD ++ [103, 97, 116, 101, 32, 98, 108, 111, 99, 107, 32])
          have e2 := size_str (HD ++ [103, 97, 116, 101, 32, 98, 108, 111, 99, 107, 32] ++ nmsX q)
          have e3 := size_str (HD ++ [103, 97, 116, 101, 32, 98, 108, 111, 99, 107, 32] ++ nmsX q ++ [32, 123, 32])
          have e4 := size_str (HD ++ [103, 97, 116, 101, 32, 98, 108, 111, 99, 107, 32] ++ nmsX q ++ [32, 123, 32] ++ N3)
          have e5 := size_str (HD ++ [103, 97, 116, 101, 32, 98, 108, 111, 99, 107, 32] ++ nmsX q ++ [32, 123, 32] ++ N3 ++ [125, 10, 98, 108, 111, 99, 107, 32])
          have e6 := size_str (HD ++ [103, 97, 116, 101, 32, 98, 108, 111, 99, 107, 32] ++ nmsX q ++ [32, 123, 32] ++ N3 ++ [125, 10, 98, 108, 111, 99, 107, 32] ++ agsX q)
          have g1 := size_str (nmsX q)
          have g2 := size_str (agsX q)
          simp only [List.length_append, List.length_cons, List.length_nil] at e1 e2 e3 e4 e5 e6
          have HNM := hide (fun V => NM.out V)
          have HPR := hide (PR.out wr HJ3.out.bel)
          clear NM PR HTX
          generalize (⟨(HD ++ [103, 97, 116, 101, 32, 98, 108, 111, 99, 107, 32] ++ nmsX q ++ [32, 123, 32] ++ N3 ++ [125, 10, 98, 108, 111, 99, 107, 32] ++ agsX q).toArray⟩ : ByteArray) = X6 at *
          generalize (⟨(HD ++ [103, 97, 116, 101, 32, 98, 108, 111, 99, 107, 32] ++ nmsX q ++ [32, 123, 32] ++ N3 ++ [125, 10, 98, 108, 111, 99, 107, 32]).toArray⟩ : ByteArray) = X5 at *
          generalize (⟨(HD ++ [103, 97, 116, 101, 32, 98, 108, 111, 99, 107, 32] ++ nmsX q ++ [32, 123, 32] ++ N3).toArray⟩ : ByteArray) = X4 at *
          generalize (⟨(HD ++ [103, 97, 116, 101, 32, 98, 108, 111, 99, 107, 32] ++ nmsX q ++ [32, 123, 32]).toArray⟩ : ByteArray) = X3 at *
          generalize (⟨(HD ++ [103, 97, 116, 101, 32, 98, 108, 111, 99, 107, 32] ++ nmsX q).toArray⟩ : ByteArray) = X2 at *
          generalize (⟨(HD ++ [103, 97, 116, 101, 32, 98, 108, 111, 99, 107, 32]).toArray⟩ : ByteArray) = X1 at *
          generalize (⟨HD.toArray⟩ : ByteArray) = X0 at *
          generalize (⟨N3.toArray⟩ : ByteArray) = NB at *
          generalize (⟨B3.toArray⟩ : ByteArray) = BB at *
          generalize (⟨TX.toArray⟩ : ByteArray) = TB at *
          generalize (⟨(nmsX q).toArray⟩ : ByteArray) = NQ at *
          generalize (⟨(agsX q).toArray⟩ : ByteArray) = AQ at *
          generalize (nmsX q).length = ln at *
          generalize (agsX q).length = la at *
          generalize HD.length = lh at *
          generalize N3.length = l3 at *
          go_wp2_with (first | (go_at_call 10; (with_reducible refine Calls.mono (HNM.out _) ?_); rintro e v ⟨rfl, hv⟩; obtain rfl := hv.symm))
          refine (HPR.out).mono ?_
          rintro e w4 ⟨co, kk, rfl, hC4, hb4⟩
          have hJ4 := HJ3.out.next hb4
          have hJ6 := (hJ4.next (bnew w4 (.cells #[.int .i64 (q : Int), .int .i64 0, .slice co dl.length kk] 24))).next (bnew _ (.cells #[.int .i64 0, .int .i64 0, .int .i64 0, .int .i64 0] 41))
          have hC6 := (hC4.below (bnew w4 (.cells #[.int .i64 (q : Int), .int .i64 0, .slice co dl.length kk] 24))).below (bnew _ (.cells #[.int .i64 0, .int .i64 0, .int .i64 0, .int .i64 0] 41))
          have HSM := hide (SM.out _ co kk bo j hC6 (cD.out _ bo dl.length j hJ6.row hJ6.bel))
          have HW6 := hide hJ6.bel
          obtain ⟨v0, v1, v2, v3⟩ := def_cells hJ6.dx
          clear hJ6 hC6 hC4 hb4 hJ4 HJ3 SM cD HPR
          go_wp2_with (first
            | (go_at_call 11; (with_reducible refine Calls.mono (HSM.out) ?_); rintro e w7 ⟨rfl, hb7⟩; have hw7 := bkp HW6.out hb7)
            | (go_at_call 6; (with_reducible refine Calls.mono (A1 _ hw7) ?_); rintro e w8 ⟨rfl, hb8⟩))
          go_ret
          exact ⟨rfl, bkp hw7 hb8⟩
theorem xCircuitDefines (c : Circ) (ao : Option Addr) (k : Nat) (w : World) (hA : AlOk) (hT : Tq w) (hC : Ci w c ao k) :
    Calls Tryz.prog 3 #[cV c ao k] w fun e w' => e = .returned (.bool true) /\ Below w.heap.size w w' := by
  by_cases h : (chkC c).2 ≠ 0 ∨ c.q = 0
  . exact xDefines_no c ao k h w hA hT hC
  . have h1 : (chkC c).2 = 0 := Classical.byContradiction fun e => h (.inl e)
    have h2 : c.q ≠ 0 := fun e => h (.inr e)
    obtain ⟨q0, -, -, -, -, -⟩ := chkC_ok h1
    obtain ⟨cq, b, ops⟩ := c
    simp only at *
    obtain ⟨q, rfl⟩ : ∃ q : Nat, cq = (q : Int) := ⟨cq.toNat, by omega⟩
    exact xDefines_ok q b ops ao k (by omega) h1 w hA hT hC
end Go.Proofs.YtnghfdnlcnocjaaGreatDoor.Cir
