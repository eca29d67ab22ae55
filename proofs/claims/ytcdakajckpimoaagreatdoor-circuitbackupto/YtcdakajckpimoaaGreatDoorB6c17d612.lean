import Derived.Test.YtcdakajckpimoaaGreatDoorB81479d58
import Derived.Test.YtcdakajckpimoaaGreatDoorB678068f5
import Derived.Test.YtcdakajckpimoaaGreatDoorBaed057c6
set_option maxRecDepth 100000
set_option maxHeartbeats 4000000
namespace Go.Proofs.YtcdakajckpimoaaGreatDoor.Cir
open Go.RowKit Go.Shelf Go.Proofs.YtcdakajckpimoaaGreatDoor.Oct Go.Proofs.YtcdakajckpimoaaGreatDoor.Tok Go.Proofs.YtcdakajckpimoaaGreatDoor.Gt
theorem bkp {w V U : World} (h1 : Below w.heap.size w V) (h2 : Below V.heap.size V U) : Below w.heap.size w U := h1.trans (h2.mono h1.size)
def AlOk : Prop := ∀ (w : World), Tq w -> Calls Tryz.prog 8 #[] w fun e w' => e = .returned (.bool true) /\ Below w.heap.size w w'
theorem cPar (l : List UInt8) (hl : l.length <= 1099511627776) (w : World) (hT : Tq w) : Calls Tryz.prog 6 #[str l] w (PPa l w) :=
  cParse l hl w hT.tx.tw hT.tb hT.te (fun _ h => scan_code h) (fun _ h => ⟨scan_fine h hl, fun _ _ _ => rsOk, fun _ _ _ => brOk⟩)
theorem cParC {l : List UInt8} {c : Circ} (hl : l.length <= 1099511627776) (hP : parP l = .ok c) (w : World) (hT : Tq w) : Calls Tryz.prog 6 #[str l] w fun e w' => ∃ ao k, e = .returned (.tuple #[.agg #[.int .i64 c.q, .int .i64 c.b, .slice ao c.ops.length k], .agg #[.int .i64 0, .int .i64 0, .int .i64 0, .int .i64 0]]) /\ Ci w' c ao k /\ Below w.heap.size w w' := by
  refine (cPar l hl w hT).mono ?_
  intro e w' h
  unfold PPa at h
  rw [hP] at h
  obtain ⟨hb, ao, k, rfl, ho⟩ := h
  have hi := par_iv hl hP
  exact ⟨ao, k, rfl, ⟨ho.rd.1, ho.rd.2, by omega, hi.2⟩, hb⟩
theorem cParB {l : List UInt8} {f : Flt} (hl : l.length <= 1099511627776) (hP : parP l = .bad f) (w : World) (hT : Tq w) : Calls Tryz.prog 6 #[str l] w fun e w' => e = .returned (.tuple #[.agg #[.int .i64 0, .int .i64 0, .slice none 0 0], .agg #[.int .i64 (f.code : Int), .int .i64 (f.off : Int), .int .i64 (f.line : Int), .int .i64 (f.col : Int)]]) /\ Below w.heap.size w w' := by
  refine (cPar l hl w hT).mono ?_
  intro e w' h
  unfold PPa at h
  rw [hP] at h
  exact ⟨h.2, h.1⟩
theorem neq_fault (a b c d : Nat) (h : a ≠ 0 ∨ 1 <= c) (w : World) : Sem.run Tryz.prog (binOp .neq 33 (.agg #[.int .i64 (a : Int), .int .i64 (b : Int), .int .i64 (c : Int), .int .i64 (d : Int)]) (.agg #[.int .i64 0, .int .i64 0, .int .i64 0, .int .i64 0])) w = .ok (.bool true) w := by
  cases a with
  | succ n => kernel_rfl
  | zero =>
    cases b with
    | succ m => kernel_rfl
    | zero =>
      obtain ⟨k, rfl⟩ : ∃ k, c = k + 1 := ⟨c - 1, by omega⟩
      kernel_rfl
theorem back_80 (c : Circ) (h : (chkC c).2 ≠ 0) : (chkC c).2 = 80 := by
  unfold chkC at h ⊢
  split
  . rfl
  . rename_i hn
    rw [if_neg hn] at h
    split
    . rfl
    . rename_i hb
      rw [hb] at h
      exact absurd rfl h
theorem prP_len {c : Circ} (hk : (chkC c).2 = 0) : (prP c).length <= 10000002 := by
  obtain ⟨q0, q1, b0, b1, hl, hmay⟩ := chkC_ok hk
  have hhd := hd_len c.q c.b (by unfold In64; omega) (by unfold In64; omega)
  have := join_le [59, 10] 2000 (lnP c) (fun x hx => by
    unfold lnP at hx
    rcases List.mem_append.1 hx with hx | hx
    . exact hhd.2 x hx
    . obtain ⟨o, ho, rfl⟩ := List.mem_map.1 hx
      have hm := may_in q0 q1 b1 (hmay o ho)
      exact wr_len o hm.1 hm.2.1 hm.2.2.1 hm.2.2.2.1 hm.2.2.2.2)
  have h2 : (lnP c).length <= 4100 := by unfold lnP; rw [List.length_append, List.length_map]; have := hhd.1; omega
  simp only [List.length_cons, List.length_nil] at this
  unfold prP
  rw [List.length_append]
  simp only [List.length_cons, List.length_nil]
  omega
theorem ci_none {V : World} : Ci V ⟨0, 0, []⟩ none 0 := ⟨.inl rfl, Nat.le_refl _, Nat.zero_le _, fun _ h => nomatch h⟩
theorem bNum (z : Int) (w : World) : Calls Tryz.prog 7 #[.int .i64 z] w fun e w' => e = .returned (.int .i64 z) /\ w' = w := by
  go_enter Tryz.func7, Tryz.ntmps7
  go_wp2_with fail
  go_ret
  exact ⟨rfl, rfl⟩
theorem chk_none : chkC ⟨0, 0, []⟩ = (0, 0) := by decide
theorem xBack_ok_may (c : Circ) (ao : Option Addr) (k : Nat) (l : List UInt8) (d : Circ) (hP : parP l = .ok d) (hk : (chkC c).2 = 0) (hl : l.length <= 1099511627776) (w : World) (hA : AlOk) (hT : Tq w) (hC : Ci w c ao k) :
    Calls Tryz.prog 3 #[cV c ao k, str l] w fun e w' => e = .returned (.bool true) /\ Below w.heap.size w w' := by
  have c1 := fun V (h : Below w.heap.size w V) => cCheck c ao k V (hT.below h).tb (hC.below h)
  rw [hk] at c1
  have c2 := fun V (h : Below w.heap.size w V) => cPrint c ao k hk V (hT.below h).tb (hT.below h).tx.ten (hC.below h)
  have c5 := fun V (h : Below w.heap.size w V) => cParC (l := prP c) (by have := prP_len hk; omega) (par_back hk) V (hT.below h)
  have S0 := fun (V : World) (bo : Option Addr) (j : Nat) (h : Below w.heap.size w V) (hD : Ci V c bo j) => cSame c c bo ao j k V hD (hC.below h)
  rw [decide_eq_true (rfl : c = c)] at S0
  unfold cV at S0
  have S1 := hide S0
  clear S0
  have P1 := fun V (h : Below w.heap.size w V) => cParC hl hP V (hT.below h)
  have D0 := fun (V : World) (bo : Option Addr) (j : Nat) (h : Below w.heap.size w V) (hD : Ci V d bo j) => cCheck d bo j V (hT.below h).tb hD
  rw [par_may hl hP] at D0
  unfold cV at D0
  simp only at D0
  have D1 := hide D0
  clear D0
  have A1 := fun V (h : Below w.heap.size w V) => hA V (hT.below h)
  unfold cV str at *
  generalize (⟨l.toArray⟩ : ByteArray) = sl at *
  generalize (⟨(prP c).toArray⟩ : ByteArray) = sp at *
  generalize (chkC c).1 = z1 at *
  obtain ⟨q, b, ops⟩ := c
  simp only at *
  generalize ops.length = n at *
  obtain ⟨dq, db, dops⟩ := d
  simp only at *
  generalize dops.length = dn at *
  clear hP hk hC hT
  have HK : Hid (∀ V, Below (w.alloc (.cells #[.int .i64 q, .int .i64 b, .slice ao n k] 24)).heap.size (w.alloc (.cells #[.int .i64 q, .int .i64 b, .slice ao n k] 24)) V -> V.cell? ⟨w.heap.size, 0, none⟩ = some (.int .i64 q) /\ V.cell? ⟨w.heap.size, 1, none⟩ = some (.int .i64 b) /\ V.cell? ⟨w.heap.size, 2, none⟩ = some (.slice ao n k) /\ w.heap.size < V.heap.size) := hide (fun V hV => def_cells ((hV.block w.heap.size (by simp)).trans (heap_alloc_new w _)))
  have HB0 := hide (bnew w (.cells #[.int .i64 q, .int .i64 b, .slice ao n k] 24))
  go_enter Tryz.func3, Tryz.ntmps3
  go_wp2_with fail
  refine (c1 _ HB0.out).mono ?_
  rintro e w1 ⟨rfl, hb1⟩
  obtain ⟨x0, x1, x2, x3⟩ := HK.out w1 hb1
  have hw1 := bkp HB0.out hb1
  go_wp2_with fail
  refine (c2 _ hw1).mono ?_
  rintro e w2 ⟨rfl, hb2⟩
  have hk2 := bkp hb1 hb2
  have hw2 := bkp hw1 hb2
  clear x0 x1 x2 x3 c1 c2 hw1 hb1
  go_wp2_with fail
  refine (P1 _ hw2).mono ?_
  rintro e w3 ⟨bo, j, rfl, hD3, hb3⟩
  have HD3 := hide ((hD3.below (bnew w3 (.cells #[.int .i64 dq, .int .i64 db, .slice bo dn j] 24))).below (bnew _ (.cells #[.int .i64 0, .int .i64 0, .int .i64 0, .int .i64 0] 33)))
  clear hD3
  have hk3 := bkp hk2 hb3
  have hw3 := bkp hw2 hb3
  have hk4 := bkp (bkp hk3 (bnew w3 (.cells #[.int .i64 dq, .int .i64 db, .slice bo dn j] 24))) (bnew _ (.cells #[.int .i64 0, .int .i64 0, .int .i64 0, .int .i64 0] 33))
  have hw4 := bkp (bkp hw3 (bnew w3 (.cells #[.int .i64 dq, .int .i64 db, .slice bo dn j] 24))) (bnew _ (.cells #[.int .i64 0, .int .i64 0, .int .i64 0, .int .i64 0] 33))
  clear P1 hb3 hb2 hk2 hw2
  go_wp2_with fail
  refine (D1.out _ bo j hw4 HD3.out).mono ?_
  rintro e w4 ⟨rfl, hb4⟩
  obtain ⟨m1, m2⟩ := may_keep hb4
  obtain ⟨y0, y1, y2, y3, y4⟩ := st4_cells m2
  obtain ⟨z0, z1', z2, z3⟩ := def_cells m1
  have hk5 := bkp hk4 hb4
  have hw5 := bkp hw4 hb4
  obtain ⟨x0, x1, x2, x3⟩ := HK.out w4 hk5
  clear m1 m2 hb4 hw4 hk4 D1
  have HX : Hid (∀ (w6 : World), Below w4.heap.size w4 w6 -> w6.cell? ⟨w.heap.size, 0, none⟩ = some (.int .i64 q) /\ w6.cell? ⟨w.heap.size, 1, none⟩ = some (.int .i64 b) /\ w6.cell? ⟨w.heap.size, 2, none⟩ = some (.slice ao n k) /\ w.heap.size < w6.heap.size) := hide (fun w6 h => HK.out w6 (bkp hk5 h))
  have HW : Hid (∀ (w6 : World) (X Y : Array Value), Below w.heap.size w w6 -> Below w.heap.size w ((w6.alloc (.cells X 24)).alloc (.cells Y 33))) := hide (fun w6 X Y h => bkp (bkp h (bnew _ _)) (bnew _ _))
  go_wp2_with (first
    | (go_at_call 7; (with_reducible refine Calls.mono (bNum _ _) ?_); rintro e v ⟨rfl, hv⟩; obtain rfl := hv.symm)
    | (go_at_call 6; (with_reducible refine Calls.mono (c5 _ hw5) ?_); rintro e w6 ⟨co, i, rfl, hD6, hb6⟩; obtain ⟨u0, u1, u2, u3⟩ := HX.out w6 hb6; have hw6 := bkp hw5 hb6; have HD6 := hide ((hD6.below (bnew w6 (.cells #[.int .i64 q, .int .i64 b, .slice co n i] 24))).below (bnew _ (.cells #[.int .i64 0, .int .i64 0, .int .i64 0, .int .i64 0] 33))); clear hD6 x0 x1 x2 x3 y0 y1 y2 y3 y4 z0 z1' z2 z3)
    | (go_at_call 9; (with_reducible refine Calls.mono (S1.out _ co i (HW.out w6 _ _ hw6) HD6.out) ?_); rintro e w7 ⟨rfl, hb7⟩; have hw7 := bkp (HW.out w6 _ _ hw6) hb7)
    | (go_at_call 8; (with_reducible refine Calls.mono (A1 _ hw7) ?_); rintro e w8 ⟨rfl, hb8⟩))
  go_ret
  exact ⟨rfl, bkp hw7 hb8⟩
theorem xBack_ok_not (c : Circ) (ao : Option Addr) (k : Nat) (l : List UInt8) (d : Circ) (hP : parP l = .ok d) (hk : (chkC c).2 ≠ 0) (hl : l.length <= 1099511627776) (w : World) (hA : AlOk) (hT : Tq w) (hC : Ci w c ao k) :
    Calls Tryz.prog 3 #[cV c ao k, str l] w fun e w' => e = .returned (.bool true) /\ Below w.heap.size w w' := by
  have c1 := fun V (h : Below w.heap.size w V) => cCheck c ao k V (hT.below h).tb (hC.below h)
  have c2 := fun V (h : Below w.heap.size w V) => cPrint_no c ao k hk V (hT.below h).tb (hC.below h)
  rw [back_80 c hk] at c1 c2
  have P1 := fun V (h : Below w.heap.size w V) => cParC hl hP V (hT.below h)
  have D0 := fun (V : World) (bo : Option Addr) (j : Nat) (h : Below w.heap.size w V) (hD : Ci V d bo j) => cCheck d bo j V (hT.below h).tb hD
  rw [par_may hl hP] at D0
  unfold cV at D0
  simp only at D0
  have D1 := hide D0
  clear D0
  have A1 := fun V (h : Below w.heap.size w V) => hA V (hT.below h)
  unfold cV str at *
  generalize (⟨l.toArray⟩ : ByteArray) = sl at *
  generalize (chkC c).1 = z1 at *
  obtain ⟨q, b, ops⟩ := c
  simp only at *
  generalize ops.length = n at *
  obtain ⟨dq, db, dops⟩ := d
  simp only at *
  generalize dops.length = dn at *
  clear hP hk hC hT
  have HK : Hid (∀ V, Below (w.alloc (.cells #[.int .i64 q, .int .i64 b, .slice ao n k] 24)).heap.size (w.alloc (.cells #[.int .i64 q, .int .i64 b, .slice ao n k] 24)) V -> V.cell? ⟨w.heap.size, 0, none⟩ = some (.int .i64 q) /\ V.cell? ⟨w.heap.size, 1, none⟩ = some (.int .i64 b) /\ V.cell? ⟨w.heap.size, 2, none⟩ = some (.slice ao n k) /\ w.heap.size < V.heap.size) := hide (fun V hV => def_cells ((hV.block w.heap.size (by simp)).trans (heap_alloc_new w _)))
  have HB0 := hide (bnew w (.cells #[.int .i64 q, .int .i64 b, .slice ao n k] 24))
  go_enter Tryz.func3, Tryz.ntmps3
  go_wp2_with fail
  refine (c1 _ HB0.out).mono ?_
  rintro e w1 ⟨rfl, hb1⟩
  obtain ⟨x0, x1, x2, x3⟩ := HK.out w1 hb1
  have hw1 := bkp HB0.out hb1
  go_wp2_with fail
  refine (c2 _ hw1).mono ?_
  rintro e w2 ⟨rfl, hb2⟩
  have hk2 := bkp hb1 hb2
  have hw2 := bkp hw1 hb2
  clear x0 x1 x2 x3 c1 c2 hw1 hb1
  go_wp2_with fail
  refine (P1 _ hw2).mono ?_
  rintro e w3 ⟨bo, j, rfl, hD3, hb3⟩
  have HD3 := hide ((hD3.below (bnew w3 (.cells #[.int .i64 dq, .int .i64 db, .slice bo dn j] 24))).below (bnew _ (.cells #[.int .i64 0, .int .i64 0, .int .i64 0, .int .i64 0] 33)))
  clear hD3
  have hk3 := bkp hk2 hb3
  have hw3 := bkp hw2 hb3
  have hk4 := bkp (bkp hk3 (bnew w3 (.cells #[.int .i64 dq, .int .i64 db, .slice bo dn j] 24))) (bnew _ (.cells #[.int .i64 0, .int .i64 0, .int .i64 0, .int .i64 0] 33))
  have hw4 := bkp (bkp hw3 (bnew w3 (.cells #[.int .i64 dq, .int .i64 db, .slice bo dn j] 24))) (bnew _ (.cells #[.int .i64 0, .int .i64 0, .int .i64 0, .int .i64 0] 33))
  clear P1 hb3 hb2 hk2 hw2
  go_wp2_with fail
  refine (D1.out _ bo j hw4 HD3.out).mono ?_
  rintro e w4 ⟨rfl, hb4⟩
  obtain ⟨m1, m2⟩ := may_keep hb4
  obtain ⟨y0, y1, y2, y3, y4⟩ := st4_cells m2
  obtain ⟨z0, z1', z2, z3⟩ := def_cells m1
  have hk5 := bkp hk4 hb4
  have hw5 := bkp hw4 hb4
  obtain ⟨x0, x1, x2, x3⟩ := HK.out w4 hk5
  clear m1 m2 hb4 hw4 hk4 D1
  go_wp2_with (first
    | (go_at_call 7; (with_reducible refine Calls.mono (bNum _ _) ?_); rintro e v ⟨rfl, hv⟩; obtain rfl := hv.symm)
    | (go_at_call 8; (with_reducible refine Calls.mono (A1 _ hw5) ?_); rintro e w8 ⟨rfl, hb8⟩))
  go_ret
  exact ⟨rfl, bkp hw5 hb8⟩
theorem xBack_no_may (c : Circ) (ao : Option Addr) (k : Nat) (l : List UInt8) (f : Flt) (hP : parP l = .bad f) (hk : (chkC c).2 = 0) (hl : l.length <= 1099511627776) (w : World) (hA : AlOk) (hT : Tq w) (hC : Ci w c ao k) :
    Calls Tryz.prog 3 #[cV c ao k, str l] w fun e w' => e = .returned (.bool true) /\ Below w.heap.size w w' := by
  have c1 := fun V (h : Below w.heap.size w V) => cCheck c ao k V (hT.below h).tb (hC.below h)
  rw [hk] at c1
  have c2 := fun V (h : Below w.heap.size w V) => cPrint c ao k hk V (hT.below h).tb (hT.below h).tx.ten (hC.below h)
  have c5 := fun V (h : Below w.heap.size w V) => cParC (l := prP c) (by have := prP_len hk; omega) (par_back hk) V (hT.below h)
  have S0 := fun (V : World) (bo : Option Addr) (j : Nat) (h : Below w.heap.size w V) (hD : Ci V c bo j) => cSame c c bo ao j k V hD (hC.below h)
  rw [decide_eq_true (rfl : c = c)] at S0
  unfold cV at S0
  have S1 := hide S0
  clear S0
  have P1 := fun V (h : Below w.heap.size w V) => cParB hl hP V (hT.below h)
  have D0 := fun (V : World) (h : Below w.heap.size w V) => cCheck ⟨0, 0, []⟩ none 0 V (hT.below h).tb ci_none
  rw [chk_none] at D0
  unfold cV at D0
  simp only [List.length_nil] at D0
  have D1 := hide D0
  clear D0
  have hbd := par_bad hl hP
  obtain ⟨code, off, line, col⟩ := f
  simp only at *
  have hN := fun V => neq_fault code off line col hbd V
  clear hbd
  have A1 := fun V (h : Below w.heap.size w V) => hA V (hT.below h)
  unfold cV str at *
  generalize (⟨l.toArray⟩ : ByteArray) = sl at *
  generalize (⟨(prP c).toArray⟩ : ByteArray) = sp at *
  generalize (chkC c).1 = z1 at *
  obtain ⟨q, b, ops⟩ := c
  simp only at *
  generalize ops.length = n at *
  clear hP hk hC hT
  have HK : Hid (∀ V, Below (w.alloc (.cells #[.int .i64 q, .int .i64 b, .slice ao n k] 24)).heap.size (w.alloc (.cells #[.int .i64 q, .int .i64 b, .slice ao n k] 24)) V -> V.cell? ⟨w.heap.size, 0, none⟩ = some (.int .i64 q) /\ V.cell? ⟨w.heap.size, 1, none⟩ = some (.int .i64 b) /\ V.cell? ⟨w.heap.size, 2, none⟩ = some (.slice ao n k) /\ w.heap.size < V.heap.size) := hide (fun V hV => def_cells ((hV.block w.heap.size (by simp)).trans (heap_alloc_new w _)))
  have HB0 := hide (bnew w (.cells #[.int .i64 q, .int .i64 b, .slice ao n k] 24))
  go_enter Tryz.func3, Tryz.ntmps3
  go_wp2_with fail
  refine (c1 _ HB0.out).mono ?_
  rintro e w1 ⟨rfl, hb1⟩
  obtain ⟨x0, x1, x2, x3⟩ := HK.out w1 hb1
  have hw1 := bkp HB0.out hb1
  go_wp2_with fail
  refine (c2 _ hw1).mono ?_
  rintro e w2 ⟨rfl, hb2⟩
  have hk2 := bkp hb1 hb2
  have hw2 := bkp hw1 hb2
  clear x0 x1 x2 x3 c1 c2 hw1 hb1
  go_wp2_with fail
  refine (P1 _ hw2).mono ?_
  rintro e w3 ⟨rfl, hb3⟩
  have hk3 := bkp hk2 hb3
  have hw3 := bkp hw2 hb3
  have hk4 := bkp (bkp hk3 (bnew w3 (.cells #[.int .i64 0, .int .i64 0, .slice none 0 0] 24))) (bnew _ (.cells #[.int .i64 (code : Int), .int .i64 (off : Int), .int .i64 (line : Int), .int .i64 (col : Int)] 33))
  have hw4 := bkp (bkp hw3 (bnew w3 (.cells #[.int .i64 0, .int .i64 0, .slice none 0 0] 24))) (bnew _ (.cells #[.int .i64 (code : Int), .int .i64 (off : Int), .int .i64 (line : Int), .int .i64 (col : Int)] 33))
  clear P1 hb3 hb2 hk2 hw2
  go_wp2_with fail
  refine (D1.out _ hw4).mono ?_
  rintro e w4 ⟨rfl, hb4⟩
  obtain ⟨m1, m2⟩ := may_keep hb4
  obtain ⟨y0, y1, y2, y3, y4⟩ := st4_cells m2
  obtain ⟨z0, z1', z2, z3⟩ := def_cells m1
  have hk5 := bkp hk4 hb4
  have hw5 := bkp hw4 hb4
  obtain ⟨x0, x1, x2, x3⟩ := HK.out w4 hk5
  clear m1 m2 hb4 hw4 hk4 D1
  have HX : Hid (∀ (w6 : World), Below w4.heap.size w4 w6 -> w6.cell? ⟨w.heap.size, 0, none⟩ = some (.int .i64 q) /\ w6.cell? ⟨w.heap.size, 1, none⟩ = some (.int .i64 b) /\ w6.cell? ⟨w.heap.size, 2, none⟩ = some (.slice ao n k) /\ w.heap.size < w6.heap.size) := hide (fun w6 h => HK.out w6 (bkp hk5 h))
  have HW : Hid (∀ (w6 : World) (X Y : Array Value), Below w.heap.size w w6 -> Below w.heap.size w ((w6.alloc (.cells X 24)).alloc (.cells Y 33))) := hide (fun w6 X Y h => bkp (bkp h (bnew _ _)) (bnew _ _))
  go_wp2_with (first
    | (go_at_call 7; (with_reducible refine Calls.mono (bNum _ _) ?_); rintro e v ⟨rfl, hv⟩; obtain rfl := hv.symm)
    | (go_at_call 6; (with_reducible refine Calls.mono (c5 _ hw5) ?_); rintro e w6 ⟨co, i, rfl, hD6, hb6⟩; obtain ⟨u0, u1, u2, u3⟩ := HX.out w6 hb6; have hw6 := bkp hw5 hb6; have HD6 := hide ((hD6.below (bnew w6 (.cells #[.int .i64 q, .int .i64 b, .slice co n i] 24))).below (bnew _ (.cells #[.int .i64 0, .int .i64 0, .int .i64 0, .int .i64 0] 33))); clear hD6 x0 x1 x2 x3 y0 y1 y2 y3 y4 z0 z1' z2 z3)
    | (go_at_call 9; (with_reducible refine Calls.mono (S1.out _ co i (HW.out w6 _ _ hw6) HD6.out) ?_); rintro e w7 ⟨rfl, hb7⟩; have hw7 := bkp (HW.out w6 _ _ hw6) hb7)
    | (go_at_call 8; (with_reducible refine Calls.mono (A1 _ hw7) ?_); rintro e w8 ⟨rfl, hb8⟩))
  go_ret
  exact ⟨rfl, bkp hw7 hb8⟩
theorem xBack_no_not (c : Circ) (ao : Option Addr) (k : Nat) (l : List UInt8) (f : Flt) (hP : parP l = .bad f) (hk : (chkC c).2 ≠ 0) (hl : l.length <= 1099511627776) (w : World) (hA : AlOk) (hT : Tq w) (hC : Ci w c ao k) :
    Calls Tryz.prog 3 #[cV c ao k, str l] w fun e w' => e = .returned (.bool true) /\ Below w.heap.size w w' := by
  have c1 := fun V (h : Below w.heap.size w V) => cCheck c ao k V (hT.below h).tb (hC.below h)
  have c2 := fun V (h : Below w.heap.size w V) => cPrint_no c ao k hk V (hT.below h).tb (hC.below h)
  rw [back_80 c hk] at c1 c2
  have P1 := fun V (h : Below w.heap.size w V) => cParB hl hP V (hT.below h)
  have D0 := fun (V : World) (h : Below w.heap.size w V) => cCheck ⟨0, 0, []⟩ none 0 V (hT.below h).tb ci_none
  rw [chk_none] at D0
  unfold cV at D0
  simp only [List.length_nil] at D0
  have D1 := hide D0
  clear D0
  have hbd := par_bad hl hP
  obtain ⟨code, off, line, col⟩ := f
  simp only at *
  have hN := fun V => neq_fault code off line col hbd V
  clear hbd
  have A1 := fun V (h : Below w.heap.size w V) => hA V (hT.below h)
  unfold cV str at *
  generalize (⟨l.toArray⟩ : ByteArray) = sl at *
  generalize (chkC c).1 = z1 at *
  obtain ⟨q, b, ops⟩ := c
  simp only at *
  generalize ops.length = n at *
  clear hP hk hC hT
  have HK : Hid (∀ V, Below (w.alloc (.cells #[.int .i64 q, .int .i64 b, .slice ao n k] 24)).heap.size (w.alloc (.cells #[.int .i64 q, .int .i64 b, .slice ao n k] 24)) V -> V.cell? ⟨w.heap.size, 0, none⟩ = some (.int .i64 q) /\ V.cell? ⟨w.heap.size, 1, none⟩ = some (.int .i64 b) /\ V.cell? ⟨w.heap.size, 2, none⟩ = some (.slice ao n k) /\ w.heap.size < V.heap.size) := hide (fun V hV => def_cells ((hV.block w.heap.size (by simp)).trans (heap_alloc_new w _)))
  have HB0 := hide (bnew w (.cells #[.int .i64 q, .int .i64 b, .slice ao n k] 24))
  go_enter Tryz.func3, Tryz.ntmps3
  go_wp2_with fail
  refine (c1 _ HB0.out).mono ?_
  rintro e w1 ⟨rfl, hb1⟩
  obtain ⟨x0, x1, x2, x3⟩ := HK.out w1 hb1
  have hw1 := bkp HB0.out hb1
  go_wp2_with fail
  refine (c2 _ hw1).mono ?_
  rintro e w2 ⟨rfl, hb2⟩
  have hk2 := bkp hb1 hb2
  have hw2 := bkp hw1 hb2
  clear x0 x1 x2 x3 c1 c2 hw1 hb1
  go_wp2_with fail
  refine (P1 _ hw2).mono ?_
  rintro e w3 ⟨rfl, hb3⟩
  have hk3 := bkp hk2 hb3
  have hw3 := bkp hw2 hb3
  have hk4 := bkp (bkp hk3 (bnew w3 (.cells #[.int .i64 0, .int .i64 0, .slice none 0 0] 24))) (bnew _ (.cells #[.int .i64 (code : Int), .int .i64 (off : Int), .int .i64 (line : Int), .int .i64 (col : Int)] 33))
  have hw4 := bkp (bkp hw3 (bnew w3 (.cells #[.int .i64 0, .int .i64 0, .slice none 0 0] 24))) (bnew _ (.cells #[.int .i64 (code : Int), .int .i64 (off : Int), .int .i64 (line : Int), .int .i64 (col : Int)] 33))
  clear P1 hb3 hb2 hk2 hw2
  go_wp2_with fail
  refine (D1.out _ hw4).mono ?_
  rintro e w4 ⟨rfl, hb4⟩
  obtain ⟨m1, m2⟩ := may_keep hb4
  obtain ⟨y0, y1, y2, y3, y4⟩ := st4_cells m2
  obtain ⟨z0, z1', z2, z3⟩ := def_cells m1
  have hk5 := bkp hk4 hb4
  have hw5 := bkp hw4 hb4
  obtain ⟨x0, x1, x2, x3⟩ := HK.out w4 hk5
  clear m1 m2 hb4 hw4 hk4 D1
  go_wp2_with (first
    | (go_at_call 7; (with_reducible refine Calls.mono (bNum _ _) ?_); rintro e v ⟨rfl, hv⟩; obtain rfl := hv.symm)
    | (go_at_call 8; (with_reducible refine Calls.mono (A1 _ hw5) ?_); rintro e w8 ⟨rfl, hb8⟩))
  go_ret
  exact ⟨rfl, bkp hw5 hb8⟩
theorem xCircuitBack (c : Circ) (ao : Option Addr) (k : Nat) (l : List UInt8) (hl : l.length <= 1099511627776) (w : World) (hA : AlOk) (hT : Tq w) (hC : Ci w c ao k) :
    Calls Tryz.prog 3 #[cV c ao k, str l] w fun e w' => e = .returned (.bool true) /\ Below w.heap.size w w' := by
  cases hP : parP l with
  | ok d =>
    by_cases hk : (chkC c).2 = 0
    . exact xBack_ok_may c ao k l d hP hk hl w hA hT hC
    . exact xBack_ok_not c ao k l d hP hk hl w hA hT hC
  | bad f =>
    by_cases hk : (chkC c).2 = 0
    . exact xBack_no_may c ao k l f hP hk hl w hA hT hC
    . exact xBack_no_not c ao k l f hP hk hl w hA hT hC
end Go.Proofs.YtcdakajckpimoaaGreatDoor.Cir
