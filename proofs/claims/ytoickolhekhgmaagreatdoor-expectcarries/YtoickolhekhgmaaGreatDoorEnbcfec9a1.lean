import Derived.Test.YtoickolhekhgmaaGreatDoorEn82a82d3d
import Derived.Test.YtoickolhekhgmaaGreatDoorEn4231915e
namespace Go.Proofs.YtoickolhekhgmaaGreatDoor.Cir
end Go.Proofs.YtoickolhekhgmaaGreatDoor.Cir
namespace Go.Proofs.YtoickolhekhgmaaGreatDoor.Gt
end Go.Proofs.YtoickolhekhgmaaGreatDoor.Gt
namespace Go.Proofs.YtoickolhekhgmaaGreatDoor.Oct
end Go.Proofs.YtoickolhekhgmaaGreatDoor.Oct
namespace Go.Proofs.YtoickolhekhgmaaGreatDoor.Pau
end Go.Proofs.YtoickolhekhgmaaGreatDoor.Pau
namespace Go.Proofs.YtoickolhekhgmaaGreatDoor.Tok
end Go.Proofs.YtoickolhekhgmaaGreatDoor.Tok
set_option maxRecDepth 100000
set_option maxHeartbeats 2000000
namespace Go.Proofs.YtoickolhekhgmaaGreatDoor.Exp
open Go.RowKit Go.Shelf Go.Proofs.YtoickolhekhgmaaGreatDoor.Oct Go.Proofs.YtoickolhekhgmaaGreatDoor.Tok Go.Proofs.YtoickolhekhgmaaGreatDoor.Gt Go.Proofs.YtoickolhekhgmaaGreatDoor.Cir
open Go.Proofs.YtoickolhekhgmaaGreatDoor.Pau (P pV oP Wd rt thrR pThrough pCheck ck At4 Ts Ti bkp)
def fwS (p : P) (o : COp) : P := if o.kind = 1 then (thrR o.gate o.qs p).1 else p
def bwS (p : P) (o : COp) : P := if o.kind = 1 then (thrR (rw' o.gate).v o.qs p).1 else p
def fw (ops : List COp) (p : P) : P := ops.foldl fwS p
def bw (ops : List COp) (p : P) : P := ops.reverse.foldl bwS p
theorem fw_take (ops : List COp) (p : P) (i : Nat) (o : COp) (h : ops[i]? = some o) : fw (ops.take (i + 1)) p = fwS (fw (ops.take i) p) o := by
  unfold fw
  rw [List.take_add_one, h, List.foldl_append]
  rfl
theorem wd_fw : ∀ (ops : List COp) (p : P), Wd p -> Wd (fw ops p)
  | [], _, h => h
  | o :: r, p, h => by
    change Wd (fw r (fwS p o))
    refine wd_fw r _ ?_
    unfold fwS
    split
    . exact Tbl.wd_thr _ _ h
    . exact h
theorem wd_bwS (p : P) (o : COp) (h : Wd p) : Wd (bwS p o) := by
  unfold bwS
  split
  . exact Tbl.wd_thr _ _ h
  . exact h
theorem wd_bw : ∀ (ops : List COp) (p : P), Wd p -> Wd (ops.foldl bwS p)
  | [], _, h => h
  | o :: r, p, h => wd_bw r _ (wd_bwS p o h)
def stk (c : Circ) (p : P) : Int := if (chkC c).2 ≠ 0 then 80 else if c.ops.any unO = true ∨ c.ops.any clO = true then 220 else if rt p = true /\ p.n = c.q then 0 else 130
def fwR (c : Circ) (p : P) : P × Int := if stk c p = 0 then (fw c.ops p, 0) else (oP, stk c p)
def bwR (c : Circ) (p : P) : P × Int := if stk c p = 0 then (bw c.ops p, 0) else (oP, stk c p)
theorem chk_two (c : Circ) : (chkC c).2 = 0 ∨ (chkC c).2 = 80 := by
  unfold chkC
  split
  . exact .inr rfl
  . split
    . exact .inr rfl
    . exact .inl rfl
theorem stk_ok {c : Circ} {p : P} (h : stk c p = 0) : (chkC c).2 = 0 := by
  unfold stk at h
  split at h
  . cases h
  . rename_i h1
    exact Classical.not_not.1 h1
structure BX (w : World) (g : Nat) (q b : Int) (ao : Option Addr) (n k : Nat) (x0 x1 x2 x3 : Value) : Prop where
  c : w.heap[g]? = some (.cells #[.int .i64 q, .int .i64 b, .slice ao n k] 24 (0, 0))
  p : At4 w (g + 1) x0 x1 x2 x3
theorem BX.below {w w' : World} {g : Nat} {q b : Int} {ao : Option Addr} {n k : Nat} {x0 x1 x2 x3 : Value} (h : BX w g q b ao n k x0 x1 x2 x3) (hb : Below w.heap.size w w') : BX w' g q b ao n k x0 x1 x2 x3 :=
  ⟨(hb.block _ (Array.getElem?_eq_some_iff.1 h.c).1).trans h.c, h.p.below hb⟩
theorem BX.new (w : World) (q b : Int) (ao : Option Addr) (n k : Nat) (x0 x1 x2 x3 : Value) : BX ((w.alloc (.cells #[.int .i64 q, .int .i64 b, .slice ao n k] 24)).alloc (.cells #[x0, x1, x2, x3] 27)) w.heap.size q b ao n k x0 x1 x2 x3 := by
  refine ⟨(Below.heap_alloc _ _ _ (by simp)).trans (heap_alloc_new _ _), ?_⟩
  have := heap_alloc_new (w.alloc (.cells #[.int .i64 q, .int .i64 b, .slice ao n k] 24)) (.cells #[x0, x1, x2, x3] 27)
  rw [World.size_alloc] at this
  exact this
theorem BX.cells {w : World} {g : Nat} {q b : Int} {ao : Option Addr} {n k : Nat} {x0 x1 x2 x3 : Value} (h : BX w g q b ao n k x0 x1 x2 x3) : w.cell? ⟨g, 0, none⟩ = some (.int .i64 q) /\ w.cell? ⟨g, 1, none⟩ = some (.int .i64 b) /\ w.cell? ⟨g, 2, none⟩ = some (.slice ao n k) /\
    w.cell? ⟨g + 1, 0, none⟩ = some x0 /\ w.cell? ⟨g + 1, 1, none⟩ = some x1 /\ w.cell? ⟨g + 1, 2, none⟩ = some x2 /\ w.cell? ⟨g + 1, 3, none⟩ = some x3 /\ g + 1 < w.heap.size := by
  obtain ⟨a0, a1, a2, -⟩ := def_cells h.c
  obtain ⟨b0, b1, b2, b3, b4⟩ := h.p.cells
  exact ⟨a0, a1, a2, b0, b1, b2, b3, b4⟩
theorem BX.bel (w : World) (q b : Int) (ao : Option Addr) (n k : Nat) (x0 x1 x2 x3 : Value) : Below w.heap.size w ((w.alloc (.cells #[.int .i64 q, .int .i64 b, .slice ao n k] 24)).alloc (.cells #[x0, x1, x2, x3] 27)) :=
  (bnew _ _).trans ((bnew _ _).mono (by simp))
theorem xStuck (c : Circ) (ao : Option Addr) (k : Nat) (p : P) (hp : Wd p) (w : World) (hT : Tb w) (hC : Ci w c ao k) : Calls Tryz.prog 12 #[cV c ao k, pV p] w fun e w' => e = .returned (.int .i64 (stk c p)) /\ Below w.heap.size w w' := by
  have c1 := fun V (h : Below w.heap.size w V) => cCheck c ao k V (hT.below h) (hC.below h)
  have c2 := fun V (h : Below w.heap.size w V) => cUnitary c ao k V (hC.below h)
  have c3 := fun V (h : Below w.heap.size w V) => cClifford c ao k V (hT.below h) (hC.below h)
  have c4 := fun W => pCheck p hp W
  have hE := chk_two c
  have HS : Hid (stk c p = if (chkC c).2 ≠ 0 then 80 else if c.ops.any unO = true ∨ c.ops.any clO = true then 220 else if rt p = true /\ p.n = c.q then 0 else 130) := hide rfl
  generalize stk c p = R at *
  have HK : Hid (ck p = if rt p = true then 0 else 130) := hide rfl
  generalize ck p = K at *
  generalize rt p = r at *
  generalize chkC c = E at *
  obtain ⟨E1, E2⟩ := E
  obtain ⟨q, b, ops⟩ := c
  obtain ⟨pn, px, pz, pp⟩ := p
  unfold cV pV at *
  simp only at *
  generalize ops.any unO = U at *
  generalize ops.any clO = L at *
  generalize ops.length = n at *
  have hx0 := BX.new w q b ao n k (.int .i64 pn) (.int .u64 (px : Int)) (.int .u64 (pz : Int)) (.int .i64 pp)
  have hB0 := BX.bel w q b ao n k (.int .i64 pn) (.int .u64 (px : Int)) (.int .u64 (pz : Int)) (.int .i64 pp)
  clear hT hC hp
  rcases hE with rfl | rfl
  . simp only [ne_eq, not_true_eq_false, if_false] at HS
    obtain ⟨x0, x1, x2, x3, x4, x5, x6, x7⟩ := hx0.cells
    have HX0 := hide hx0
    have HB0 := hide hB0
    clear hx0 hB0
    cases U with
    | true =>
      obtain rfl : R = 220 := by simpa using HS.out
      clear HS
      go_enter Tryz.func12, Tryz.ntmps12
      go_wp2_with (first
        | (go_at_call 30; refine (c1 _ HB0.out).mono ?_; rintro e w2 ⟨rfl, hb2⟩; have HB2 := hide (bkp HB0.out hb2); have HX2 := hide (HX0.out.below hb2); clear x0 x1 x2 x3 x4 x5 x6 x7 hb2 HB0 HX0 c1; obtain ⟨x0, x1, x2, x3, x4, x5, x6, x7⟩ := HX2.out.cells)
        | (go_at_call 31; refine (c2 _ HB2.out).mono ?_; rintro e w3 ⟨rfl, hb3⟩; have HB3 := hide (bkp HB2.out hb3)))
      go_ret
      exact ⟨rfl, HB3.out⟩
    | false =>
      cases L with
      | true =>
        obtain rfl : R = 220 := by simpa using HS.out
        clear HS
        go_enter Tryz.func12, Tryz.ntmps12
        go_wp2_with (first
          | (go_at_call 30; refine (c1 _ HB0.out).mono ?_; rintro e w2 ⟨rfl, hb2⟩; have HB2 := hide (bkp HB0.out hb2); have HX2 := hide (HX0.out.below hb2); clear x0 x1 x2 x3 x4 x5 x6 x7 hb2 HB0 HX0 c1; obtain ⟨x0, x1, x2, x3, x4, x5, x6, x7⟩ := HX2.out.cells)
          | (go_at_call 31; refine (c2 _ HB2.out).mono ?_; rintro e w3 ⟨rfl, hb3⟩; have HB3 := hide (bkp HB2.out hb3); have HX3 := hide (HX2.out.below hb3); clear x0 x1 x2 x3 x4 x5 x6 x7 hb3 HB2 HX2 c2; obtain ⟨x0, x1, x2, x3, x4, x5, x6, x7⟩ := HX3.out.cells)
          | (go_at_call 32; refine (c3 _ HB3.out).mono ?_; rintro e w4 ⟨rfl, hb4⟩; have HB4 := hide (bkp HB3.out hb4)))
        go_ret
        exact ⟨rfl, HB4.out⟩
      | false =>
        cases r with
        | false =>
          obtain rfl : K = 130 := by simpa using HK.out
          obtain rfl : R = 130 := by simpa using HS.out
          clear HK HS
          go_enter Tryz.func12, Tryz.ntmps12
          go_wp2_with (first
            | (go_at_call 30; refine (c1 _ HB0.out).mono ?_; rintro e w2 ⟨rfl, hb2⟩; have HB2 := hide (bkp HB0.out hb2); have HX2 := hide (HX0.out.below hb2); clear x0 x1 x2 x3 x4 x5 x6 x7 hb2 HB0 HX0 c1; obtain ⟨x0, x1, x2, x3, x4, x5, x6, x7⟩ := HX2.out.cells)
            | (go_at_call 31; refine (c2 _ HB2.out).mono ?_; rintro e w3 ⟨rfl, hb3⟩; have HB3 := hide (bkp HB2.out hb3); have HX3 := hide (HX2.out.below hb3); clear x0 x1 x2 x3 x4 x5 x6 x7 hb3 HB2 HX2 c2; obtain ⟨x0, x1, x2, x3, x4, x5, x6, x7⟩ := HX3.out.cells)
            | (go_at_call 32; refine (c3 _ HB3.out).mono ?_; rintro e w4 ⟨rfl, hb4⟩; have HB4 := hide (bkp HB3.out hb4); have HX4 := hide (HX3.out.below hb4); clear x0 x1 x2 x3 x4 x5 x6 x7 hb4 HB3 HX3 c3; obtain ⟨x0, x1, x2, x3, x4, x5, x6, x7⟩ := HX4.out.cells)
            | (go_at_call 33; refine (c4 _).mono ?_; rintro e w5 ⟨rfl, hb5⟩; have HB5 := hide (bkp HB4.out hb5)))
          go_ret
          exact ⟨rfl, HB5.out⟩
        | true =>
          obtain rfl : K = 0 := by simpa using HK.out
          have hq : (pn != q) = !decide (pn = q) := by
            by_cases h : pn = q <;> simp [h]
          have HRes : Hid (R = if decide (pn = q) = true then 0 else 130) := hide (by rw [HS.out]; simp)
          generalize decide (pn = q) = dq at *
          clear HK HS
          cases dq with
          | true =>
            simp only [Bool.not_true] at hq
            obtain rfl : R = 0 := HRes.out
            clear HRes
            go_enter Tryz.func12, Tryz.ntmps12
            go_wp2_with (first
              | (go_at_call 30; refine (c1 _ HB0.out).mono ?_; rintro e w2 ⟨rfl, hb2⟩; have HB2 := hide (bkp HB0.out hb2); have HX2 := hide (HX0.out.below hb2); clear x0 x1 x2 x3 x4 x5 x6 x7 hb2 HB0 HX0 c1; obtain ⟨x0, x1, x2, x3, x4, x5, x6, x7⟩ := HX2.out.cells)
              | (go_at_call 31; refine (c2 _ HB2.out).mono ?_; rintro e w3 ⟨rfl, hb3⟩; have HB3 := hide (bkp HB2.out hb3); have HX3 := hide (HX2.out.below hb3); clear x0 x1 x2 x3 x4 x5 x6 x7 hb3 HB2 HX2 c2; obtain ⟨x0, x1, x2, x3, x4, x5, x6, x7⟩ := HX3.out.cells)
              | (go_at_call 32; refine (c3 _ HB3.out).mono ?_; rintro e w4 ⟨rfl, hb4⟩; have HB4 := hide (bkp HB3.out hb4); have HX4 := hide (HX3.out.below hb4); clear x0 x1 x2 x3 x4 x5 x6 x7 hb4 HB3 HX3 c3; obtain ⟨x0, x1, x2, x3, x4, x5, x6, x7⟩ := HX4.out.cells)
              | (go_at_call 33; refine (c4 _).mono ?_; rintro e w5 ⟨rfl, hb5⟩; have HB5 := hide (bkp HB4.out hb5); have HX5 := hide (HX4.out.below hb5); clear x0 x1 x2 x3 x4 x5 x6 x7 hb5 HB4 HX4 c4; obtain ⟨x0, x1, x2, x3, x4, x5, x6, x7⟩ := HX5.out.cells))
            go_ret
            exact ⟨rfl, HB5.out⟩
          | false =>
            simp only [Bool.not_false] at hq
            obtain rfl : R = 130 := by simpa using HRes.out
            clear HRes
            go_enter Tryz.func12, Tryz.ntmps12
            go_wp2_with (first
              | (go_at_call 30; refine (c1 _ HB0.out).mono ?_; rintro e w2 ⟨rfl, hb2⟩; have HB2 := hide (bkp HB0.out hb2); have HX2 := hide (HX0.out.below hb2); clear x0 x1 x2 x3 x4 x5 x6 x7 hb2 HB0 HX0 c1; obtain ⟨x0, x1, x2, x3, x4, x5, x6, x7⟩ := HX2.out.cells)
              | (go_at_call 31; refine (c2 _ HB2.out).mono ?_; rintro e w3 ⟨rfl, hb3⟩; have HB3 := hide (bkp HB2.out hb3); have HX3 := hide (HX2.out.below hb3); clear x0 x1 x2 x3 x4 x5 x6 x7 hb3 HB2 HX2 c2; obtain ⟨x0, x1, x2, x3, x4, x5, x6, x7⟩ := HX3.out.cells)
              | (go_at_call 32; refine (c3 _ HB3.out).mono ?_; rintro e w4 ⟨rfl, hb4⟩; have HB4 := hide (bkp HB3.out hb4); have HX4 := hide (HX3.out.below hb4); clear x0 x1 x2 x3 x4 x5 x6 x7 hb4 HB3 HX3 c3; obtain ⟨x0, x1, x2, x3, x4, x5, x6, x7⟩ := HX4.out.cells)
              | (go_at_call 33; refine (c4 _).mono ?_; rintro e w5 ⟨rfl, hb5⟩; have HB5 := hide (bkp HB4.out hb5); have HX5 := hide (HX4.out.below hb5); clear x0 x1 x2 x3 x4 x5 x6 x7 hb5 HB4 HX4 c4; obtain ⟨x0, x1, x2, x3, x4, x5, x6, x7⟩ := HX5.out.cells))
            go_ret
            exact ⟨rfl, HB5.out⟩
  . obtain rfl : R = 80 := by simpa using HS.out
    clear HS
    obtain ⟨x0, x1, x2, x3, x4, x5, x6, x7⟩ := hx0.cells
    have HB0 := hide hB0
    clear hB0 hx0
    go_enter Tryz.func12, Tryz.ntmps12
    go_wp2_with (go_at_call 30; refine (c1 _ HB0.out).mono ?_; rintro e w2 ⟨rfl, hb2⟩; have HB2 := hide (bkp HB0.out hb2); clear hb2 c1)
    go_ret
    exact ⟨rfl, HB2.out⟩
open Go.Proofs.YtoickolhekhgmaaGreatDoor.Pau (P pV oP Wd rt thrR pThrough pCheck ck At4 Ts Ti bkp)
structure FI (w : World) (q : P) (W : World) : Prop where
  bel : Below w.heap.size w W
  p : At4 W (w.heap.size + 1) (.int .i64 q.n) (.int .u64 (q.x : Int)) (.int .u64 (q.z : Int)) (.int .i64 q.ph)
  z : At4 W (w.heap.size + 2) (.int .i64 0) (.int .u64 0) (.int .u64 0) (.int .i64 0)
theorem FI.below {w : World} {q : P} {W V : World} (h : FI w q W) (hb : Below W.heap.size W V) : FI w q V := ⟨bkp h.bel hb, h.p.below hb, h.z.below hb⟩
theorem FI.set {w : World} {q : P} {W : World} (h : FI w q W) (r : P) : FI w r (W.setRow (w.heap.size + 1) #[.int .i64 r.n, .int .u64 (r.x : Int), .int .u64 (r.z : Int), .int .i64 r.ph]) :=
  ⟨below_setRow h.bel (by omega) _, h.p.row, h.z.offRow (by omega)⟩
theorem FI.new (w : World) (q b : Int) (ao : Option Addr) (n k : Nat) (p : P) : FI w p (((w.alloc (.cells #[.int .i64 q, .int .i64 b, .slice ao n k] 24)).alloc (.cells #[.int .i64 p.n, .int .u64 (p.x : Int), .int .u64 (p.z : Int), .int .i64 p.ph] 27)).alloc (.cells #[.int .i64 0, .int .u64 0, .int .u64 0, .int .i64 0] 27)) := by
  refine ⟨(BX.bel w q b ao n k _ _ _ _).trans ((bnew _ _).mono (by simp; omega)), (BX.new w q b ao n k _ _ _ _).p.below (bnew _ _), ?_⟩
  have := heap_alloc_new ((w.alloc (.cells #[.int .i64 q, .int .i64 b, .slice ao n k] 24)).alloc (.cells #[.int .i64 p.n, .int .u64 (p.x : Int), .int .u64 (p.z : Int), .int .i64 p.ph] 27)) (.cells #[.int .i64 0, .int .u64 0, .int .u64 0, .int .i64 0] 27)
  rw [World.size_alloc, World.size_alloc] at this
  exact this
theorem xForth (c : Circ) (ao : Option Addr) (k : Nat) (p : P) (hp : Wd p) (w : World) (hT : Tbl.Tg w) (hC : Ci w c ao k) : Calls Tryz.prog 4 #[cV c ao k, pV p] w fun e w' => e = .returned (.tuple #[pV (fwR c p).1, .int .i64 (fwR c p).2]) /\ Below w.heap.size w w' := by
  have c1 := fun V (h : Below w.heap.size w V) => xStuck c ao k p hp V (hT.tb.below h) (hC.below h)
  have HTH : Hid (∀ q, Wd q -> ∀ (i : Nat) o, c.ops[i]? = some o -> ∀ aq cq V, Below w.heap.size w V -> o.qs.length <= cq -> Ns V aq o.qs -> Calls Tryz.prog 13 #[pV q, .int .i64 o.gate, .slice aq o.qs.length cq] V fun e w' => e = .returned (.tuple #[pV (thrR o.gate o.qs q).1, .int .i64 (thrR o.gate o.qs q).2]) /\ Below V.heap.size V w') := hide (fun q hq i o ho aq cq V hb hr hN => pThrough q hq o.gate o.qs (hC.qs o (List.mem_of_getElem? ho)) aq cq hr V (hT.tb.below hb) (hT.ts.below hb) (hT.ti.below hb) hN)
  have HO := hide hC.ops
  have hlen := hC.len
  have HW : Hid (∀ i, Wd (fw (c.ops.take i) p)) := hide (fun i => wd_fw _ _ hp)
  have HF := hide (fw_take c.ops p)
  have HF0 : Hid (fw (c.ops.take 0) p = p) := hide rfl
  have HFN : Hid (fw (c.ops.take c.ops.length) p = fw c.ops p) := hide (by rw [List.take_length])
  unfold fwR
  generalize fw c.ops p = FN at *
  generalize hfd : (fun i => fw (c.ops.take i) p) = F at *
  have HFd : Hid (∀ i, fw (c.ops.take i) p = F i) := hide (fun i => congrFun hfd i)
  have HF' : Hid (∀ i o, c.ops[i]? = some o -> F (i + 1) = fwS (F i) o) := hide (fun i o h => by rw [← HFd.out, ← HFd.out]; exact HF.out i o h)
  have HW' : Hid (∀ i, Wd (F i)) := hide (fun i => by rw [← HFd.out]; exact HW.out i)
  have HF0' : Hid (F 0 = p) := hide (by rw [← HFd.out]; exact HF0.out)
  have HFN' : Hid (F c.ops.length = FN) := hide (by rw [← HFd.out]; exact HFN.out)
  clear HF HW HF0 HFN HFd hfd hT hC hp
  generalize stk c p = E at *
  obtain ⟨q, b, ops⟩ := c
  obtain ⟨n, hn⟩ : ∃ n, ops.length = n := ⟨_, rfl⟩
  have HN := hide hn
  obtain ⟨pn, px, pz, pp⟩ := p
  unfold cV pV at *
  simp only at *
  rw [hn] at hlen HFN'
  simp only [hn] at c1 ⊢
  clear hn
  have hI0 := FI.new w q b ao n k ⟨pn, px, pz, pp⟩
  have hx0 := (BX.new w q b ao n k (.int .i64 pn) (.int .u64 (px : Int)) (.int .u64 (pz : Int)) (.int .i64 pp)).below (bnew _ (.cells #[.int .i64 0, .int .u64 0, .int .u64 0, .int .i64 0] 27))
  obtain ⟨x0, x1, x2, x3, x4, x5, x6, x7⟩ := hx0.cells
  simp only at hI0
  by_cases hE : E = 0
  . subst hE
    simp only [if_true]
    go_enter Tryz.func4, Tryz.ntmps4
    go_wp2_with (go_at_call 12; refine (c1 _ hI0.bel).mono ?_; rintro e w2 ⟨rfl, hb2⟩; have hI2 := hI0.below hb2; have hx2 := hx0.below hb2; clear x0 x1 x2 x3 x4 x5 x6 x7 hb2 hI0 hx0 c1; obtain ⟨x0, x1, x2, x3, x4, x5, x6, x7⟩ := hx2.cells)
    have HI2 := hide hI2
    clear hI2 hx2
    go_loopw [19] (fun vi wr => ∃ i : Nat, vi = .int .i64 (i : Int) /\ i <= n /\ Hid (FI w (F i) wr)) (fun vi _ => n - (Go.RowKit.intOf vi).toNat)
    case atStart => exact ⟨0, rfl, Nat.zero_le _, hide (by rw [HF0'.out]; exact HI2.out)⟩
    case round =>
      obtain ⟨i, rfl, hi, HI⟩ := hrel
      clear x0 x1 x2 x3 x4 x5 x6 x7 HI2
      have hb := HI.out.bel
      by_cases h : i < n
      . have hd : decide ((i : Int) < (n : Int)) = true := decide_eq_true (by omega)
        obtain ⟨o, ho⟩ : ∃ o, ops[i]? = some o := ⟨_, List.getElem?_eq_getElem (by rw [HN.out]; exact h)⟩
        obtain ⟨g, off, aq, cq, rfl, hgl, hoc⟩ := (HO.out.below hb).at ho
        have k0 := hoc.kind
        have k1 := hoc.gate
        have k2 := hoc.qs
        have k3 := hoc.bit
        have k4 := hoc.cond
        have k5 := hoc.whn
        have HS := hide (HF'.out i o ho)
        have hnew := bnew wr (.cells #[.int .i64 o.kind, .int .i64 o.gate, .slice aq o.qs.length cq, .int .i64 o.bit, .int .i64 o.cond, .int .i64 o.whn] 48)
        have c2 := HTH.out (F i) (HW'.out i) i o ho aq cq _ (bkp hb hnew) hoc.room (hoc.ns.below hnew)
        have HI3 := hide (HI.out.below hnew)
        obtain ⟨a0, a1, a2, a3, a4⟩ := HI.out.p.cells
        unfold fwS at HS
        generalize F i = qi at *
        generalize thrR o.gate o.qs qi = R at *
        obtain ⟨⟨rn, rx, rz, rp⟩, re⟩ := R
        obtain ⟨qn, qx, qz, qp⟩ := qi
        simp only at a0 a1 a2 a3 c2 HS
        clear hoc ho HI hb hnew
        obtain ⟨kind, gate, qs, bit, cond, whn⟩ := o
        simp only at k0 k1 k2 k3 k4 k5 c2 HS HI3
        generalize qs.length = lq at *
        by_cases hk : kind = 1
        . subst hk
          have HS2 : Hid (F (i + 1) = ⟨rn, rx, rz, rp⟩) := hide HS.out
          clear HS
          go_wp2_with (first | (go_at_call 13; refine c2.mono ?_; rintro e w3 ⟨rfl, hb3⟩; have HI4 := hide (HI3.out.below hb3); have hR := HI4.out.p; unfold At4 at hR; clear c2 hb3 k0 k1 k2 k3 k4 k5 a0 a1 a2 a3 a4 HI3) | refine wpList_store_row rfl _ _ _ rfl (w.heap.size + 1) _ rfl rfl _ _ hR (by exact Pau.infoP) (by rfl) (Pau.allP _ _ _ _) ?_)
          go_roundw
          case rel => exact ⟨i + 1, by go_num, by omega, hide (by rw [HS2.out]; exact HI4.out.set ⟨rn, rx, rz, rp⟩)⟩
          case measure => simp [Go.RowKit.intOf]; omega
        . have e1 : (kind == 1) = false := by simpa using hk
          have HS2 : Hid (F (i + 1) = ⟨qn, qx, qz, qp⟩) := hide (by rw [HS.out, if_neg hk])
          clear HS hk c2
          go_wp2_with fail
          go_roundw
          case rel => exact ⟨i + 1, by go_num, by omega, hide (by rw [HS2.out]; exact HI3.out)⟩
          case measure => simp [Go.RowKit.intOf]; omega
      . obtain rfl : n = i := by omega
        have hd : decide ((n : Int) < (n : Int)) = false := decide_eq_false (by omega)
        have HI3 : Hid (FI w FN wr) := hide (by rw [← HFN'.out]; exact HI.out)
        clear HI
        obtain ⟨a0, a1, a2, a3, a4⟩ := HI3.out.p.cells
        obtain ⟨fn, fx, fz, fp⟩ := FN
        have hR := HI3.out.z
        unfold At4 at hR
        go_wp2_with (refine wpList_store_row rfl _ _ _ rfl (w.heap.size + 2) _ rfl rfl _ _ hR (by exact Pau.infoP) (by rfl) (Pau.allP _ _ _ _) ?_)
        refine bodyPost_ret (Pau.results_ct rfl _ _ (w.heap.size + 2) _ _ _ _ rfl (setRow_heap _ _ _ _ _ _ hR) Tryz.underlying27 rfl (by exact Pau.infoP)) rfl ?_
        exact ⟨rfl, below_setRow HI3.out.bel (by omega) _⟩
  . simp only [if_neg hE]
    have e1 : (E != 0) = true := by simpa using hE
    go_enter Tryz.func4, Tryz.ntmps4
    go_wp2_with (first | (go_at_call 12; refine (c1 _ hI0.bel).mono ?_; rintro e w2 ⟨rfl, hb2⟩; have hI2 := hI0.below hb2; have hR := hI2.z; unfold At4 at hR; clear x0 x1 x2 x3 x4 x5 x6 x7 hb2 hI0 hx0 c1) | refine wpList_store_row rfl _ _ _ rfl (w.heap.size + 2) #[.int .i64 0, .int .u64 0, .int .u64 0, .int .i64 0] rfl (by rfl) _ _ hR (by exact Pau.infoP) (by rfl) (Pau.allP _ _ _ _) ?_)
    refine bodyPost_ret (Pau.results_ct rfl _ _ (w.heap.size + 2) _ _ _ _ rfl (setRow_heap _ _ _ _ _ _ hR) Tryz.underlying27 rfl (by exact Pau.infoP)) rfl ?_
    exact ⟨rfl, below_setRow hI2.bel (by omega) _⟩
end Go.Proofs.YtoickolhekhgmaaGreatDoor.Exp
