import Derived.Test.YtpehekonjdneaaaGreatDoorK8fb91e34
set_option maxRecDepth 100000
set_option maxHeartbeats 8000000
namespace Go.Proofs.YtpehekonjdneaaaGreatDoor.Tbl
open Go.RowKit Go.Shelf Go.Proofs.YtpehekonjdneaaaGreatDoor.Pau Go.Proofs.YtpehekonjdneaaaGreatDoor.Gt
theorem dLetter14 (n : Int) (q : Nat) (hq : q < 64) (x : Bool) (w : World) : Calls Tryz.prog 18 #[.int .i64 n, .int .i64 (q : Int), .bool x] w fun e w' => e = .returned (pV (if x = true then ⟨n, 2 ^ q, 0, 0⟩ else ⟨n, 0, 2 ^ q, 0⟩)) /\ Below w.heap.size w w' := by
  have e1 := shl_one q hq
  have hq64 : (q : Int) <= 64 := by omega
  have hq0 : (0 : Int) <= (q : Int) := by omega
  have HB0 := hide (bnew w (.cells #[.int .i64 0, .int .u64 0, .int .u64 0, .int .i64 0] 25))
  have hR := At4.new w (.int .i64 0) (.int .u64 0) (.int .u64 0) (.int .i64 0)
  unfold At4 at hR
  unfold pV
  cases x with
  | true =>
    simp only [if_true]
    go_enter Tryz.func18, Tryz.ntmps18
    go_wp2_with (first
      | (refine wpList_store_row rfl _ _ _ rfl w.heap.size _ rfl rfl _ _ hR (by exact infoP) (by rfl) (allP _ _ _ _) ?_))
    refine bodyPost_ret (results_c rfl _ _ w.heap.size _ _ _ _ rfl (setRow_heap _ _ _ _ _ _ hR) Tryz.underlying25 rfl (by exact infoP)) rfl ?_
    exact ⟨rfl, below_setRow HB0.out (by omega) _⟩
  | false =>
    simp only [Bool.false_eq_true, if_false]
    go_enter Tryz.func18, Tryz.ntmps18
    go_wp2_with (first
      | (refine wpList_store_row rfl _ _ _ rfl w.heap.size _ rfl rfl _ _ hR (by exact infoP) (by rfl) (allP _ _ _ _) ?_))
    refine bodyPost_ret (results_c rfl _ _ w.heap.size _ _ _ _ rfl (setRow_heap _ _ _ _ _ _ hR) Tryz.underlying25 rfl (by exact infoP)) rfl ?_
    exact ⟨rfl, below_setRow HB0.out (by omega) _⟩
def Gr (w : World) (B : Nat) (ao : Option Addr) (c : Nat) (l : List P) : Prop := w.ownsRow B 25 4 (.slice ao l.length c) l.length (fl l)
def blk (ao : Option Addr) : Option Nat := ao.map (·.block)
theorem own_blk (ao : Option Addr) (n c : Nat) : (Value.slice ao n c).ownBlock = blk ao := by cases ao <;> rfl
theorem Gr.lt {w : World} {B : Nat} {ao : Option Addr} {c : Nat} {l : List P} (h : Gr w B ao c l) {g : Nat} (hg : blk ao = some g) : B <= g /\ g < w.heap.size := by
  obtain ⟨-, h2 | ⟨g', cap, cur, e, hB, hh, -⟩⟩ := h
  . have e := h2.1
    injection e with e1 e2 e3
    subst e1
    cases hg
  . cases e
    cases hg
    exact ⟨hB, (Array.getElem?_eq_some_iff.1 hh).1⟩
theorem Gr.of_block {w w' : World} {B : Nat} {ao : Option Addr} {c : Nat} {l : List P} (h : Gr w B ao c l) (e : ∀ g, blk ao = some g -> w'.heap[g]? = w.heap[g]?) : Gr w' B ao c l := by
  obtain ⟨h1, h2⟩ := h
  refine ⟨h1, ?_⟩
  rcases h2 with h2 | ⟨g', cap, cur, ev, hB, hh, hr⟩
  . exact .inl h2
  . refine .inr ⟨g', cap, cur, ev, hB, ?_, hr⟩
    cases ev
    rw [e g' rfl]
    exact hh
theorem Gr.below {w w' : World} {B : Nat} {ao : Option Addr} {c : Nat} {l : List P} (h : Gr w B ao c l) (hb : Below w.heap.size w w') : Gr w' B ao c l := h.of_block (fun g hg => hb.block g (h.lt hg).2)
theorem Gr.pin {w : World} {B : Nat} {ao : Option Addr} {c : Nat} {l : List P} (h : Gr w B ao c l) : PIn w ao l /\ l.length <= c := by
  obtain ⟨h1, h2 | ⟨g', cap, cur, e, hB, hh, hc, hm, hs, ht⟩⟩ := h
  . have : l = [] := List.length_eq_zero_iff.1 h2.2
    subst this
    exact ⟨.inl rfl, Nat.zero_le _⟩
  . cases e
    have := po_own (w := w) (B := B) (g := g') (n := l.length) (c := c) (l := l) ⟨h1, .inr ⟨g', c, cur, rfl, hB, hh, hc, hm, hs, ht⟩⟩
    exact ⟨this.1.pin, this.2.2.1⟩
theorem Gr.nil (w : World) (B : Nat) : Gr w B none 0 [] := ⟨rfl, .inl ⟨rfl, rfl⟩⟩
theorem fl_snoc (l : List P) (p : P) : fl (l ++ [p]) = fl l ++ c4 p := by unfold fl; rw [List.flatMap_append]; simp
theorem c4_one (p : P) : ∀ u ∈ c4 p, u.oneCell' = true := by
  intro u hu
  simp only [c4, List.mem_cons, List.not_mem_nil, or_false] at hu
  rcases hu with rfl | rfl | rfl | rfl <;> rfl
theorem Gr.snoc {w : World} {B g cap : Nat} {l : List P} {p : P} {n : Nat} (hn : n = l.length) (h : w.ownsRow B 25 4 (.slice (some ⟨g, 0, none⟩) (n + 1) cap) (n + 1) (fl l ++ c4 p)) : Gr w B (some ⟨g, 0, none⟩) cap (l ++ [p]) := by
  unfold Gr
  rw [fl_snoc, List.length_append, ← hn]
  exact h
theorem take_succ_map (N : Nat) (f : Nat -> P) (q : Nat) (h : q < N) : ((List.range N).map f).take q ++ [f q] = ((List.range N).map f).take (q + 1) := by
  rw [List.take_add_one, List.getElem?_map, List.getElem?_range h]
  rfl
structure Nw (w V : World) (N : Nat) (a b : Option Addr) (ca cb : Nat) (l1 l2 : List P) : Prop where
  bx : At3 V (w.heap.size + 1) (.int .i64 (N : Int)) (.slice a l1.length ca) (.slice b l2.length cb)
  g1 : Gr V (w.heap.size + 2) a ca l1
  g2 : Gr V (w.heap.size + 2) b cb l2
  ne : ∀ g, blk a = some g -> blk b = some g -> False
  bw : Below w.heap.size w V
  zr : At3 V w.heap.size (.int .i64 0) (.slice none 0 0) (.slice none 0 0)
theorem Nw.below {w V V' : World} {N : Nat} {a b : Option Addr} {ca cb : Nat} {l1 l2 : List P} (h : Nw w V N a b ca cb l1 l2) (hb : Below V.heap.size V V') : Nw w V' N a b ca cb l1 l2 := ⟨h.bx.below hb, h.g1.below hb, h.g2.below hb, h.ne, bkp h.bw hb, h.zr.below hb⟩
theorem Nw.mid1 {w V V' : World} {N : Nat} {a b : Option Addr} {ca cb : Nat} {l1 l2 : List P} (h : Nw w V N a b ca cb l1 l2) (n : Nat) (hg : V.grownBy V' (Value.slice a n ca).ownBlock) : At3 V' (w.heap.size + 1) (.int .i64 (N : Int)) (.slice a l1.length ca) (.slice b l2.length cb) := by
  rw [own_blk] at hg
  refine (hg.block _ h.bx.lt (fun e => ?_)).trans h.bx
  have := (h.g1.lt e.symm).1
  omega
theorem Nw.mid2 {w V V' : World} {N : Nat} {a b : Option Addr} {ca cb : Nat} {l1 l2 : List P} (h : Nw w V N a b ca cb l1 l2) (n : Nat) (hg : V.grownBy V' (Value.slice b n cb).ownBlock) : At3 V' (w.heap.size + 1) (.int .i64 (N : Int)) (.slice a l1.length ca) (.slice b l2.length cb) := by
  rw [own_blk] at hg
  refine (hg.block _ h.bx.lt (fun e => ?_)).trans h.bx
  have := (h.g2.lt e.symm).1
  omega
theorem At3.set1 {w : World} {g : Nat} {x y z : Value} (h : At3 w g x y z) (v : Value) : At3 (w.setCell ⟨g, 1, none⟩ v) g x v z := by
  unfold At3 at *
  simp [World.setCell, Array.getElem?_modify, h]
theorem At3.set2 {w : World} {g : Nat} {x y z : Value} (h : At3 w g x y z) (v : Value) : At3 (w.setCell ⟨g, 2, none⟩ v) g x y v := by
  unfold At3 at *
  simp [World.setCell, Array.getElem?_modify, h]
theorem Nw.app1 {w V V' : World} {N : Nat} {a b : Option Addr} {ca cb n g c : Nat} {l1 l2 : List P} {p : P} (h : Nw w V N a b ca cb l1 l2) (hn : n = l1.length) (hg : V.grownBy V' (Value.slice a n ca).ownBlock) (ho : V'.ownsRow (w.heap.size + 2) 25 4 (.slice (some ⟨g, 0, none⟩) (n + 1) c) (n + 1) (fl l1 ++ c4 p)) (hat : (Value.slice a n ca).ownBlock = some g ∨ g = V.heap.size) :
    Nw w (V'.setCell ⟨w.heap.size + 1, 1, none⟩ (.slice (some ⟨g, 0, none⟩) (n + 1) c)) N (some ⟨g, 0, none⟩) b c cb (l1 ++ [p]) l2 := by
  have hm := h.mid1 n hg
  have hG := Gr.snoc hn ho
  have hgB : w.heap.size + 2 <= g := (hG.lt rfl).1
  have hm1 := hm.set1 (.slice (some ⟨g, 0, none⟩) (n + 1) c)
  rw [own_blk] at hg hat
  have hsz := h.bx.lt
  refine ⟨?_, hG.of_block (fun k hk => ?_), ?_, ?_, ?_, ?_⟩
  . rw [List.length_append]; subst hn; exact hm1
  . cases hk; exact Below.heap_setCell _ _ _ _ (show g ≠ w.heap.size + 1 by omega)
  . refine (h.g2.of_block (w' := V') (fun k hk => hg.block k (h.g2.lt hk).2 (fun e => h.ne k e.symm hk))).of_block (fun k hk => ?_)
    have := (h.g2.lt hk).1
    exact Below.heap_setCell _ _ _ _ (show k ≠ w.heap.size + 1 by omega)
  . intro k h1 h2
    obtain rfl : g = k := Option.some.inj h1
    rcases hat with e | e
    . exact h.ne g e h2
    . have := (h.g2.lt h2).2; omega
  . exact (h.bw.grown hg (by omega) (fun k hk => by have := (h.g1.lt hk).1; omega)).setCell (p := ⟨w.heap.size + 1, 1, none⟩) (by show w.heap.size <= w.heap.size + 1; omega) _
  . refine (Below.heap_setCell _ _ _ _ (show w.heap.size ≠ w.heap.size + 1 by omega)).trans ((hg.block _ h.zr.lt (fun e => ?_)).trans h.zr)
    have := (h.g1.lt e.symm).1
    omega
theorem Nw.app2 {w V V' : World} {N : Nat} {a b : Option Addr} {ca cb n g c : Nat} {l1 l2 : List P} {p : P} (h : Nw w V N a b ca cb l1 l2) (hn : n = l2.length) (hg : V.grownBy V' (Value.slice b n cb).ownBlock) (ho : V'.ownsRow (w.heap.size + 2) 25 4 (.slice (some ⟨g, 0, none⟩) (n + 1) c) (n + 1) (fl l2 ++ c4 p)) (hat : (Value.slice b n cb).ownBlock = some g ∨ g = V.heap.size) :
    Nw w (V'.setCell ⟨w.heap.size + 1, 2, none⟩ (.slice (some ⟨g, 0, none⟩) (n + 1) c)) N a (some ⟨g, 0, none⟩) ca c l1 (l2 ++ [p]) := by
  have hm := h.mid2 n hg
  have hG := Gr.snoc hn ho
  have hgB : w.heap.size + 2 <= g := (hG.lt rfl).1
  have hm1 := hm.set2 (.slice (some ⟨g, 0, none⟩) (n + 1) c)
  rw [own_blk] at hg hat
  have hsz := h.bx.lt
  refine ⟨?_, ?_, hG.of_block (fun k hk => ?_), ?_, ?_, ?_⟩
  . rw [List.length_append]; subst hn; exact hm1
  . refine (h.g1.of_block (w' := V') (fun k hk => hg.block k (h.g1.lt hk).2 (fun e => h.ne k hk e.symm))).of_block (fun k hk => ?_)
    have := (h.g1.lt hk).1
    exact Below.heap_setCell _ _ _ _ (show k ≠ w.heap.size + 1 by omega)
  . cases hk; exact Below.heap_setCell _ _ _ _ (show g ≠ w.heap.size + 1 by omega)
  . intro k h1 h2
    obtain rfl : g = k := Option.some.inj h2
    rcases hat with e | e
    . exact h.ne g h1 e
    . have := (h.g1.lt h1).2; omega
  . exact (h.bw.grown hg (by omega) (fun k hk => by have := (h.g2.lt hk).1; omega)).setCell (p := ⟨w.heap.size + 1, 2, none⟩) (by show w.heap.size <= w.heap.size + 1; omega) _
  . refine (Below.heap_setCell _ _ _ _ (show w.heap.size ≠ w.heap.size + 1 by omega)).trans ((hg.block _ h.zr.lt (fun e => ?_)).trans h.zr)
    have := (h.g2.lt e.symm).1
    omega
theorem Nw.drew {w V : World} {N : Nat} {a b : Option Addr} {ca cb : Nat} {l1 l2 : List P} (h : Nw w V N a b ca cb l1 l2) : Nw w V.drew N a b ca cb l1 l2 := ⟨h.bx, h.g1, h.g2, h.ne, h.bw.drew, h.zr⟩
theorem dNew_ok (N : Nat) (hN : N <= 64) (w : World) :
    Calls Tryz.prog 6 #[.int .i64 (N : Int)] w fun e w' => ∃ a b ca cb, e = .returned (.tuple #[tV (newT N) a b ca cb, .int .i64 0]) /\ Th w' (newT N) a b ca cb /\ Below w.heap.size w w' := by
  have HCL : Hid (∀ q, q < N -> ∀ W, Calls Tryz.prog 18 #[.int .i64 (N : Int), .int .i64 (q : Int), .bool false] W fun e w' => e = .returned (pV (nzP N q)) /\ Below W.heap.size W w') := hide (fun q hq W => dLetter14 (N : Int) q (by omega) false W)
  have HCX : Hid (∀ q, q < N -> ∀ W, Calls Tryz.prog 18 #[.int .i64 (N : Int), .int .i64 (q : Int), .bool true] W fun e w' => e = .returned (pV (nxP N q)) /\ Below W.heap.size W w') := hide (fun q hq W => dLetter14 (N : Int) q (by omega) true W)
  obtain ⟨i0, hi, hz0, hz1, hz2⟩ := info_parts infoP3
  have d1 : decide ((N : Int) < 0) = false := decide_eq_false (by omega)
  have d2 : decide (64 < (N : Int)) = false := decide_eq_false (by omega)
  obtain ⟨hZ, hT⟩ := two3 w (.int .i64 0) (.slice none 0 0) (.slice none 0 0) (.int .i64 (N : Int)) (.slice none 0 0) (.slice none 0 0)
  have HB0 := hide (bkp (bnew w (.cells #[.int .i64 0, .slice none 0 0, .slice none 0 0] 29)) (bnew _ (.cells #[.int .i64 (N : Int), .slice none 0 0, .slice none 0 0] 29)))
  obtain ⟨L1, hL1⟩ : ∃ l, (List.range N).map (nzP N) = l := ⟨_, rfl⟩
  obtain ⟨L2, hL2⟩ : ∃ l, (List.range N).map (nxP N) = l := ⟨_, rfl⟩
  have HS1 : Hid (∀ q, q < N -> L1.take q ++ [nzP N q] = L1.take (q + 1) /\ (L1.take q).length = q) := hide (fun q hq => by rw [← hL1]; exact ⟨take_succ_map N (nzP N) q hq, by simp; omega⟩)
  have HS2 : Hid (∀ q, q < N -> L2.take q ++ [nxP N q] = L2.take (q + 1) /\ (L2.take q).length = q) := hide (fun q hq => by rw [← hL2]; exact ⟨take_succ_map N (nxP N) q hq, by simp; omega⟩)
  have HI0 : Hid (∃ a b ca cb, Nw w ((w.alloc (.cells #[.int .i64 0, .slice none 0 0, .slice none 0 0] 29)).alloc (.cells #[.int .i64 (N : Int), .slice none 0 0, .slice none 0 0] 29)) N a b ca cb (L1.take 0) (L2.take 0)) := hide ⟨none, none, 0, 0, hT, Gr.nil _ _, Gr.nil _ _, (fun g h => by cases h), HB0.out, hZ⟩
  have HNW : Hid (newT N = ⟨N, L1, L2⟩) := hide (by unfold newT; rw [hL1, hL2])
  have HWL : Hid (Wl L1 /\ Wl L2) := hide (by
    rw [← hL1, ← hL2]
    constructor
    . intro p hp
      obtain ⟨i, hi, rfl⟩ := List.mem_map.1 hp
      exact ⟨(by decide : (0 : Nat) < 18446744073709551616), pow_lt64 (by have := List.mem_range.1 hi; omega)⟩
    . intro p hp
      obtain ⟨i, hi, rfl⟩ := List.mem_map.1 hp
      exact ⟨pow_lt64 (by have := List.mem_range.1 hi; omega), (by decide : (0 : Nat) < 18446744073709551616)⟩)
  have HLN : Hid (L1.length = N /\ L2.length = N) := hide (by rw [← hL1, ← hL2]; simp)
  clear hL1 hL2 hZ hT HB0
  go_enter Tryz.func6, Tryz.ntmps6
  go_wp2_with fail
  generalize (w.alloc (.cells #[.int .i64 0, .slice none 0 0, .slice none 0 0] 29)).alloc (.cells #[.int .i64 (N : Int), .slice none 0 0, .slice none 0 0] 29) = W0 at *
  go_loopw [5] (fun vi wr => ∃ q : Nat, vi = .int .i64 (q : Int) /\ q <= N /\ Hid (∃ a b ca cb, Nw w wr N a b ca cb (L1.take q) (L2.take q))) (fun vi _ => N - (Go.RowKit.intOf vi).toNat)
  case atStart => exact ⟨0, rfl, Nat.zero_le _, HI0⟩
  case round =>
    obtain ⟨q, rfl, hq, HI⟩ := hrel
    clear HI0
    by_cases hlt : q < N
    . have hd : decide ((q : Int) < (N : Int)) = true := decide_eq_true (by omega)
      obtain ⟨a, b, ca, cb, hnw⟩ := HI.out
      have c1 := HCL.out q hlt
      have c2 := HCX.out q hlt
      obtain ⟨hs1, hl1⟩ := HS1.out q hlt
      obtain ⟨hs2, hl2⟩ := HS2.out q hlt
      have HE1 := hide hs1
      have HE2 := hide hs2
      have HL1 := hide hl1
      have HL2 := hide hl2
      clear hs1 hs2 HI hl1 hl2
      have hone := c4_one (nzP N q)
      have hone2 := c4_one (nxP N q)
      have hc4 : c4 (nzP N q) = [.int .i64 (N : Int), .int .u64 0, .int .u64 ((2 ^ q : Nat) : Int), .int .i64 0] := rfl
      have hc5 : c4 (nxP N q) = [.int .i64 (N : Int), .int .u64 ((2 ^ q : Nat) : Int), .int .u64 0, .int .i64 0] := rfl
      have HC4 := hide hc4
      have HC5 := hide hc5
      rw [hc4] at hone
      rw [hc5] at hone2
      generalize hnz : nzP N q = nz at *
      generalize hnx : nxP N q = nx at *
      have e1 : pV nz = .agg #[.int .i64 (N : Int), .int .u64 0, .int .u64 ((2 ^ q : Nat) : Int), .int .i64 0] := by rw [← hnz]; rfl
      have e2 : pV nx = .agg #[.int .i64 (N : Int), .int .u64 ((2 ^ q : Nat) : Int), .int .u64 0, .int .i64 0] := by rw [← hnx]; rfl
      rw [e1] at c1
      rw [e2] at c2
      generalize ((2 ^ q : Nat) : Int) = pw at *
      have HOW : Hid (∀ W, Below wr.heap.size wr W -> W.ownsRow (w.heap.size + 2) 25 4 (.slice a q ca) q (fl (L1.take q))) := hide (fun W hW => by
        have := (hnw.below hW).g1
        unfold Gr at this
        rw [HL1.out] at this
        exact this)
      have HAT : Hid (∀ W, Below wr.heap.size wr W -> At3 W (w.heap.size + 1) (.int .i64 (N : Int)) (.slice a q ca) (.slice b q cb)) := hide (fun W hW => by
        have := (hnw.below hW).bx
        rw [HL1.out, HL2.out] at this
        exact this)
      have HMI : Hid (∀ V V', Below wr.heap.size wr V -> V.grownBy V' (Value.slice a q ca).ownBlock -> At3 V' (w.heap.size + 1) (.int .i64 (N : Int)) (.slice a q ca) (.slice b q cb)) := hide (fun V V' hV hg => by
        have := (hnw.below hV).mid1 q hg
        rw [HL1.out, HL2.out] at this
        exact this)
      have HNWW := hide hnw
      have HD0 : Hid (Below wr.heap.size wr wr.drew) := hide (Below.refl _ _).drew
      obtain ⟨t0, t1, t2, t3⟩ := (HAT.out wr (Below.refl _ _)).cells
      clear hnw hc4 hc5 e1 e2 hnz hnx
      go_wp2_with fail
      go_region_law (first
        | (go_simp; go_at_call 18; (with_reducible refine Calls.mono (c1 _) ?_); rintro e w5 ⟨rfl, q5⟩; obtain ⟨s0, s1, s2, s3⟩ := (HAT.out _ (bkp HD0.out q5)).cells)
        | (refine step_append_lies _ rfl (.tmp 21) (.tmp 25) 27 rfl (w.heap.size + 2) 25 i0 _ 4 32 Tryz.underlying27 hi hz0 hz1 hz2 rfl (by decide) (.slice a q ca) q (fl (L1.take q)) (by simp [Act.eval]) (HOW.out _ (bkp (bkp HD0.out q5) (bnew _ _))) ⟨w5.heap.size, 0, none⟩ 1 1 [.int .i64 (N : Int), .int .u64 0, .int .u64 pw, .int .i64 0] (by simp [Act.eval]) rfl (World.news_of_block (heap_alloc_new w5 _)) hone (by decide) (by unfold maxLen; omega) (by omega) (by simp; omega) _ rfl ?_; intro g7 c7 w7 ho7 hgr7 hat7 hlt7; obtain ⟨r0, r1, r2, r3⟩ := (HMI.out _ _ (bkp (bkp HD0.out q5) (bnew _ _)) hgr7).cells; have rf := (HMI.out _ _ (bkp (bkp HD0.out q5) (bnew _ _)) hgr7).fz))
      all_goals (
        have HNW2 : Hid (Nw w (w7.setCell ⟨w.heap.size + 1, 1, none⟩ (.slice (some ⟨g7, 0, none⟩) (q + 1) c7)) N (some ⟨g7, 0, none⟩) b c7 cb (L1.take (q + 1)) (L2.take q)) := hide (by
          have hb5 := bkp (bkp HD0.out q5) (bnew w5 (.cells #[.int .i64 (N : Int), .int .u64 0, .int .u64 pw, .int .i64 0] 25))
          have := (HNWW.out.below hb5).app1 (n := q) (p := nz) HL1.out.symm hgr7 (by rw [HC4.out]; exact ho7) hat7
          rw [HE1.out] at this
          exact this)
        clear r0 r1 r2 r3 rf s0 s1 s2 s3 t0 t1 t2 t3 HOW HAT HMI HNWW HD0 q5 ho7 hgr7 hat7 hlt7 c1 hone
        generalize w7.setCell ⟨w.heap.size + 1, 1, none⟩ (.slice (some ⟨g7, 0, none⟩) (q + 1) c7) = W8 at *
        have HL12 : Hid ((L1.take (q + 1)).length = q + 1) := hide (by rw [← HE1.out, List.length_append, HL1.out]; rfl)
        have HOW : Hid (∀ W, Below W8.heap.size W8 W -> W.ownsRow (w.heap.size + 2) 25 4 (.slice b q cb) q (fl (L2.take q))) := hide (fun W hW => by
          have := (HNW2.out.below hW).g2
          unfold Gr at this
          rw [HL2.out] at this
          exact this)
        have HAT : Hid (∀ W, Below W8.heap.size W8 W -> At3 W (w.heap.size + 1) (.int .i64 (N : Int)) (.slice (some ⟨g7, 0, none⟩) (q + 1) c7) (.slice b q cb)) := hide (fun W hW => by
          have := (HNW2.out.below hW).bx
          rw [HL12.out, HL2.out] at this
          exact this)
        have HMI : Hid (∀ V V', Below W8.heap.size W8 V -> V.grownBy V' (Value.slice b q cb).ownBlock -> At3 V' (w.heap.size + 1) (.int .i64 (N : Int)) (.slice (some ⟨g7, 0, none⟩) (q + 1) c7) (.slice b q cb)) := hide (fun V V' hV hg => by
          have := (HNW2.out.below hV).mid2 q hg
          rw [HL12.out, HL2.out] at this
          exact this)
        have HD0 : Hid (Below W8.heap.size W8 W8.drew) := hide (Below.refl _ _).drew
        obtain ⟨t0, t1, t2, t3⟩ := (HAT.out W8 (Below.refl _ _)).cells
        go_wp2_with fail
        go_region_law (first
          | (go_simp; go_at_call 18; (with_reducible refine Calls.mono (c2 _) ?_); rintro e w5 ⟨rfl, q5⟩; obtain ⟨s0, s1, s2, s3⟩ := (HAT.out _ (bkp HD0.out q5)).cells)
          | (refine step_append_lies _ rfl (.tmp 29) (.tmp 33) 27 rfl (w.heap.size + 2) 25 i0 _ 4 32 Tryz.underlying27 hi hz0 hz1 hz2 rfl (by decide) (.slice b q cb) q (fl (L2.take q)) (by simp [Act.eval]) (HOW.out _ (bkp (bkp HD0.out q5) (bnew _ _))) ⟨w5.heap.size, 0, none⟩ 1 1 [.int .i64 (N : Int), .int .u64 pw, .int .u64 0, .int .i64 0] (by simp [Act.eval]) rfl (World.news_of_block (heap_alloc_new w5 _)) hone2 (by decide) (by unfold maxLen; omega) (by omega) (by simp; omega) _ rfl ?_; intro g8 c8 w7 ho7 hgr7 hat7 hlt7; obtain ⟨r0, r1, r2, r3⟩ := (HMI.out _ _ (bkp (bkp HD0.out q5) (bnew _ _)) hgr7).cells; have rf := (HMI.out _ _ (bkp (bkp HD0.out q5) (bnew _ _)) hgr7).fz))
        all_goals (
          have HNW3 : Hid (Nw w (w7.setCell ⟨w.heap.size + 1, 2, none⟩ (.slice (some ⟨g8, 0, none⟩) (q + 1) c8)) N (some ⟨g7, 0, none⟩) (some ⟨g8, 0, none⟩) c7 c8 (L1.take (q + 1)) (L2.take (q + 1))) := hide (by
            have hb5 := bkp (bkp HD0.out q5) (bnew w5 (.cells #[.int .i64 (N : Int), .int .u64 pw, .int .u64 0, .int .i64 0] 25))
            have := (HNW2.out.below hb5).app2 (n := q) (p := nx) HL2.out.symm hgr7 (by rw [HC5.out]; exact ho7) hat7
            rw [HE2.out] at this
            exact this)
          clear r0 r1 r2 r3 rf s0 s1 s2 s3 t0 t1 t2 t3 HOW HAT HMI HNW2 HD0 q5 ho7 hgr7 hat7 hlt7 c2 hone2
          generalize w7.setCell ⟨w.heap.size + 1, 2, none⟩ (.slice (some ⟨g8, 0, none⟩) (q + 1) c8) = W9 at *
          go_wp2_with fail
          go_roundw
          case rel => exact ⟨q + 1, by go_num, by omega, hide ⟨_, _, _, _, HNW3.out⟩⟩
          case measure => simp [Go.RowKit.intOf]; omega))
    . obtain rfl : N = q := by omega
      have hd : decide ((N : Int) < (N : Int)) = false := decide_eq_false (by omega)
      obtain ⟨a, b, ca, cb, hnw⟩ := HI.out
      obtain ⟨hn1, hn2⟩ := HLN.out
      rw [List.take_of_length_le (by omega), List.take_of_length_le (by omega)] at hnw
      have hbx := hnw.bx
      rw [hn1, hn2] at hbx
      obtain ⟨t0, t1, t2, t3⟩ := hbx.cells
      have hR := hnw.zr
      have HXX : Hid (Th (wr.setRow w.heap.size #[.int .i64 (N : Int), .slice a N ca, .slice b N cb]) (newT N) a b ca cb /\ Below w.heap.size w (wr.setRow w.heap.size #[.int .i64 (N : Int), .slice a N ca, .slice b N cb])) := hide (by
        rw [HNW.out]
        have h1 := hnw.g1.pin
        have h2 := hnw.g2.pin
        refine ⟨Th.row (t := ⟨N, L1, L2⟩) ⟨h1.1, h2.1, HWL.out.1, HWL.out.2, h1.2, h2.2, by show L1.length <= _; omega, by show L2.length <= _; omega⟩ hR _, below_setRow hnw.bw (Nat.le_refl _) _⟩)
      have HV : Hid (tV (newT N) a b ca cb = .agg #[.int .i64 (N : Int), .slice a N ca, .slice b N cb]) := hide (by rw [HNW.out]; unfold tV; simp only [hn1, hn2])
      unfold At3 at hR
      clear hnw hbx HI hn1 hn2 HLN HNW
      go_wp2_with (first
        | (refine wpList_store_row rfl _ _ _ rfl w.heap.size _ rfl rfl _ _ hR (by exact infoT) (by rfl) (all3 _ _ _ _ _ _ _) ?_))
      refine bodyPost_ret (Pau.results_ct rfl _ _ w.heap.size _ _ _ _ rfl (setRow_heap _ _ _ _ _ _ hR) Tryz.underlying29 rfl (by exact infoT)) rfl ?_
      exact ⟨a, b, ca, cb, by rw [HV.out]; rfl, HXX.out.1, HXX.out.2⟩
theorem dNew_no (n : Int) (hn : n < 0 ∨ 64 < n) (w : World) :
    Calls Tryz.prog 6 #[.int .i64 n] w fun e w' => e = .returned (.tuple #[.agg #[.int .i64 0, .slice none 0 0, .slice none 0 0], .int .i64 2]) /\ Below w.heap.size w w' := by
  have HB0 := hide (bnew w (.cells #[.int .i64 0, .slice none 0 0, .slice none 0 0] 29))
  have hR := At3.new w (.int .i64 0) (.slice none 0 0) (.slice none 0 0)
  unfold At3 at hR
  by_cases h : n < 0
  . have d1 : decide (n < 0) = true := decide_eq_true h
    clear hn
    go_enter Tryz.func6, Tryz.ntmps6
    go_wp2_with (first
      | (refine wpList_store_row rfl _ _ _ rfl w.heap.size _ rfl rfl _ _ hR (by exact infoT) (by rfl) (all3 _ _ _ _ _ _ _) ?_))
    refine bodyPost_ret (Pau.results_ct rfl _ _ w.heap.size _ _ _ _ rfl (setRow_heap _ _ _ _ _ _ hR) Tryz.underlying29 rfl (by exact infoT)) rfl ?_
    exact ⟨rfl, below_setRow HB0.out (Nat.le_refl _) _⟩
  . have d1 : decide (n < 0) = false := decide_eq_false h
    have d2 : decide (64 < n) = true := decide_eq_true (by omega)
    clear hn
    go_enter Tryz.func6, Tryz.ntmps6
    go_wp2_with (first
      | (refine wpList_store_row rfl _ _ _ rfl w.heap.size _ rfl rfl _ _ hR (by exact infoT) (by rfl) (all3 _ _ _ _ _ _ _) ?_))
    refine bodyPost_ret (Pau.results_ct rfl _ _ w.heap.size _ _ _ _ rfl (setRow_heap _ _ _ _ _ _ hR) Tryz.underlying29 rfl (by exact infoT)) rfl ?_
    exact ⟨rfl, below_setRow HB0.out (Nat.le_refl _) _⟩
end Go.Proofs.YtpehekonjdneaaaGreatDoor.Tbl
