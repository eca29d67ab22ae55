import Derived.Test.YtaggifpnamjghaaDoorKb5f81885
set_option maxRecDepth 100000
set_option maxHeartbeats 2000000
namespace Go.Proofs.YtaggifpnamjghaaDoor.Tbl
open Go.RowKit Go.Shelf Go.Proofs.YtaggifpnamjghaaDoor.Pau Go.Proofs.YtaggifpnamjghaaDoor.Gt
def Gr (w : World) (B : Nat) (ao : Option Addr) (c : Nat) (l : List P) : Prop := w.ownsRow B 32 4 (.slice ao l.length c) l.length (fl l)
def blk (ao : Option Addr) : Option Nat := ao.map (·.block)
theorem Gr.lt {w : World} {B : Nat} {ao : Option Addr} {c : Nat} {l : List P} (h : Gr w B ao c l) {g : Nat} (hg : blk ao = some g) : B <= g /\ g < w.heap.size := by
  obtain ⟨-, h2 | ⟨g', cap, cur, e, hB, hh, -⟩⟩ := h
  . have e := h2.1
    injection e with e1 e2 e3
    subst e1
    cases hg
  . cases e
    cases hg
    exact ⟨hB, (Array.getElem?_eq_some_iff.1 hh).1⟩
theorem Gr.of_block {w w' : World} {B : Nat} {ao : Option Addr} {c : Nat} {l : List P} (h : Gr w B ao c l) (e : ∀ g, blk ao = some g -> w'.heap[g]? = w.heap[g]?) : Gr w' B ao c l := by
  obtain ⟨h1, h2⟩ := h
  refine ⟨h1, ?_⟩
  rcases h2 with h2 | ⟨g', cap, cur, ev, hB, hh, hr⟩
  . exact .inl h2
  . refine .inr ⟨g', cap, cur, ev, hB, ?_, hr⟩
    cases ev
    rw [e g' rfl]
    exact hh
theorem Gr.below {w w' : World} {B : Nat} {ao : Option Addr} {c : Nat} {l : List P} (h : Gr w B ao c l) (hb : Below w.heap.size w w') : Gr w' B ao c l := h.of_block (fun g hg => hb.block g (h.lt hg).2)
theorem Gr.pin {w : World} {B : Nat} {ao : Option Addr} {c : Nat} {l : List P} (h : Gr w B ao c l) : PIn w ao l /\ l.length <= c := by
  obtain ⟨h1, h2 | ⟨g', cap, cur, e, hB, hh, hc, hm, hs, ht⟩⟩ := h
  . have : l = [] := List.length_eq_zero_iff.1 h2.2
    subst this
    exact ⟨.inl rfl, Nat.zero_le _⟩
  . cases e
    have := po_own (w := w) (B := B) (g := g') (n := l.length) (c := c) (l := l) ⟨h1, .inr ⟨g', c, cur, rfl, hB, hh, hc, hm, hs, ht⟩⟩
    exact ⟨this.1.pin, this.2.2.1⟩
theorem Gr.nil (w : World) (B : Nat) : Gr w B none 0 [] := ⟨rfl, .inl ⟨rfl, rfl⟩⟩
structure Nw (w V : World) (N : Nat) (a b : Option Addr) (ca cb : Nat) (l1 l2 : List P) : Prop where
  bx : At3 V (w.heap.size + 1) (.int .i64 (N : Int)) (.slice a l1.length ca) (.slice b l2.length cb)
  g1 : Gr V (w.heap.size + 2) a ca l1
  g2 : Gr V (w.heap.size + 2) b cb l2
  ne : ∀ g, blk a = some g -> blk b = some g -> False
  bw : Below w.heap.size w V
  zr : At3 V w.heap.size (.int .i64 0) (.slice none 0 0) (.slice none 0 0)
theorem Nw.below {w V V' : World} {N : Nat} {a b : Option Addr} {ca cb : Nat} {l1 l2 : List P} (h : Nw w V N a b ca cb l1 l2) (hb : Below V.heap.size V V') : Nw w V' N a b ca cb l1 l2 := ⟨h.bx.below hb, h.g1.below hb, h.g2.below hb, h.ne, bkp h.bw hb, h.zr.below hb⟩
theorem At3.set1 {w : World} {g : Nat} {x y z : Value} (h : At3 w g x y z) (v : Value) : At3 (w.setCell ⟨g, 1, none⟩ v) g x v z := by
  unfold At3 at *
  simp [World.setCell, Array.getElem?_modify, h]
theorem At3.set2 {w : World} {g : Nat} {x y z : Value} (h : At3 w g x y z) (v : Value) : At3 (w.setCell ⟨g, 2, none⟩ v) g x y v := by
  unfold At3 at *
  simp [World.setCell, Array.getElem?_modify, h]
theorem Nw.drew {w V : World} {N : Nat} {a b : Option Addr} {ca cb : Nat} {l1 l2 : List P} (h : Nw w V N a b ca cb l1 l2) : Nw w V.drew N a b ca cb l1 l2 := ⟨h.bx, h.g1, h.g2, h.ne, h.bw.drew, h.zr⟩
theorem run_app_noneP (ao : Option Addr) (c ty : Nat) (w : World) : (Builtin.append_ #[22, 22] ty #[.slice none 0 0, .slice ao 0 c]).run Tryd.prog w = .ok (.slice none 0 0) w := by
  obtain ⟨i0, hi, hz0, hz1, hz2⟩ := info_parts infoP3
  have ht := Tryd.underlying22
  cases ao <;> simp [Builtin.append_, run_underlying ht, sizeOf, typeInfo, hi, Builtin.lenOf, Builtin.firstCells, loadCells, loadCellsFrom]
theorem app_rowP {ops : Array Oper} {rest : List Oper} {o : Oper} {a : Act} {Q : Exit -> Act -> World -> Prop} {w : World} (hgd : o.guard = none) (s x : Operand)
    (ho : o.op = .call { callee := .builtin .append, args := #[s, x], argTypes := #[22, 22] }) (hs : a.eval s = .slice none 0 0)
    (ao : Option Addr) (c : Nat) (l : List P) (n B : Nat) (hn : l.length = n) (hx : a.eval x = .slice ao n c) (hN : PIn w ao l) (hl : n <= 4398046511104) (hB : w.heap.size = B)
    (h : ∀ ao' c' w', POo w' B ao' l -> n <= c' -> Below B w w' -> wpList Tryd.prog ops Q rest (a.put o.dst (.slice ao' n c')) w') : wpList Tryd.prog ops Q (o :: rest) a w := by
  obtain ⟨i0, hi, hz0, hz1, hz2⟩ := info_parts infoP3
  subst hn
  subst hB
  by_cases h0 : 0 < l.length
  . obtain ⟨g, off, rfl, hc⟩ := hN.get h0
    refine wpList_append_lies w hgd s x 22 ho w.heap.size 32 i0 _ 4 32 Tryd.underlying22 hi hz0 hz1 hz2 rfl (by decide) _ 0 [] hs ⟨rfl, .inl ⟨rfl, rfl⟩⟩ ⟨g, off, none⟩ l.length c (fl l) hx (fl_len l) (fl_news hc) (fl_one l) h0 (by unfold maxLen; omega) (by omega) (Nat.le_refl _) _ rfl ?_
    intro g2 cap w2 hown2 hgrow hat hlt
    simp only [Nat.zero_add, List.nil_append] at hown2 ⊢
    have hp := po_own hown2
    exact h _ _ w2 (.inr ⟨g2, rfl, hp.2.1, hp.1⟩) hp.2.2.1 ((Below.refl _ _).grown hgrow (Nat.le_refl _) (fun q hq => by simp [Value.ownBlock] at hq))
  . obtain rfl : l = [] := List.length_eq_zero_iff.1 (by omega)
    refine wpList_plain hgd fun K hK => ?_
    have hrun := fun ty => run_app_noneP ao c ty w
    have hx' : a.eval x = .slice ao 0 c := hx
    unfold Oper.wp
    simp [execOp, ho, resolve, invoke, builtin, hs, hx', hrun, Result.andThen]
    exact hK _ _ (h none 0 w (.inl rfl) (Nat.le_refl _) (Below.refl _ _))
theorem three3 (w : World) (a b c a1 b1 c1 a2 b2 c2 : Value) : At3 (((w.alloc (.cells #[a, b, c] 24)).alloc (.cells #[a1, b1, c1] 24)).alloc (.cells #[a2, b2, c2] 24)) w.heap.size a b c /\ At3 (((w.alloc (.cells #[a, b, c] 24)).alloc (.cells #[a1, b1, c1] 24)).alloc (.cells #[a2, b2, c2] 24)) (w.heap.size + 1) a1 b1 c1 /\ At3 (((w.alloc (.cells #[a, b, c] 24)).alloc (.cells #[a1, b1, c1] 24)).alloc (.cells #[a2, b2, c2] 24)) (w.heap.size + 1 + 1) a2 b2 c2 :=
  ⟨(two3 w a b c a1 b1 c1).1.below (bnew _ _), (two3 w a b c a1 b1 c1).2.below (bnew _ _), by have := At3.new ((w.alloc (.cells #[a, b, c] 24)).alloc (.cells #[a1, b1, c1] 24)) a2 b2 c2; simpa using this⟩
structure Cp (w V : World) (n : Int) (a b : Option Addr) (ns nd ca cb : Nat) (x y : Value) : Prop where
  tb : At3 V w.heap.size (.int .i64 n) (.slice a ns ca) (.slice b nd cb)
  zr : At3 V (w.heap.size + 1) (.int .i64 0) (.slice none 0 0) (.slice none 0 0)
  cp : At3 V (w.heap.size + 1 + 1) (.int .i64 n) x y
  bw : Below w.heap.size w V
theorem Cp.keep {w V V' : World} {n : Int} {a b : Option Addr} {ns nd ca cb : Nat} {x y : Value} (h : Cp w V n a b ns nd ca cb x y) {B : Nat} (hB : V.heap.size = B) (hb : Below B V V') : Cp w V' n a b ns nd ca cb x y := by
  subst hB
  exact ⟨h.tb.below hb, h.zr.below hb, h.cp.below hb, bkp h.bw hb⟩
theorem Cp.set1 {w V : World} {n : Int} {a b : Option Addr} {ns nd ca cb : Nat} {x y : Value} (h : Cp w V n a b ns nd ca cb x y) (v : Value) : Cp w (V.setCell ⟨w.heap.size + 1 + 1, 1, none⟩ v) n a b ns nd ca cb v y :=
  ⟨(Below.heap_setCell _ _ _ _ (show w.heap.size ≠ w.heap.size + 1 + 1 by omega)).trans h.tb, (Below.heap_setCell _ _ _ _ (show w.heap.size + 1 ≠ w.heap.size + 1 + 1 by omega)).trans h.zr, h.cp.set1 v, h.bw.setCell (p := ⟨w.heap.size + 1 + 1, 1, none⟩) (by show w.heap.size <= w.heap.size + 1 + 1; omega) _⟩
theorem Cp.set2 {w V : World} {n : Int} {a b : Option Addr} {ns nd ca cb : Nat} {x y : Value} (h : Cp w V n a b ns nd ca cb x y) (v : Value) : Cp w (V.setCell ⟨w.heap.size + 1 + 1, 2, none⟩ v) n a b ns nd ca cb x v :=
  ⟨(Below.heap_setCell _ _ _ _ (show w.heap.size ≠ w.heap.size + 1 + 1 by omega)).trans h.tb, (Below.heap_setCell _ _ _ _ (show w.heap.size + 1 ≠ w.heap.size + 1 + 1 by omega)).trans h.zr, h.cp.set2 v, h.bw.setCell (p := ⟨w.heap.size + 1 + 1, 2, none⟩) (by show w.heap.size <= w.heap.size + 1 + 1; omega) _⟩
theorem dCopy (t : TT) (a b : Option Addr) (ca cb : Nat) (hs : t.s.length <= 4398046511104) (hd : t.d.length <= 4398046511104) (w : World) (h : Th w t a b ca cb) :
    Calls Tryd.prog 8 #[tV t a b ca cb] w fun e w' => ∃ a' b' ca' cb', e = .returned (tV t a' b' ca' cb') /\ Tn w' w.heap.size t a' b' ca' cb' /\ Below w.heap.size w w' := by
  obtain ⟨hA, hZ, hC⟩ := three3 w (.int .i64 t.n) (.slice a t.s.length ca) (.slice b t.d.length cb) (.int .i64 0) (.slice none 0 0) (.slice none 0 0) (.int .i64 t.n) (.slice none 0 0) (.slice none 0 0)
  have HB0 := hide (bkp (bkp (bnew w (.cells #[.int .i64 t.n, .slice a t.s.length ca, .slice b t.d.length cb] 24)) (bnew _ (.cells #[.int .i64 0, .slice none 0 0, .slice none 0 0] 24))) (bnew _ (.cells #[.int .i64 t.n, .slice none 0 0, .slice none 0 0] 24)))
  have HCP := hide (Cp.mk hA hZ hC HB0.out)
  have HS := hide h.s
  have HD := hide h.d
  unfold tV
  clear hA hZ hC HB0 h
  obtain ⟨n, sl, dl⟩ := t
  simp only at *
  obtain ⟨ns, hns⟩ : ∃ k, sl.length = k := ⟨_, rfl⟩
  obtain ⟨nd, hnd⟩ : ∃ k, dl.length = k := ⟨_, rfl⟩
  have HNS := hide hns
  have HND := hide hnd
  rw [hns] at hs HCP ⊢
  rw [hnd] at hd HCP ⊢
  clear hns hnd
  obtain ⟨x0, x1, x2, x3⟩ := HCP.out.tb.cells
  obtain ⟨y0, y1, y2, y3⟩ := HCP.out.cp.cells
  go_enter Tryd.func8, Tryd.ntmps8
  go_wp2_with (at_builtin; refine app_rowP rfl _ _ rfl rfl a ca sl ns (w.heap.size + 1 + 1 + 1) HNS.out rfl (HS.out.below HCP.out.bw) hs (by simp) ?_)
  intro ao1 c1 w1 hp1 hc1 hb1
  have HK := hide (HCP.out.keep (by simp) hb1)
  have HL1 : Hid (w.heap.size + 1 + 1 + 1 <= w1.heap.size) := hide (by have := hb1.size; simp at this; omega)
  have HC1 := hide (HK.out.set1 (.slice ao1 ns c1))
  have HP1 := hide (And.intro (hp1.kept (w' := w1.setCell ⟨w.heap.size + 1 + 1, 1, none⟩ (.slice ao1 ns c1)) (fun g hg hl => Below.heap_setCell _ _ _ _ (show g ≠ w.heap.size + 1 + 1 by omega))) hc1)
  clear x0 x1 x2 x3 y0 y1 y2 y3 hp1 hc1 hb1 HCP
  obtain ⟨v0, v1, v2, v3⟩ := HK.out.cp.cells
  have vf := fun j => At3.fz HK.out.cp j
  obtain ⟨k0, k1, k2, k3⟩ := HC1.out.tb.cells
  obtain ⟨z0, z1, z2, z3⟩ := HC1.out.cp.cells
  go_wp2_with (at_builtin; refine app_rowP rfl _ _ rfl rfl b cb dl nd w1.heap.size HND.out rfl (HD.out.below HC1.out.bw) hd (by simp [World.setCell]) ?_)
  intro ao2 c2 w2 hp2 hc2 hb2
  have HK2 := hide (HC1.out.keep (by simp [World.setCell]) hb2)
  have HC2 := hide (HK2.out.set2 (.slice ao2 nd c2))
  have HPA := hide ((HP1.out.1.below (by rw [show (w1.setCell ⟨w.heap.size + 1 + 1, 1, none⟩ (.slice ao1 ns c1)).heap.size = w1.heap.size by simp [World.setCell]]; exact hb2)).kept (w' := w2.setCell ⟨w.heap.size + 1 + 1, 2, none⟩ (.slice ao2 nd c2)) (fun g hg hl => Below.heap_setCell _ _ _ _ (show g ≠ w.heap.size + 1 + 1 by omega)))
  have HPB := hide (hp2.kept (w' := w2.setCell ⟨w.heap.size + 1 + 1, 2, none⟩ (.slice ao2 nd c2)) (fun g hg hl => Below.heap_setCell _ _ _ _ (show g ≠ w.heap.size + 1 + 1 by have := HL1.out; omega)))
  have HNE := hide (HP1.out.1.ne hp2 (by simp [World.setCell]))
  have HCC := hide (And.intro HP1.out.2 hc2)
  clear v0 v1 v2 v3 vf k0 k1 k2 k3 z0 z1 z2 z3 hp2 hc2 hb2 HK HC1 HP1
  obtain ⟨j0, j1, j2, j3⟩ := HK2.out.cp.cells
  have jf := fun j => At3.fz HK2.out.cp j
  obtain ⟨r0, r1, r2, r3⟩ := HC2.out.cp.cells
  have hR := HC2.out.zr
  unfold At3 at hR
  have HF : Hid (Tn ((w2.setCell ⟨w.heap.size + 1 + 1, 2, none⟩ (.slice ao2 nd c2)).setRow (w.heap.size + 1) #[.int .i64 n, .slice ao1 ns c1, .slice ao2 nd c2]) w.heap.size ⟨n, sl, dl⟩ ao1 ao2 c1 c2 /\ Below w.heap.size w ((w2.setCell ⟨w.heap.size + 1 + 1, 2, none⟩ (.slice ao2 nd c2)).setRow (w.heap.size + 1) #[.int .i64 n, .slice ao1 ns c1, .slice ao2 nd c2])) := hide ⟨⟨(HPA.out.kept (fun g hg _ => setRow_other _ _ _ _ (by omega))).base (by omega), (HPB.out.kept (fun g hg _ => setRow_other _ _ _ _ (by have := HL1.out; omega))).base (by have := HL1.out; omega), HNE.out, by show sl.length <= _; rw [HNS.out]; exact HCC.out.1, by show dl.length <= _; rw [HND.out]; exact HCC.out.2⟩, below_setRow HC2.out.bw (by omega) _⟩
  clear HPA HPB HNE HK2
  go_wp2_with (first
      | (refine wpList_store_row rfl _ _ _ rfl (w.heap.size + 1) _ rfl rfl _ _ hR (by exact infoT) (by rfl) (all3 _ _ _ _ _ _ _) ?_))
  refine bodyPost_ret (results_c rfl _ _ (w.heap.size + 1) _ _ _ _ rfl (setRow_heap _ _ _ _ _ _ hR) Tryd.underlying24 rfl (by exact infoT)) rfl ?_
  exact ⟨ao1, ao2, c1, c2, rfl, HF.out.1, HF.out.2⟩
end Go.Proofs.YtaggifpnamjghaaDoor.Tbl
