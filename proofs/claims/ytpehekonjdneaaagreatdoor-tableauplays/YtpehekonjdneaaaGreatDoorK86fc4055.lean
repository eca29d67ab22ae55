import Derived.Test.YtpehekonjdneaaaGreatDoorK1b771bcd
set_option maxRecDepth 100000
set_option maxHeartbeats 4000000
namespace Go.Proofs.YtpehekonjdneaaaGreatDoor.Tbl
open Go.RowKit Go.Shelf Go.Proofs.YtpehekonjdneaaaGreatDoor.Pau Go.Proofs.YtpehekonjdneaaaGreatDoor.Gt
theorem run_app_noneP (ao : Option Addr) (c ty : Nat) (w : World) : (Builtin.append_ #[27, 27] ty #[.slice none 0 0, .slice ao 0 c]).run Tryz.prog w = .ok (.slice none 0 0) w := by
  obtain ⟨i0, hi, hz0, hz1, hz2⟩ := info_parts infoP3
  have ht := Tryz.underlying27
  cases ao <;> simp [Builtin.append_, run_underlying ht, sizeOf, typeInfo, hi, Builtin.lenOf, Builtin.firstCells, loadCells, loadCellsFrom]
theorem app_rowP {ops : Array Oper} {rest : List Oper} {o : Oper} {a : Act} {Q : Exit -> Act -> World -> Prop} {w : World} (hgd : o.guard = none) (s x : Operand)
    (ho : o.op = .call { callee := .builtin .append, args := #[s, x], argTypes := #[27, 27] }) (hs : a.eval s = .slice none 0 0)
    (ao : Option Addr) (c : Nat) (l : List P) (n B : Nat) (hn : l.length = n) (hx : a.eval x = .slice ao n c) (hN : PIn w ao l) (hl : n <= 4398046511104) (hB : w.heap.size = B)
    (h : ∀ ao' c' w', POo w' B ao' l -> n <= c' -> Below B w w' -> wpList Tryz.prog ops Q rest (a.put o.dst (.slice ao' n c')) w') : wpList Tryz.prog ops Q (o :: rest) a w := by
  obtain ⟨i0, hi, hz0, hz1, hz2⟩ := info_parts infoP3
  subst hn
  subst hB
  by_cases h0 : 0 < l.length
  . obtain ⟨g, off, rfl, hc⟩ := hN.get h0
    refine wpList_append_lies w hgd s x 27 ho w.heap.size 25 i0 _ 4 32 Tryz.underlying27 hi hz0 hz1 hz2 rfl (by decide) _ 0 [] hs ⟨rfl, .inl ⟨rfl, rfl⟩⟩ ⟨g, off, none⟩ l.length c (fl l) hx (fl_len l) (fl_news hc) (fl_one l) h0 (by unfold maxLen; omega) (by omega) (Nat.le_refl _) _ rfl ?_
    intro g2 cap w2 hown2 hgrow hat hlt
    simp only [Nat.zero_add, List.nil_append] at hown2 ⊢
    have hp := po_own hown2
    exact h _ _ w2 (.inr ⟨g2, rfl, hp.2.1, hp.1⟩) hp.2.2.1 ((Below.refl _ _).grown hgrow (Nat.le_refl _) (fun q hq => by simp [Value.ownBlock] at hq))
  . obtain rfl : l = [] := List.length_eq_zero_iff.1 (by omega)
    refine wpList_plain hgd fun K hK => ?_
    have hrun := fun ty => run_app_noneP ao c ty w
    have hx' : a.eval x = .slice ao 0 c := hx
    unfold Oper.wp
    simp [execOp, ho, resolve, invoke, builtin, hs, hx', hrun, Result.andThen]
    exact hK _ _ (h none 0 w (.inl rfl) (Nat.le_refl _) (Below.refl _ _))
theorem three3 (w : World) (a b c a1 b1 c1 a2 b2 c2 : Value) : At3 (((w.alloc (.cells #[a, b, c] 29)).alloc (.cells #[a1, b1, c1] 29)).alloc (.cells #[a2, b2, c2] 29)) w.heap.size a b c /\ At3 (((w.alloc (.cells #[a, b, c] 29)).alloc (.cells #[a1, b1, c1] 29)).alloc (.cells #[a2, b2, c2] 29)) (w.heap.size + 1) a1 b1 c1 /\ At3 (((w.alloc (.cells #[a, b, c] 29)).alloc (.cells #[a1, b1, c1] 29)).alloc (.cells #[a2, b2, c2] 29)) (w.heap.size + 1 + 1) a2 b2 c2 :=
  ⟨(two3 w a b c a1 b1 c1).1.below (bnew _ _), (two3 w a b c a1 b1 c1).2.below (bnew _ _), by have := At3.new ((w.alloc (.cells #[a, b, c] 29)).alloc (.cells #[a1, b1, c1] 29)) a2 b2 c2; simpa using this⟩
structure Cp (w V : World) (n : Int) (a b : Option Addr) (ns nd ca cb : Nat) (x y : Value) : Prop where
  tb : At3 V w.heap.size (.int .i64 n) (.slice a ns ca) (.slice b nd cb)
  zr : At3 V (w.heap.size + 1) (.int .i64 0) (.slice none 0 0) (.slice none 0 0)
  cp : At3 V (w.heap.size + 1 + 1) (.int .i64 n) x y
  bw : Below w.heap.size w V
theorem Cp.keep {w V V' : World} {n : Int} {a b : Option Addr} {ns nd ca cb : Nat} {x y : Value} (h : Cp w V n a b ns nd ca cb x y) {B : Nat} (hB : V.heap.size = B) (hb : Below B V V') : Cp w V' n a b ns nd ca cb x y := by
  subst hB
  exact ⟨h.tb.below hb, h.zr.below hb, h.cp.below hb, bkp h.bw hb⟩
theorem Cp.set1 {w V : World} {n : Int} {a b : Option Addr} {ns nd ca cb : Nat} {x y : Value} (h : Cp w V n a b ns nd ca cb x y) (v : Value) : Cp w (V.setCell ⟨w.heap.size + 1 + 1, 1, none⟩ v) n a b ns nd ca cb v y :=
  ⟨(Below.heap_setCell _ _ _ _ (show w.heap.size ≠ w.heap.size + 1 + 1 by omega)).trans h.tb, (Below.heap_setCell _ _ _ _ (show w.heap.size + 1 ≠ w.heap.size + 1 + 1 by omega)).trans h.zr, h.cp.set1 v, h.bw.setCell (p := ⟨w.heap.size + 1 + 1, 1, none⟩) (by show w.heap.size <= w.heap.size + 1 + 1; omega) _⟩
theorem Cp.set2 {w V : World} {n : Int} {a b : Option Addr} {ns nd ca cb : Nat} {x y : Value} (h : Cp w V n a b ns nd ca cb x y) (v : Value) : Cp w (V.setCell ⟨w.heap.size + 1 + 1, 2, none⟩ v) n a b ns nd ca cb x v :=
  ⟨(Below.heap_setCell _ _ _ _ (show w.heap.size ≠ w.heap.size + 1 + 1 by omega)).trans h.tb, (Below.heap_setCell _ _ _ _ (show w.heap.size + 1 ≠ w.heap.size + 1 + 1 by omega)).trans h.zr, h.cp.set2 v, h.bw.setCell (p := ⟨w.heap.size + 1 + 1, 2, none⟩) (by show w.heap.size <= w.heap.size + 1 + 1; omega) _⟩
theorem dCopy (t : TT) (a b : Option Addr) (ca cb : Nat) (hs : t.s.length <= 4398046511104) (hd : t.d.length <= 4398046511104) (w : World) (h : Th w t a b ca cb) :
    Calls Tryz.prog 8 #[tV t a b ca cb] w fun e w' => ∃ a' b' ca' cb', e = .returned (tV t a' b' ca' cb') /\ Tn w' w.heap.size t a' b' ca' cb' /\ Below w.heap.size w w' := by
  obtain ⟨hA, hZ, hC⟩ := three3 w (.int .i64 t.n) (.slice a t.s.length ca) (.slice b t.d.length cb) (.int .i64 0) (.slice none 0 0) (.slice none 0 0) (.int .i64 t.n) (.slice none 0 0) (.slice none 0 0)
  have HB0 := hide (bkp (bkp (bnew w (.cells #[.int .i64 t.n, .slice a t.s.length ca, .slice b t.d.length cb] 29)) (bnew _ (.cells #[.int .i64 0, .slice none 0 0, .slice none 0 0] 29))) (bnew _ (.cells #[.int .i64 t.n, .slice none 0 0, .slice none 0 0] 29)))
  have HCP := hide (Cp.mk hA hZ hC HB0.out)
  have HS := hide h.s
  have HD := hide h.d
  unfold tV
  clear hA hZ hC HB0 h
  obtain ⟨n, sl, dl⟩ := t
  simp only at *
  obtain ⟨ns, hns⟩ : ∃ k, sl.length = k := ⟨_, rfl⟩
  obtain ⟨nd, hnd⟩ : ∃ k, dl.length = k := ⟨_, rfl⟩
  have HNS := hide hns
  have HND := hide hnd
  rw [hns] at hs HCP ⊢
  rw [hnd] at hd HCP ⊢
  clear hns hnd
  obtain ⟨x0, x1, x2, x3⟩ := HCP.out.tb.cells
  obtain ⟨y0, y1, y2, y3⟩ := HCP.out.cp.cells
  go_enter Tryz.func8, Tryz.ntmps8
  go_wp2_with (at_builtin; refine app_rowP rfl _ _ rfl rfl a ca sl ns (w.heap.size + 1 + 1 + 1) HNS.out rfl (HS.out.below HCP.out.bw) hs (by simp) ?_)
  intro ao1 c1 w1 hp1 hc1 hb1
  have HK := hide (HCP.out.keep (by simp) hb1)
  have HL1 : Hid (w.heap.size + 1 + 1 + 1 <= w1.heap.size) := hide (by have := hb1.size; simp at this; omega)
  have HC1 := hide (HK.out.set1 (.slice ao1 ns c1))
  have HP1 := hide (And.intro (hp1.kept (w' := w1.setCell ⟨w.heap.size + 1 + 1, 1, none⟩ (.slice ao1 ns c1)) (fun g hg hl => Below.heap_setCell _ _ _ _ (show g ≠ w.heap.size + 1 + 1 by omega))) hc1)
  clear x0 x1 x2 x3 y0 y1 y2 y3 hp1 hc1 hb1 HCP
  obtain ⟨v0, v1, v2, v3⟩ := HK.out.cp.cells
  have vf := fun j => At3.fz HK.out.cp j
  obtain ⟨k0, k1, k2, k3⟩ := HC1.out.tb.cells
  obtain ⟨z0, z1, z2, z3⟩ := HC1.out.cp.cells
  go_wp2_with (at_builtin; refine app_rowP rfl _ _ rfl rfl b cb dl nd w1.heap.size HND.out rfl (HD.out.below HC1.out.bw) hd (by simp [World.setCell]) ?_)
  intro ao2 c2 w2 hp2 hc2 hb2
  have HK2 := hide (HC1.out.keep (by simp [World.setCell]) hb2)
  have HC2 := hide (HK2.out.set2 (.slice ao2 nd c2))
  have HPA := hide ((HP1.out.1.below (by rw [show (w1.setCell ⟨w.heap.size + 1 + 1, 1, none⟩ (.slice ao1 ns c1)).heap.size = w1.heap.size by simp [World.setCell]]; exact hb2)).kept (w' := w2.setCell ⟨w.heap.size + 1 + 1, 2, none⟩ (.slice ao2 nd c2)) (fun g hg hl => Below.heap_setCell _ _ _ _ (show g ≠ w.heap.size + 1 + 1 by omega)))
  have HPB := hide (hp2.kept (w' := w2.setCell ⟨w.heap.size + 1 + 1, 2, none⟩ (.slice ao2 nd c2)) (fun g hg hl => Below.heap_setCell _ _ _ _ (show g ≠ w.heap.size + 1 + 1 by have := HL1.out; omega)))
  have HNE := hide (HP1.out.1.ne hp2 (by simp [World.setCell]))
  have HCC := hide (And.intro HP1.out.2 hc2)
  clear v0 v1 v2 v3 vf k0 k1 k2 k3 z0 z1 z2 z3 hp2 hc2 hb2 HK HC1 HP1
  obtain ⟨j0, j1, j2, j3⟩ := HK2.out.cp.cells
  have jf := fun j => At3.fz HK2.out.cp j
  obtain ⟨r0, r1, r2, r3⟩ := HC2.out.cp.cells
  have hR := HC2.out.zr
  unfold At3 at hR
  have HF : Hid (Tn ((w2.setCell ⟨w.heap.size + 1 + 1, 2, none⟩ (.slice ao2 nd c2)).setRow (w.heap.size + 1) #[.int .i64 n, .slice ao1 ns c1, .slice ao2 nd c2]) w.heap.size ⟨n, sl, dl⟩ ao1 ao2 c1 c2 /\ Below w.heap.size w ((w2.setCell ⟨w.heap.size + 1 + 1, 2, none⟩ (.slice ao2 nd c2)).setRow (w.heap.size + 1) #[.int .i64 n, .slice ao1 ns c1, .slice ao2 nd c2])) := hide ⟨⟨(HPA.out.kept (fun g hg _ => setRow_other _ _ _ _ (by omega))).base (by omega), (HPB.out.kept (fun g hg _ => setRow_other _ _ _ _ (by have := HL1.out; omega))).base (by have := HL1.out; omega), HNE.out, by show sl.length <= _; rw [HNS.out]; exact HCC.out.1, by show dl.length <= _; rw [HND.out]; exact HCC.out.2⟩, below_setRow HC2.out.bw (by omega) _⟩
  clear HPA HPB HNE HK2
  go_wp2_with (first
      | (refine wpList_store_row rfl _ _ _ rfl (w.heap.size + 1) _ rfl rfl _ _ hR (by exact infoT) (by rfl) (all3 _ _ _ _ _ _ _) ?_))
  refine bodyPost_ret (results_c rfl _ _ (w.heap.size + 1) _ _ _ _ rfl (setRow_heap _ _ _ _ _ _ hR) Tryz.underlying29 rfl (by exact infoT)) rfl ?_
  exact ⟨ao1, ao2, c1, c2, rfl, HF.out.1, HF.out.2⟩
theorem bkp3 (w : World) (a b c : Obj) : Below w.heap.size w (((w.alloc a).alloc b).alloc c) := bkp (bkp (bnew w a) (bnew _ b)) (bnew _ c)
theorem tKron_no (t u : TT) (a b a2 b2 : Option Addr) (ca cb ca2 cb2 : Nat) (hno : ¬ (chB t = true /\ chB u = true /\ t.n + u.n <= 64)) (w : World) (h : Th w t a b ca cb) (h2 : Th w u a2 b2 ca2 cb2) :
    Calls Tryz.prog 13 #[tV t a b ca cb, tV u a2 b2 ca2 cb2] w fun e w' => ∃ a' b' ca' cb', e = .returned (.tuple #[tV (krR t u).1 a' b' ca' cb', .int .i64 (krR t u).2]) /\ Th w' (krR t u).1 a' b' ca' cb' /\ Below w.heap.size w w' := by
  have HC1 := hide (fun W (hb : Below w.heap.size w W) => tCheck t a b ca cb W (h.below hb))
  have HC2 := hide (fun W (hb : Below w.heap.size w W) => tCheck u a2 b2 ca2 cb2 W (h2.below hb))
  obtain ⟨hA, hU, hZ⟩ := three3 w (.int .i64 t.n) (.slice a t.s.length ca) (.slice b t.d.length cb) (.int .i64 u.n) (.slice a2 u.s.length ca2) (.slice b2 u.d.length cb2) (.int .i64 0) (.slice none 0 0) (.slice none 0 0)
  have HB0 := hide (bkp3 w (.cells #[.int .i64 t.n, .slice a t.s.length ca, .slice b t.d.length cb] 29) (.cells #[.int .i64 u.n, .slice a2 u.s.length ca2, .slice b2 u.d.length cb2] 29) (.cells #[.int .i64 0, .slice none 0 0, .slice none 0 0] 29))
  have HA := hide hA
  have HU := hide hU
  have HZ := hide hZ
  clear hA hU hZ h h2
  have HZT := hide th_zero
  unfold zrT at HZT
  unfold tV at HC1 HC2 ⊢
  unfold krR
  by_cases hc : chB t = true
  . by_cases hc2 : chB u = true
    . have hgt : ¬ t.n + u.n <= 64 := fun e => hno ⟨hc, hc2, e⟩
      rw [if_pos ⟨hc, hc2⟩, if_neg hgt]
      unfold chI at HC1 HC2
      rw [if_pos hc] at HC1
      rw [if_pos hc2] at HC2
      obtain ⟨h0, h64, -, -⟩ := sz_of (ch_size hc)
      obtain ⟨k0, k64, -, -⟩ := sz_of (ch_size hc2)
      have hw : wrap64 (t.n + u.n) = t.n + u.n := by unfold wrap64; omega
      have hd : decide (64 < t.n + u.n) = true := decide_eq_true (by omega)
      clear hno hc hc2 hgt h0 h64 k0 k64
      unfold zrT
      simp only [List.length_nil] at HZT ⊢
      generalize t.s.length = ns at *
      generalize t.d.length = nd at *
      generalize u.s.length = us at *
      generalize u.d.length = ud at *
      generalize t.n = n at *
      generalize u.n = m at *
      go_enter Tryz.func13, Tryz.ntmps13
      go_wp2_with fail
      refine (HC1.out _ HB0.out).mono ?_
      rintro e w1 ⟨rfl, hb1⟩
      have HB1 := hide (bkp HB0.out hb1)
      have HA1 := hide (HA.out.below hb1)
      have HU1 := hide (HU.out.below hb1)
      have HZ1 := hide (HZ.out.below hb1)
      clear hb1 HA HU HZ HB0 HC1
      obtain ⟨y0, y1, y2, y3⟩ := HU1.out.cells
      go_wp2_with fail
      refine (HC2.out _ HB1.out).mono ?_
      rintro e w2 ⟨rfl, hb2⟩
      have HB2 := hide (bkp HB1.out hb2)
      obtain ⟨x0, x1, x2, x3⟩ := (HA1.out.below hb2).cells
      obtain ⟨v0, v1, v2, v3⟩ := (HU1.out.below hb2).cells
      have hR := HZ1.out.below hb2
      clear hb2 HA1 HZ1 HU1 HB1 HC2 y0 y1 y2 y3
      unfold At3 at hR
      go_wp2_with (first
        | (refine wpList_store_row rfl _ _ _ rfl (w.heap.size + 1 + 1) _ rfl rfl _ _ hR (by exact infoT) (by rfl) (all3 _ _ _ _ _ _ _) ?_))
      refine bodyPost_ret (Pau.results_ct rfl _ _ (w.heap.size + 1 + 1) _ _ _ _ rfl (setRow_heap _ _ _ _ _ _ hR) Tryz.underlying29 rfl (by exact infoT)) rfl ?_
      exact ⟨none, none, 0, 0, rfl, HZT.out _, below_setRow HB2.out (by omega) _⟩
    . rw [if_neg (fun e => hc2 e.2)]
      unfold chI at HC1 HC2
      rw [if_pos hc] at HC1
      rw [if_neg hc2] at HC2
      clear hno hc hc2
      unfold zrT
      simp only [List.length_nil] at HZT ⊢
      generalize t.s.length = ns at *
      generalize t.d.length = nd at *
      generalize u.s.length = us at *
      generalize u.d.length = ud at *
      generalize t.n = n at *
      generalize u.n = m at *
      go_enter Tryz.func13, Tryz.ntmps13
      go_wp2_with fail
      refine (HC1.out _ HB0.out).mono ?_
      rintro e w1 ⟨rfl, hb1⟩
      have HB1 := hide (bkp HB0.out hb1)
      have HU1 := hide (HU.out.below hb1)
      have HZ1 := hide (HZ.out.below hb1)
      clear hb1 HA HU HZ HB0 HC1
      obtain ⟨y0, y1, y2, y3⟩ := HU1.out.cells
      go_wp2_with fail
      refine (HC2.out _ HB1.out).mono ?_
      rintro e w2 ⟨rfl, hb2⟩
      have HB2 := hide (bkp HB1.out hb2)
      have hR := HZ1.out.below hb2
      clear hb2 HZ1 HU1 HB1 HC2 y0 y1 y2 y3
      unfold At3 at hR
      go_wp2_with (first
        | (refine wpList_store_row rfl _ _ _ rfl (w.heap.size + 1 + 1) _ rfl rfl _ _ hR (by exact infoT) (by rfl) (all3 _ _ _ _ _ _ _) ?_))
      refine bodyPost_ret (Pau.results_ct rfl _ _ (w.heap.size + 1 + 1) _ _ _ _ rfl (setRow_heap _ _ _ _ _ _ hR) Tryz.underlying29 rfl (by exact infoT)) rfl ?_
      exact ⟨none, none, 0, 0, rfl, HZT.out _, below_setRow HB2.out (by omega) _⟩
  . rw [if_neg (fun e => hc e.1)]
    unfold chI at HC1
    rw [if_neg hc] at HC1
    clear hno hc HC2 HU HA
    unfold zrT
    simp only [List.length_nil] at HZT ⊢
    generalize t.s.length = ns at *
    generalize t.d.length = nd at *
    generalize u.s.length = us at *
    generalize u.d.length = ud at *
    generalize t.n = n at *
    generalize u.n = m at *
    go_enter Tryz.func13, Tryz.ntmps13
    go_wp2_with fail
    refine (HC1.out _ HB0.out).mono ?_
    rintro e w1 ⟨rfl, hb1⟩
    have HB1 := hide (bkp HB0.out hb1)
    have hR := HZ.out.below hb1
    clear hb1 HZ HB0 HC1
    unfold At3 at hR
    go_wp2_with (first
      | (refine wpList_store_row rfl _ _ _ rfl (w.heap.size + 1 + 1) _ rfl rfl _ _ hR (by exact infoT) (by rfl) (all3 _ _ _ _ _ _ _) ?_))
    refine bodyPost_ret (Pau.results_ct rfl _ _ (w.heap.size + 1 + 1) _ _ _ _ rfl (setRow_heap _ _ _ _ _ _ hR) Tryz.underlying29 rfl (by exact infoT)) rfl ?_
    exact ⟨none, none, 0, 0, rfl, HZT.out _, below_setRow HB1.out (by omega) _⟩
theorem tKron_ok (t u : TT) (a b a2 b2 : Option Addr) (ca cb ca2 cb2 : Nat) (hc : chB t = true) (hc2 : chB u = true) (hle : t.n + u.n <= 64) (w : World) (h : Th w t a b ca cb) (h2 : Th w u a2 b2 ca2 cb2) :
    Calls Tryz.prog 13 #[tV t a b ca cb, tV u a2 b2 ca2 cb2] w fun e w' => ∃ a' b' ca' cb', e = .returned (.tuple #[tV ⟨t.n + u.n, krL (t.n + u.n) t.s u.s, krL (t.n + u.n) t.d u.d⟩ a' b' ca' cb', .int .i64 0]) /\ Th w' ⟨t.n + u.n, krL (t.n + u.n) t.s u.s, krL (t.n + u.n) t.d u.d⟩ a' b' ca' cb' /\ Below w.heap.size w w' := by
  obtain ⟨h0, h64, hls, hld⟩ := sz_of (ch_size hc)
  obtain ⟨k0, k64, kls, kld⟩ := sz_of (ch_size hc2)
  obtain ⟨N, hNn⟩ : ∃ N : Nat, t.n = (N : Int) := ⟨t.n.toNat, by omega⟩
  obtain ⟨M, hMn⟩ : ∃ N : Nat, u.n = (N : Int) := ⟨u.n.toNat, by omega⟩
  rw [hNn, Int.toNat_natCast] at hls hld
  rw [hMn, Int.toNat_natCast] at kls kld
  obtain ⟨K, hK⟩ : ∃ K, N + M = K := ⟨_, rfl⟩
  have hKK : t.n + u.n = (K : Int) := by omega
  have hK64 : K <= 64 := by omega
  have HC1 := hide (fun W (hb : Below w.heap.size w W) => tCheck t a b ca cb W (h.below hb))
  have HC2 := hide (fun W (hb : Below w.heap.size w W) => tCheck u a2 b2 ca2 cb2 W (h2.below hb))
  unfold chI at HC1 HC2
  rw [if_pos hc] at HC1
  rw [if_pos hc2] at HC2
  have HC3 := hide (fun W (hb : Below w.heap.size w W) => tBeside t.s u.s K (by omega) hK64 a a2 ca ca2 W (h.s.below hb) (h2.s.below hb) h.ws h2.ws)
  have HC4 := hide (fun W (hb : Below w.heap.size w W) => tBeside t.d u.d K (by omega) hK64 b b2 cb cb2 W (h.d.below hb) (h2.d.below hb) h.wd h2.wd)
  have HK64 := hide hK64
  have HL1 : Hid ((krL (K : Int) t.s u.s).length = K) := hide (by rw [kr_len]; omega)
  have HL2 : Hid ((krL (K : Int) t.d u.d).length = K) := hide (by rw [kr_len]; omega)
  have HW1 := hide (kr_wl (K : Int) t.s u.s)
  have HW2 := hide (kr_wl (K : Int) t.d u.d)
  rw [hKK]
  obtain ⟨hA, hU, hZ⟩ := three3 w (.int .i64 t.n) (.slice a t.s.length ca) (.slice b t.d.length cb) (.int .i64 u.n) (.slice a2 u.s.length ca2) (.slice b2 u.d.length cb2) (.int .i64 0) (.slice none 0 0) (.slice none 0 0)
  have HB0 := hide (bkp3 w (.cells #[.int .i64 t.n, .slice a t.s.length ca, .slice b t.d.length cb] 29) (.cells #[.int .i64 u.n, .slice a2 u.s.length ca2, .slice b2 u.d.length cb2] 29) (.cells #[.int .i64 0, .slice none 0 0, .slice none 0 0] 29))
  have hwr : wrap64 ((N : Int) + (M : Int)) = (K : Int) := by unfold wrap64; omega
  have hd64 : decide (64 < (K : Int)) = false := decide_eq_false (by omega)
  have hd65 : decide (64 < K) = false := decide_eq_false (by omega)
  unfold tV at HC1 HC2 ⊢
  simp only [HL1.out, HL2.out]
  generalize krL (K : Int) t.s u.s = L1 at *
  generalize krL (K : Int) t.d u.d = L2 at *
  rw [hls, hld, hNn] at HC1 hA HB0 ⊢
  rw [kls, kld, hMn] at HC2 hA HB0 ⊢
  rw [hls, hld, hNn, kls, kld, hMn] at hU
  rw [hls, hld, hNn, kls, kld, hMn] at hZ
  rw [hls, kls] at HC3
  rw [hld, kld] at HC4
  have HA := hide hA
  have HU := hide hU
  have HZ := hide hZ
  clear hA hU hZ h h2 hc hc2 hle h0 h64 hls hld k0 k64 kls kld hNn hMn hKK hK hK64
  go_enter Tryz.func13, Tryz.ntmps13
  go_wp2_with fail
  refine (HC1.out _ HB0.out).mono ?_
  rintro e w1 ⟨rfl, hb1⟩
  have HB1 := hide (bkp HB0.out hb1)
  have HA1 := hide (HA.out.below hb1)
  have HU1 := hide (HU.out.below hb1)
  have HZ1 := hide (HZ.out.below hb1)
  clear hb1 HA HU HZ HB0 HC1
  obtain ⟨y0, y1, y2, y3⟩ := HU1.out.cells
  go_wp2_with fail
  refine (HC2.out _ HB1.out).mono ?_
  rintro e V0 ⟨rfl, hb2⟩
  have HB2 := hide (bkp HB1.out hb2)
  have HA2 := hide (HA1.out.below hb2)
  have HU2 := hide (HU1.out.below hb2)
  have HZ2 := hide (HZ1.out.below hb2)
  clear hb2 HA1 HZ1 HU1 HB1 HC2 y0 y1 y2 y3
  obtain ⟨x0, x1, x2, x3⟩ := HA2.out.cells
  obtain ⟨v0, v1, v2, v3⟩ := HU2.out.cells
  go_upto_region 6 with fail
  have hsz : w.heap.size + 1 + 1 < V0.heap.size := HZ2.out.lt
  have HSV : Hid (∀ V, Below (w.heap.size + 1 + 1) V0 V -> (Below (w.heap.size + 1 + 1) V0 V /\ (V.cell? ⟨w.heap.size, 1, none⟩ = some (.slice a N ca) /\ V.cell? ⟨w.heap.size, 2, none⟩ = some (.slice b N cb)) /\ V.cell? ⟨w.heap.size + 1, 1, none⟩ = some (.slice a2 M ca2) /\ V.cell? ⟨w.heap.size + 1, 2, none⟩ = some (.slice b2 M cb2))) := hide (fun V hV => by
    have g1 : At3 V w.heap.size (.int .i64 (N : Int)) (.slice a N ca) (.slice b N cb) := (hV.block w.heap.size (by omega)).trans HA2.out
    have g2 : At3 V (w.heap.size + 1) (.int .i64 (M : Int)) (.slice a2 M ca2) (.slice b2 M cb2) := (hV.block (w.heap.size + 1) (by omega)).trans HU2.out
    obtain ⟨-, k1, k2, -⟩ := g1.cells
    obtain ⟨-, j1, j2, -⟩ := g2.cells
    exact ⟨hV, ⟨k1, k2⟩, j1, j2⟩)
  have HBV : Hid (∀ V, Below (w.heap.size + 1 + 1) V0 V -> Below w.heap.size w V) := hide (fun V hV => HB2.out.trans (hV.mono (by omega)))
  have HM : Hid (∀ V W, Below (w.heap.size + 1 + 1) V0 V -> Below V.heap.size V W -> Below (w.heap.size + 1 + 1) V0 W) := hide (fun V W h1 h2 => h1.trans (h2.mono (by have := h1.size; omega)))
  have HD0 : Hid (Below (w.heap.size + 1 + 1) V0 V0.drew) := hide (Below.refl _ _).drew
  have HE1 : Hid (Below V0.heap.size V0 V0.drew) := hide (Below.refl _ _).drew
  clear x0 x1 x2 x3 v0 v1 v2 v3
  go_region_held3 (fun V => Below (w.heap.size + 1 + 1) V0 V /\ (V.cell? ⟨w.heap.size, 1, none⟩ = some (.slice a N ca) /\ V.cell? ⟨w.heap.size, 2, none⟩ = some (.slice b N cb)) /\ V.cell? ⟨w.heap.size + 1, 1, none⟩ = some (.slice a2 M ca2) /\ V.cell? ⟨w.heap.size + 1, 2, none⟩ = some (.slice b2 M cb2))
    (first | exact HSV.out _ HD0.out | exact HSV.out _ (by assumption) | exact HSV.out _ (((Below.setCell (by assumption) (p := ⟨_, 0, none⟩) (Nat.le_refl _) _).setCell (p := ⟨_, 1, none⟩) (Nat.le_refl _) _).setCell (p := ⟨_, 2, none⟩) (Nat.le_refl _) _))
    (first
      | (go_at_call 38; (with_reducible refine Calls.mono (HC3.out _ (HBV.out _ (‹Below (w.heap.size + 1 + 1) V0 _ /\ _›.1))) ?_); rintro e w3 ⟨a', ca', rfl, ho3, hl3, q3⟩; have hb3 := HM.out _ _ (‹Below (w.heap.size + 1 + 1) V0 _ /\ _›.1) q3; have hy3 := bkp HE1.out q3)
      | (go_at_call 38; (with_reducible refine Calls.mono (HC4.out _ (HBV.out _ (‹Below (w.heap.size + 1 + 1) V0 _ /\ _›.1))) ?_); rintro e w4 ⟨b', cb', rfl, ho4, hl4, q4⟩; have hb4 := HM.out _ _ (‹Below (w.heap.size + 1 + 1) V0 _ /\ _›.1) q4; have hz4 := HZ2.out.below (bkp hy3 q4); obtain ⟨z0, z1, z2, z3⟩ := hz4.cells; have zf : ∀ j, w4.frozen? ⟨w.heap.size + 1 + 1, j, none⟩ = false := (fun j => by unfold At3 at hz4; simp [World.frozen?, hz4])))
  have HX : Hid (At3 (((w4.setCell ⟨w.heap.size + 1 + 1, 0, none⟩ (.int .i64 (K : Int))).setCell ⟨w.heap.size + 1 + 1, 1, none⟩ (.slice a' K ca')).setCell ⟨w.heap.size + 1 + 1, 2, none⟩ (.slice b' K cb')) (w.heap.size + 1 + 1) (.int .i64 (K : Int)) (.slice a' K ca') (.slice b' K cb') /\ Th (((w4.setCell ⟨w.heap.size + 1 + 1, 0, none⟩ (.int .i64 (K : Int))).setCell ⟨w.heap.size + 1 + 1, 1, none⟩ (.slice a' K ca')).setCell ⟨w.heap.size + 1 + 1, 2, none⟩ (.slice b' K cb')) ⟨K, L1, L2⟩ a' b' ca' cb' /\ Below w.heap.size w (((w4.setCell ⟨w.heap.size + 1 + 1, 0, none⟩ (.int .i64 (K : Int))).setCell ⟨w.heap.size + 1 + 1, 1, none⟩ (.slice a' K ca')).setCell ⟨w.heap.size + 1 + 1, 2, none⟩ (.slice b' K cb'))) := hide (by
    have hs3 : V0.heap.size <= w3.heap.size := hy3.size
    have o3 : POo w3 V0.heap.size a' L1 := ho3
    have e0 := HK64.out
    have e1 := HL1.out
    have e2 := HL2.out
    refine ⟨hz4.set _ _ _, ⟨((o3.below q4).kept (fun g hg hlt => set3_heap _ _ _ _ _ _ (by omega))).pin, (ho4.kept (fun g hg hlt => set3_heap _ _ _ _ _ _ (by omega))).pin, HW1.out, HW2.out, by show L1.length <= _; omega, by show L2.length <= _; omega, by show L1.length <= _; omega, by show L2.length <= _; omega⟩, below_set3 (HBV.out _ hb4) _ _ _ (by omega)⟩)
  clear z0 z1 z2 z3 zf hz4 hb4 hb3 hy3 q3 q4 ho3 ho4 HSV HBV HM HD0 HE1 HC3 HC4 HZ2
  generalize ((w4.setCell ⟨w.heap.size + 1 + 1, 0, none⟩ (.int .i64 (K : Int))).setCell ⟨w.heap.size + 1 + 1, 1, none⟩ (.slice a' K ca')).setCell ⟨w.heap.size + 1 + 1, 2, none⟩ (.slice b' K cb') = W5 at *
  go_wp2_with fail
  have hR := HX.out.1
  unfold At3 at hR
  refine bodyPost_ret (Pau.results_ct rfl _ _ (w.heap.size + 1 + 1) _ _ _ _ rfl hR Tryz.underlying29 rfl (by exact infoT)) rfl ?_
  exact ⟨a', b', ca', cb', rfl, HX.out.2.1, HX.out.2.2⟩
theorem tKron (t u : TT) (a b a2 b2 : Option Addr) (ca cb ca2 cb2 : Nat) (w : World) (h : Th w t a b ca cb) (h2 : Th w u a2 b2 ca2 cb2) :
    Calls Tryz.prog 13 #[tV t a b ca cb, tV u a2 b2 ca2 cb2] w fun e w' => ∃ a' b' ca' cb', e = .returned (.tuple #[tV (krR t u).1 a' b' ca' cb', .int .i64 (krR t u).2]) /\ Th w' (krR t u).1 a' b' ca' cb' /\ Below w.heap.size w w' := by
  by_cases hh : chB t = true /\ chB u = true /\ t.n + u.n <= 64
  . have e : krR t u = (⟨t.n + u.n, krL (t.n + u.n) t.s u.s, krL (t.n + u.n) t.d u.d⟩, 0) := by unfold krR; rw [if_pos ⟨hh.1, hh.2.1⟩, if_pos hh.2.2]
    rw [e]
    exact tKron_ok t u a b a2 b2 ca cb ca2 cb2 hh.1 hh.2.1 hh.2.2 w h h2
  . exact tKron_no t u a b a2 b2 ca cb ca2 cb2 hh w h h2
end Go.Proofs.YtpehekonjdneaaaGreatDoor.Tbl
