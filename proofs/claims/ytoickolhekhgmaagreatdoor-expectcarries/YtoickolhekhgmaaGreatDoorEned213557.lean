/- ExpectCarries answers true for every circuit, every string and every tableau: package expect's Forth, Back and Tableau and the document's answer the same strings, numbers and errors, and the set-up answers as told. Its conditions: the listed tables of packages gate, pauli and math/bits lie as they are laid. -/
import Derived.Test.YtoickolhekhgmaaGreatDoorEn02defc17
import Derived.Test.YtoickolhekhgmaaGreatDoorEndeb24685
import Derived.Test.YtoickolhekhgmaaGreatDoorEna1ed77f6
import Derived.Test.YtoickolhekhgmaaGreatDoorEn3492b52c
namespace Go.Proofs.YtoickolhekhgmaaGreatDoor.Cir
end Go.Proofs.YtoickolhekhgmaaGreatDoor.Cir
namespace Go.Proofs.YtoickolhekhgmaaGreatDoor.Exp
end Go.Proofs.YtoickolhekhgmaaGreatDoor.Exp
namespace Go.Proofs.YtoickolhekhgmaaGreatDoor.Gt
end Go.Proofs.YtoickolhekhgmaaGreatDoor.Gt
namespace Go.Proofs.YtoickolhekhgmaaGreatDoor.Oct
end Go.Proofs.YtoickolhekhgmaaGreatDoor.Oct
namespace Go.Proofs.YtoickolhekhgmaaGreatDoor.Pau
end Go.Proofs.YtoickolhekhgmaaGreatDoor.Pau
namespace Go.Proofs.YtoickolhekhgmaaGreatDoor.Tbl
end Go.Proofs.YtoickolhekhgmaaGreatDoor.Tbl
namespace Go.Proofs.YtoickolhekhgmaaGreatDoor.Tok
end Go.Proofs.YtoickolhekhgmaaGreatDoor.Tok
set_option maxRecDepth 100000
set_option maxHeartbeats 4000000
namespace Go.Proofs.YtoickolhekhgmaaGreatDoor.Exp
open Go.RowKit Go.Shelf Go.Proofs.YtoickolhekhgmaaGreatDoor.Oct Go.Proofs.YtoickolhekhgmaaGreatDoor.Tok Go.Proofs.YtoickolhekhgmaaGreatDoor.Gt Go.Proofs.YtoickolhekhgmaaGreatDoor.Cir
open Go.Proofs.YtoickolhekhgmaaGreatDoor.Pau (P pV Wd At4 bkp)
open Go.Proofs.YtoickolhekhgmaaGreatDoor.Tbl (TT tV Th mbI csI)
theorem xTab (t : TT) (a b : Option Addr) (ca cb : Nat) (p : P) (hp : Wd p) (w : World) (h : Th w t a b ca cb) : Calls Tryz.prog 8 #[tV t a b ca cb, pV p] w fun e w' => e = .returned (.tuple #[.int .i64 (mbI t p), .int .i64 (csI t p)]) /\ Below w.heap.size w w' := by
  have c1 := fun V (hb : Below w.heap.size w V) => Tbl.tMemberP t a b ca cb p hp V (h.below hb)
  obtain ⟨pn, px, pz, pp⟩ := p
  obtain ⟨tn, ts, td⟩ := t
  unfold tV pV at *
  simp only at *
  generalize ts.length = ls at *
  generalize td.length = ld at *
  have hB0 : Below w.heap.size w ((w.alloc (.cells #[.int .i64 tn, .slice a ls ca, .slice b ld cb] 30)).alloc (.cells #[.int .i64 pn, .int .u64 (px : Int), .int .u64 (pz : Int), .int .i64 pp] 27)) := (bnew _ _).trans ((bnew _ _).mono (by simp))
  clear hp h
  go_enter Tryz.func8, Tryz.ntmps8
  go_wp2_with (go_at_call 19; refine (c1 _ hB0).mono ?_; rintro e w2 ⟨rfl, hb2⟩)
  refine bodyPost_ret (results_tmp2 rfl _ _ _) rfl ?_
  exact ⟨rfl, bkp hB0 hb2⟩
theorem xNum (n : Int) (w : World) : Calls Tryz.prog 10 #[.int .i64 n] w fun e w' => e = .returned (.int .i64 n) /\ w' = w := by
  go_enter Tryz.func10, Tryz.ntmps10
  go_wp2_with fail
  go_ret
  exact ⟨rfl, rfl⟩
structure BY (w : World) (g : Nat) (q b : Int) (ao : Option Addr) (n k : Nat) (x0 x1 x2 x3 : Value) (tn : Int) (v1 v2 : Value) : Prop where
  bx : BX w g q b ao n k x0 x1 x2 x3
  t : w.heap[g + 2]? = some (.cells #[.int .i64 tn, v1, v2] 30 (0, 0))
theorem BY.below {w w' : World} {g : Nat} {q b : Int} {ao : Option Addr} {n k : Nat} {x0 x1 x2 x3 : Value} {tn : Int} {v1 v2 : Value} (h : BY w g q b ao n k x0 x1 x2 x3 tn v1 v2) (hb : Below w.heap.size w w') : BY w' g q b ao n k x0 x1 x2 x3 tn v1 v2 :=
  ⟨h.bx.below hb, (hb.block _ (Array.getElem?_eq_some_iff.1 h.t).1).trans h.t⟩
theorem BY.cells {w : World} {g : Nat} {q b : Int} {ao : Option Addr} {n k : Nat} {x0 x1 x2 x3 : Value} {tn : Int} {v1 v2 : Value} (h : BY w g q b ao n k x0 x1 x2 x3 tn v1 v2) : w.cell? ⟨g, 0, none⟩ = some (.int .i64 q) /\ w.cell? ⟨g, 1, none⟩ = some (.int .i64 b) /\ w.cell? ⟨g, 2, none⟩ = some (.slice ao n k) /\
    w.cell? ⟨g + 1, 0, none⟩ = some x0 /\ w.cell? ⟨g + 1, 1, none⟩ = some x1 /\ w.cell? ⟨g + 1, 2, none⟩ = some x2 /\ w.cell? ⟨g + 1, 3, none⟩ = some x3 /\ w.cell? ⟨g + 2, 0, none⟩ = some (.int .i64 tn) /\ w.cell? ⟨g + 2, 1, none⟩ = some v1 /\ w.cell? ⟨g + 2, 2, none⟩ = some v2 /\ g + 2 < w.heap.size := by
  obtain ⟨a0, a1, a2, b0, b1, b2, b3, -⟩ := h.bx.cells
  obtain ⟨d0, d1, d2, d3⟩ := def_cells h.t
  exact ⟨a0, a1, a2, b0, b1, b2, b3, d0, d1, d2, d3⟩
theorem xExpectCarries (c : Circ) (ao : Option Addr) (k : Nat) (p : P) (t : TT) (a b : Option Addr) (ca cb : Nat) (hp : Wd p) (w : World) (hT : Tw w) (hC : Ci w c ao k) (hH : Th w t a b ca cb) : Calls Tryz.prog 3 #[cV c ao k, pV p, tV t a b ca cb] w fun e w' => e = .returned (.bool true) /\ Below w.heap.size w w' := by
  have c1 := fun V (h : Below w.heap.size w V) => xForth c ao k p hp V (hT.tg.below h) (hC.below h)
  have c2 := fun V (h : Below w.heap.size w V) => dForth c ao k p hp V (hC.below h)
  have c3 := fun V (h : Below w.heap.size w V) => xBack c ao k p hp V (hT.tg.below h) (hC.below h)
  have c4 := fun V (h : Below w.heap.size w V) => dBack c ao k p hp V (hC.below h)
  have c5 := fun V (h : Below w.heap.size w V) => xTab t a b ca cb p hp V (hH.below h)
  have c6 := fun V (h : Below w.heap.size w V) => Tbl.dMember t a b ca cb p hp V (hH.below h)
  have c7 := fun V (h : Below w.heap.size w V) => xAlive V (hT.below h)
  have c8 := xNum
  clear hT hC hH hp
  generalize fwR c p = R at *
  generalize bwR c p = S at *
  generalize mbI t p = M at *
  generalize csI t p = N at *
  obtain ⟨⟨rn, rx, rz, rp⟩, re⟩ := R
  obtain ⟨⟨sn, sx, sz, sp⟩, se⟩ := S
  have heq1 := fun W => Pau.eql_same rn (rx : Int) (rz : Int) rp W
  have heq2 := fun W => Pau.eql_same sn (sx : Int) (sz : Int) sp W
  obtain ⟨q, bb, ops⟩ := c
  obtain ⟨pn, px, pz, pp⟩ := p
  obtain ⟨tn, ts, td⟩ := t
  unfold cV pV tV at *
  simp only at *
  generalize ops.length = n at *
  generalize ts.length = ls at *
  generalize td.length = ld at *
  have HX0 : Hid (BY (((w.alloc (.cells #[.int .i64 q, .int .i64 bb, .slice ao n k] 24)).alloc (.cells #[.int .i64 pn, .int .u64 (px : Int), .int .u64 (pz : Int), .int .i64 pp] 27)).alloc (.cells #[.int .i64 tn, .slice a ls ca, .slice b ld cb] 30)) w.heap.size q bb ao n k (.int .i64 pn) (.int .u64 (px : Int)) (.int .u64 (pz : Int)) (.int .i64 pp) tn (.slice a ls ca) (.slice b ld cb)) := by
    refine hide ⟨(BX.new w q bb ao n k _ _ _ _).below (bnew _ _), ?_⟩
    have := heap_alloc_new ((w.alloc (.cells #[.int .i64 q, .int .i64 bb, .slice ao n k] 24)).alloc (.cells #[.int .i64 pn, .int .u64 (px : Int), .int .u64 (pz : Int), .int .i64 pp] 27)) (.cells #[.int .i64 tn, .slice a ls ca, .slice b ld cb] 30)
    rw [World.size_alloc, World.size_alloc] at this
    exact this
  have HB0 : Hid (Below w.heap.size w (((w.alloc (.cells #[.int .i64 q, .int .i64 bb, .slice ao n k] 24)).alloc (.cells #[.int .i64 pn, .int .u64 (px : Int), .int .u64 (pz : Int), .int .i64 pp] 27)).alloc (.cells #[.int .i64 tn, .slice a ls ca, .slice b ld cb] 30))) := hide (bkp (BX.bel w q bb ao n k _ _ _ _) (bnew _ _))
  obtain ⟨x0, x1, x2, x3, x4, x5, x6, x7, x8, x9, x10⟩ := HX0.out.cells
  go_enter Tryz.func3, Tryz.ntmps3
  go_wp2_with (first
    | (go_at_call 4; refine (c1 _ HB0.out).mono ?_; rintro e w1 ⟨rfl, hb1⟩; have hn1 := bnew w1 (.cells #[.int .i64 rn, .int .u64 (rx : Int), .int .u64 (rz : Int), .int .i64 rp] 27); have HB1 := hide (bkp (bkp HB0.out hb1) hn1); have HX1 := hide ((HX0.out.below hb1).below hn1); have L11 := hide (At4.new w1 (.int .i64 rn) (.int .u64 (rx : Int)) (.int .u64 (rz : Int)) (.int .i64 rp)); clear x0 x1 x2 x3 x4 x5 x6 x7 x8 x9 x10 hb1 hn1 HB0 HX0 c1; obtain ⟨x0, x1, x2, x3, x4, x5, x6, x7, x8, x9, x10⟩ := HX1.out.cells)
    | (go_at_call 5; refine (c2 _ HB1.out).mono ?_; rintro e w2 ⟨rfl, hb2⟩; have hn2 := bnew w2 (.cells #[.int .i64 rn, .int .u64 (rx : Int), .int .u64 (rz : Int), .int .i64 rp] 27); have HB2 := hide (bkp (bkp HB1.out hb2) hn2); have HX2 := hide ((HX1.out.below hb2).below hn2); have L12 := hide ((L11.out.below hb2).below hn2); have L22 := hide (At4.new w2 (.int .i64 rn) (.int .u64 (rx : Int)) (.int .u64 (rz : Int)) (.int .i64 rp)); clear x0 x1 x2 x3 x4 x5 x6 x7 x8 x9 x10 hb2 hn2 HB1 HX1 c2 L11; obtain ⟨x0, x1, x2, x3, x4, x5, x6, x7, x8, x9, x10⟩ := HX2.out.cells)
    | (go_at_call 6; refine (c3 _ HB2.out).mono ?_; rintro e w3 ⟨rfl, hb3⟩; have hn3 := bnew w3 (.cells #[.int .i64 sn, .int .u64 (sx : Int), .int .u64 (sz : Int), .int .i64 sp] 27); have HB3 := hide (bkp (bkp HB2.out hb3) hn3); have HX3 := hide ((HX2.out.below hb3).below hn3); have L13 := hide ((L12.out.below hb3).below hn3); have L23 := hide ((L22.out.below hb3).below hn3); have L33 := hide (At4.new w3 (.int .i64 sn) (.int .u64 (sx : Int)) (.int .u64 (sz : Int)) (.int .i64 sp)); clear x0 x1 x2 x3 x4 x5 x6 x7 x8 x9 x10 hb3 hn3 HB2 HX2 c3 L12 L22; obtain ⟨x0, x1, x2, x3, x4, x5, x6, x7, x8, x9, x10⟩ := HX3.out.cells)
    | (go_at_call 7; refine (c4 _ HB3.out).mono ?_; rintro e w4 ⟨rfl, hb4⟩; have hn4 := bnew w4 (.cells #[.int .i64 sn, .int .u64 (sx : Int), .int .u64 (sz : Int), .int .i64 sp] 27); have HB4 := hide (bkp (bkp HB3.out hb4) hn4); have HX4 := hide ((HX3.out.below hb4).below hn4); have L14 := hide ((L13.out.below hb4).below hn4); have L24 := hide ((L23.out.below hb4).below hn4); have L34 := hide ((L33.out.below hb4).below hn4); have L44 := hide (At4.new w4 (.int .i64 sn) (.int .u64 (sx : Int)) (.int .u64 (sz : Int)) (.int .i64 sp)); clear x0 x1 x2 x3 x4 x5 x6 x7 x8 x9 x10 hb4 hn4 HB3 HX3 c4 L13 L23 L33; obtain ⟨x0, x1, x2, x3, x4, x5, x6, x7, x8, x9, x10⟩ := HX4.out.cells)
    | (go_at_call 8; refine (c5 _ HB4.out).mono ?_; rintro e w5 ⟨rfl, hb5⟩; have HB5 := hide (bkp HB4.out hb5); have HX5 := hide (HX4.out.below hb5); have L15 := hide (L14.out.below hb5); have L25 := hide (L24.out.below hb5); have L35 := hide (L34.out.below hb5); have L45 := hide (L44.out.below hb5); clear x0 x1 x2 x3 x4 x5 x6 x7 x8 x9 x10 hb5 HB4 HX4 c5 L14 L24 L34 L44; obtain ⟨x0, x1, x2, x3, x4, x5, x6, x7, x8, x9, x10⟩ := HX5.out.cells)
    | (go_at_call 9; refine (c6 _ HB5.out).mono ?_; rintro e w6 ⟨rfl, hb6⟩; have HB6 := hide (bkp HB5.out hb6); have HX6 := hide (HX5.out.below hb6); have L16 := hide (L15.out.below hb6); have L26 := hide (L25.out.below hb6); have L36 := hide (L35.out.below hb6); have L46 := hide (L45.out.below hb6); clear x0 x1 x2 x3 x4 x5 x6 x7 x8 x9 x10 hb6 HB5 HX5 c6 L15 L25 L35 L45; obtain ⟨a0, a1, a2, a3, a4⟩ := L16.out.cells; obtain ⟨b0, b1, b2, b3, b4⟩ := L26.out.cells; obtain ⟨d0, d1, d2, d3, d4⟩ := L36.out.cells; obtain ⟨e0, e1, e2, e3, e4⟩ := L46.out.cells)
    | (go_at_call 10; refine (c8 _ _).mono ?_; rintro e y ⟨rfl, rfl⟩)
    | (go_at_call 11; refine (c7 _ HB6.out).mono ?_; rintro e w7 ⟨rfl, hb7⟩; have HB7 := hide (bkp HB6.out hb7)))
  go_ret
  exact ⟨rfl, HB7.out⟩
end Go.Proofs.YtoickolhekhgmaaGreatDoor.Exp
namespace Go.Proofs.YtoickolhekhgmaaGreatDoor.Pau
open Go.ChangeShapes Go.WideShapes Go.ChangeAt Go.RowKit Go.Shelf Go.Proofs.YtoickolhekhgmaaGreatDoor.Gt Go.Proofs.YtoickolhekhgmaaGreatDoor.Tbl Go.Proofs.YtoickolhekhgmaaGreatDoor.Exp
theorem db_of {W : World} (h : laidMet Tryz.prog laid8 W) : ∀ i v, lv4[i]? = some v -> W.cell? ⟨4, i, none⟩ = some v :=
  Ev.cells_of_reads (P := Tryz.prog) (vs := lv4) (t := (Tryz.prog.globals[4]?.map (·.type)).getD 0) 8 (Lib.laidMet.reads h (n := "math/bits.deBruijn64tab") (d := Rows.laid_math_bits_deBruijn64tab) (by first | exact .head _ | exact .tail _ (.head _) | exact .tail _ (.tail _ (.head _)) | exact .tail _ (.tail _ (.tail _ (.head _))) | exact .tail _ (.tail _ (.tail _ (.tail _ (.head _)))))) (by kernel_rfl) (by kernel_rfl) (by kernel_rfl)
namespace expectCarries
theorem readable : ∀ t ∈ Tryz.f3.params.toList, Tryz.prog.readableRec t = true /\ t < Tryz.prog.types.size := by
  rw [Tryz.params3]
  intro t ht
  simp at ht
  rcases ht with rfl | rfl | rfl <;> exact ⟨by kernel_rfl, of_decide_eq_true (by kernel_rfl)⟩
theorem contract (H : Type) (enc : TypeId × Value -> H) (W : World) (base : Nat) (args : Array Value) (ds gs : List (DataW H)) (before : List MemPlace)
    (hval : ∀ (j : Nat) t v, Tryz.f3.params[j]? = some t -> args[j]? = some v -> Value.okWide Tryz.prog W .any base t v)
    (hW : DataW.Whole enc Tryz.prog Tryz.f3.params.toList Rows.expectCarriesSpec.vars false W args.toList ds gs before) 
    (hsz : (DataW.weightsEach Tryz.prog (Tryz.f3.params.toList ++ (OpenSpec.ofChange Rows.expectCarriesSpec).bare.plain.varTypes Tryz.prog) (ds ++ gs)).all (· <= reachBytes) = true) (hL : laidMetH Tryz.prog Rows.expectCarriesRow.laid W) :
    Calls Tryz.prog 3 args W fun e W' => ∃ v, e = .returned v /\ Rows.expectCarriesSpec.post enc Tryz.prog Tryz.f3 false true false false W args v W' := by
  have hT : Tbl.Tg W := tg_of (plain8 hL)
  have hW0 := hW
  obtain ⟨p, q, hA, hV, rfl, _, _⟩ := hW
  obtain ⟨rfl, rfl⟩ := trodVars_none hV
  have hA' : DataW.TrodAll enc Tryz.prog W 0 (fun _ => true) true Tryz.f3.params.toList args.toList ds p := hA
  rw [Tryz.params3] at hA' hval
  have hfin : ∀ dd : List (DataW H), ds = dd -> (Rows.expectCarriesSpec.fn H dd).results = [.lit (.bool true)] /\ (Rows.expectCarriesSpec.fn H dd).args = dd /\ (Rows.expectCarriesSpec.fn H dd).vars = [] -> ∀ W', Below W.heap.size W W' -> Rows.expectCarriesSpec.post enc Tryz.prog Tryz.f3 false true false false W args (.bool true) W' := by
    rintro dd rfl hs W' hb
    exact law_post (enc := enc) Tryz.f3 Rows.expectCarriesSpec 4 laidOut rfl readable (by kernel_rfl) Tryz.underlying4 hW0 hs hb
  obtain ⟨v0, v1, v2, d0, d1, d2, p0, p1, p2, rfl, rfl, rfl, h0, h1, h2⟩ := trodAll_three hA'
  have hwalk : Calls Tryz.prog 3 #[v0, v1, v2] W fun e W' => e = .returned (.bool true) /\ Below W.heap.size W W' := by
    obtain ⟨c, ao, k, rfl, hC, -, -⟩ := Cir.circ_openS (hval 0 _ v0 rfl rfl) h0 (fun n hn => by simpa using List.all_eq_true.1 hsz n (DataW.weights_mem_each (j := 0) (t := 24) (d := d0) (by rw [Tryz.params3]; rfl) rfl n hn))
    obtain ⟨p, rfl, hp⟩ := pau_open (hval 1 _ v1 rfl rfl) h1
    obtain ⟨t, a, b, ca, cb, rfl, hth, -, -⟩ := tab_open (hval 2 _ v2 rfl rfl) h2 (fun n hn => by simpa using List.all_eq_true.1 hsz n (DataW.weights_mem_each (j := 2) (t := 30) (d := d2) (by rw [Tryz.params3]; rfl) rfl n hn))
    exact xExpectCarries c ao k p t a b ca cb hp W ⟨hT, db_of (plain8 hL)⟩ hC hth
  refine hwalk.mono ?_
  rintro e W' ⟨rfl, hb⟩
  exact ⟨_, rfl, hfin _ rfl ⟨rfl, rfl, rfl⟩ W' hb⟩
theorem laid_met (os : Os) (args : Array Value) : laidMet Tryz.prog Rows.expectCarriesRow.laid ((laidWorld os).forCall (fun _ _ => 0) ⟨#[], args, []⟩).memory :=
  laid_met8 os args
theorem reads (os : Os) {H : Type} (enc : TypeId × Value -> H) : ∃ places, DataW.whole enc Tryz.prog ((laidWorld os).forCall (fun _ _ => 0) ⟨#[], #[.agg #[.int .i64 0, .int .i64 0, .slice none 0 0], .agg #[.int .i64 0, .int .u64 0, .int .u64 0, .int .i64 0], .agg #[.int .i64 0, .slice none 0 0, .slice none 0 0]], []⟩).memory Tryz.f3.params.toList Rows.expectCarriesSpec.vars false #[(.agg #[.int .i64 0, .int .i64 0, .slice none 0 0] : Value), .agg #[.int .i64 0, .int .u64 0, .int .u64 0, .int .i64 0], .agg #[.int .i64 0, .slice none 0 0, .slice none 0 0]].toList 8 = some ([.agg [.lit (.int .i64 0), .lit (.int .i64 0), .nil], .agg [.lit (.int .i64 0), .lit (.int .u64 0), .lit (.int .u64 0), .lit (.int .i64 0)], .agg [.lit (.int .i64 0), .nil, .nil]], [], places) :=
  ⟨[], by kernel_rfl⟩
theorem lifted (os : Os) (started : os.Started) (H : Type) (enc : TypeId × Value -> H) (F : Stop.Interp) :
    ReturnsInHanded {} Tryz.checked os 3 .any ((OpenSpec.ofChange Rows.expectCarriesSpec).preRow enc Tryz.prog Tryz.f3 Rows.expectCarriesRow.domain false Rows.expectCarriesRow.laid) (((OpenSpec.ofChange Rows.expectCarriesSpec).at F).post enc Tryz.prog Tryz.f3 false true false false) := by
  obtain ⟨places, hx⟩ := reads os enc
  refine returnsInHanded_of_row (C := Tryz.checked) (s := OpenSpec.ofChange Rows.expectCarriesSpec) own started (by kernel_rfl) Tryz.func3
    (witness_row_shaped (enc := enc) (C := Tryz.checked) false (laidWorld os) #[.agg #[.int .i64 0, .int .i64 0, .slice none 0 0], .agg #[.int .i64 0, .int .u64 0, .int .u64 0, .int .i64 0], .agg #[.int .i64 0, .slice none 0 0, .slice none 0 0]] (laidWorld_os os) (shaped8 os _) (by kernel_rfl)
      (OpenSpec.preRow_of_cond 8 hx (by kernel_rfl) (fun k hk => by cases hk) (by kernel_rfl) (laid_met os _))) ?_
  intro W base args ds gs before hval hW _ _ hsz hL _ _
  exact contract H enc W base args ds gs before hval hW hsz hL
theorem said : Rows.ExpectCarriesSaid :=
  OpenClaim.holds_of_cond 3 Tryz.f3 rfl rfl rfl rfl rfl rfl rfl ⟨rfl, rfl, rfl, rfl, rfl⟩ rfl rfl rfl rfl rfl (by kernel_rfl) Tryz.func3 (by kernel_rfl)
    (of_decide_eq_true (by kernel_rfl)) (by unfold Func.isWrapper; first | (rw [if_pos (by decide +kernel)]; kernel_rfl) | (rw [if_neg (by decide +kernel)]; exact ⟨rfl, rfl⟩))
    (fun os started H enc _ F => by rw [OpenClaim.pre_eq_preRow]; exact lifted os started H enc F)
theorem plain (f : FuncId) (fn : Func) (hf : Tryz.pinned.checked.prog.funcNamed "phasor/phasorlaw22.ExpectCarries" = some f) (hfn : Tryz.pinned.checked.prog.funcs[f]? = some fn) :
    false = Tryz.pinned.checked.prog.looks [] /\ ∀ (j : Nat) t, fn.params[j]? = some t -> Tryz.pinned.checked.prog.wantsStandIn t = false := by
  obtain rfl : f = 3 := Option.some.inj ((show Tryz.prog.funcNamed "phasor/phasorlaw22.ExpectCarries" = some 3 by kernel_rfl).symm.trans hf) |>.symm
  obtain rfl : fn = Tryz.f3 := (Option.some.inj (Tryz.func3.symm.trans hfn)).symm
  refine ⟨by kernel_rfl, fun j t ht => ?_⟩
  rw [Tryz.params3] at ht
  have hm := Array.mem_of_getElem? ht
  simp at hm
  rcases hm with rfl | rfl | rfl
  . exact (show Tryz.prog.wantsStandIn 24 = false by kernel_rfl)
  . exact (show Tryz.prog.wantsStandIn 27 = false by kernel_rfl)
  . exact (show Tryz.prog.wantsStandIn 30 = false by kernel_rfl)
end expectCarries
end Go.Proofs.YtoickolhekhgmaaGreatDoor.Pau
namespace Go.Proofs.YtoickolhekhgmaaGreatDoor
open Go
theorem ExpectCarries_card : Rows.ExpectCarriesCardSaid :=
  Claim7.holds_tied_plain_at .later [] _ _ _ _ Pau.expectCarries.said (fun _ h => by cases h) (by kernel_rfl) (fun _ h => by cases h) expectCarries_row_tie rfl ⟨rfl, rfl⟩ (by kernel_rfl) rfl Pau.expectCarries.plain (by kernel_rfl)
end Go.Proofs.YtoickolhekhgmaaGreatDoor
